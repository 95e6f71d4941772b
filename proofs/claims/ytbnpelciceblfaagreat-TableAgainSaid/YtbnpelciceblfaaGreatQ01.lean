/- Base YMath Own RowT TMath Strs TMem RowU RowV Open -/
import Derived.WalkSpells
import Derived.Lib.Hide
import Derived.Deep.RegionHeld
import Derived.Test.YtbnpelciceblfaaGreatRows
import Derived.Lib.SmallJoins
namespace Go.Proofs.YtbnpelciceblfaaGreat
set_option linter.unusedVariables false
open Go.RowKit Go.ChangeShapes Go.WideShapes
set_option maxHeartbeats 64000000
theorem Grown3 {W a b c:World} (h:Grown W a) (h2:Grown a b) (h3:Grown b c):Grown W c:=by
 obtain ⟨k1,f1,s1⟩:=h; obtain ⟨k2,f2,s2⟩:=h2; obtain ⟨k3,f3,s3⟩:=h3
 exact ⟨World.keptBut_trans k1 (World.keptBut_trans k2 k3),fun a => (f3 a).trans ((f2 a).trans (f1 a)),Nat.le_trans s1 (Nat.le_trans s2 s3)⟩
theorem _root_.Go.RowKit.Grown.trans3 {W a b:World} (h:Grown W a) (h2:Grown a b):Grown W b:=Grown3 h h2 (Grown.refl _)
theorem gkeep {W w:World} (h:Grown W w) {a:Addr} {v:Value} (hc:W.cell? a = some v):w.cell? a = some v:=by
 obtain ⟨⟨_,_,hb⟩,_,_⟩:=h
 have hlt:a.block < W.heap.size:=by
  rcases Nat.lt_or_ge a.block W.heap.size with h | h
  · exact h
  · have e:W.heap[a.block]? = none:=by simp; omega
    simp [World.cell?,e] at hc
 have k:=hb a.block hlt
 unfold World.cell? at hc ⊢
 revert k hc
 cases W.heap[a.block]? with
 | none => intro hc; simp at hc
 | some o =>
   cases o with
   | cells c t fr =>
     cases w.heap[a.block]? with
     | none => intro hc k; simp at k
     | some o' =>
       cases o' with
       | cells c' t' fr' =>
         intro hc k
         dsimp only at hc k ⊢
         rw [k.2.2.2 a.off (fun f => f)]
         exact hc
       | _ => intro hc k; simp at k
   | _ => intro hc; simp at hc
theorem gfree {W w:World} (h:Grown W w) {a:Addr} (hc:W.frozen? a = false):w.frozen? a = false:=(h.2.1 a).trans hc
theorem csame {w:World} {a:Addr} {u v:Value} (h:w.cell? a = some u):(w.setCell a v).cell? a = some v:=World.cell?_setCell_same' w a v (by rw [h]; rfl)
theorem cother {w:World} {a b:Addr} {v:Value} (h:a ≠ b):(w.setCell a v).cell? b = w.cell? b:=by
 first | exact World.cell?_setCell_other h | exact World.cell?_setCell_other _ _ _ _ h | exact World.cell?_setCell_other _ _ h | exact World.cell?_setCell_other _ h
theorem kalloc {w:World} {a:Addr} {v:Value} {o:Obj} (h:w.cell? a = some v):(w.alloc o).cell? a = some v:=(World.cell?_alloc_some w a o (by rw [h]; rfl)).trans h
theorem gdrewN (w:World) (n:Nat):Grown w (w.drewN n):=Grown.refl w
def Wider (W w:World):Prop:=W.keptBut w (fun _ => False) ∧ W.heap.size ≤ w.heap.size
theorem Wider.refl (W:World):Wider W W:=⟨World.keptBut_refl _ _,Nat.le_refl _⟩
theorem Wider.trans {a b c:World} (h:Wider a b) (k:Wider b c):Wider a c:=⟨World.keptBut_trans h.1 k.1,Nat.le_trans h.2 k.2⟩
theorem _root_.Go.RowKit.Grown.wider {W w:World} (h:Grown W w):Wider W w:=⟨h.1,h.2.2⟩
theorem Wider.alloc {W w:World} (h:Wider W w) (o:Obj):Wider W (w.alloc o) :=
 ⟨World.keptBut_trans h.1 (World.keptBut_alloc _ _ _),Nat.le_trans h.2 (by show w.heap.size ≤ (w.heap.push _).size; simp)⟩
theorem Wider.drew {W w:World} (h:Wider W w):Wider W w.drew:=h
theorem Wider.drewN {W w:World} (h:Wider W w) (n:Nat):Wider W (w.drewN n):=h
theorem Wider.setCell {W w:World} (h:Wider W w) {a:Addr} (ha:W.heap.size ≤ a.block) (v:Value):Wider W (w.setCell a v):=by
 obtain ⟨⟨h1,h2,h3⟩,hs⟩:=h
 refine ⟨⟨h1,h2,fun i hi => ?_⟩,by simpa [World.setCell] using hs⟩
 have e:(w.setCell a v).heap[i]? = w.heap[i]? :=by
  simp only [World.setCell,Array.getElem?_modify]
  rw [if_neg (by omega)]
 rw [e]
 exact h3 i hi
theorem wlt {W:World} {a:Addr} {v:Value} (hc:W.cell? a = some v):a.block < W.heap.size:=by
 rcases Nat.lt_or_ge a.block W.heap.size with h | h
 · exact h
 · have e:W.heap[a.block]? = none:=by simp; omega
   simp [World.cell?,e] at hc
theorem wkeep {W w:World} (h:Wider W w) {a:Addr} {v:Value} (hc:W.cell? a = some v):w.cell? a = some v:=by
 have hlt:=wlt hc
 obtain ⟨⟨_,_,hb⟩,_⟩:=h
 have k:=hb a.block hlt
 unfold World.cell? at hc ⊢
 revert k hc
 cases W.heap[a.block]? with
 | none => intro hc; simp at hc
 | some o =>
   cases o with
   | cells c t fr =>
     cases w.heap[a.block]? with
     | none => intro hc k; simp at k
     | some o' =>
       cases o' with
       | cells c' t' fr' =>
         intro hc k
         dsimp only at hc k ⊢
         rw [k.2.2.2 a.off (fun f => f)]
         exact hc
       | _ => intro hc k; simp at k
   | _ => intro hc; simp at hc
theorem wfree {W w:World} (h:Wider W w) {a:Addr} {v:Value} (hc:W.cell? a = some v) (hf:W.frozen? a = false):w.frozen? a = false:=by
 have hlt:=wlt hc
 obtain ⟨⟨_,_,hb⟩,_⟩:=h
 have k:=hb a.block hlt
 unfold World.cell? at hc
 unfold World.frozen? at hf ⊢
 revert k hc hf
 cases W.heap[a.block]? with
 | none => intro hc; simp at hc
 | some o =>
   cases o with
   | cells c t fr =>
     cases w.heap[a.block]? with
     | none => intro hc hf k; simp at k
     | some o' =>
       cases o' with
       | cells c' t' fr' =>
         intro hc hf k
         dsimp only at hf k ⊢
         rw [k.2.1]
         exact hf
       | _ => intro hc hf k; simp at k
   | _ => intro hc; simp at hc
theorem wfrozen {W w:World} (h:Wider W w) {a:Addr} (ha:a.block < W.heap.size):w.frozen? a = W.frozen? a:=by
 obtain ⟨⟨_,_,hb⟩,_⟩:=h
 have k:=hb a.block ha
 unfold World.frozen?
 revert k
 cases W.heap[a.block]? with
 | none =>
   intro k
   cases hw:w.heap[a.block]? with
   | none => rfl
   | some o => rw [hw] at k; simp at k
 | some o =>
   cases o with
   | cells c t fr =>
     cases w.heap[a.block]? with
     | none => intro k; simp at k
     | some o' =>
       cases o' with
       | cells c' t' fr' => intro k; dsimp only at k ⊢; rw [k.2.1]
       | _ => intro k; simp at k
   | map es cl =>
     cases w.heap[a.block]? with
     | none => intro k; simp at k
     | some o' => cases o' <;> intro k <;> first | rfl | simp at k
   | _ =>
     cases w.heap[a.block]? with
     | none => intro k; simp at k
     | some o' => intro k; simp at k; rw [k]
theorem wheap {W w:World} (h:Wider W w) {i:Nat} (hi:i < W.heap.size):w.heap[i]? = W.heap[i]? :=by
 obtain ⟨⟨_,_,hb⟩,_⟩:=h
 have k:=hb i hi
 revert k
 cases W.heap[i]? with
 | none =>
   intro k
   cases hw:w.heap[i]? with
   | none => rfl
   | some o => rw [hw] at k; simp at k
 | some o =>
   cases o with
   | cells c t fr =>
     cases w.heap[i]? with
     | none => intro k; simp at k
     | some o' =>
       cases o' with
       | cells c' t' fr' =>
         intro k
         dsimp only at k
         obtain ⟨k1,k2,k3,k4⟩:=k
         have e:c' = c:=by
          apply Array.ext_getElem?
          intro j
          exact k4 j (fun f => f)
         rw [k1,k2,e]
       | _ => intro k; simp at k
   | map es cl =>
     cases w.heap[i]? with
     | none => intro k; simp at k
     | some o' =>
       cases o' with
       | map es' cl' =>
         intro k
         dsimp only at k
         rcases k with k | ⟨k1,k2⟩
         · exact k.elim
         · rw [k1,k2]
       | _ => intro k; simp at k
   | _ =>
     cases w.heap[i]? with
     | none => intro k; simp at k
     | some o' => intro k; simpa using k
theorem wsame {W w:World} (h:Wider W w) {p:MemPlace} (hp:p.block < W.heap.size):W.sameAt w p:=by
 cases p with
 | cell b o => exact World.cell?_of_block (w:=W) (wheap h hp)
 | map b => exact wheap h hp
theorem post_of_wider {H:Type} {enc:TypeId × Value → H} {P:Program} {f:Func} {s:ChangeSpec} {apart fresh handsOn again:Bool} {W W':World} {args:Array Value} {v:Value} {ds gs:List (DataW H)} {before pa pv:List MemPlace}
 (hW:DataW.Whole enc P f.params.toList s.vars apart W args.toList ds gs before)
 (hres:∀ (b:Nat) (sp:Nat → Bool) (hd:Bool),DataW.TrodAll enc P W' b sp hd f.resultTypes.toList (v.resultList f.resultTypes.size) (s.fn H (ds ++ gs)).results [])
 (hargs:∀ sp:Nat → Bool,(∀ p ∈ before,sp p.block = true) → DataW.TrodAll enc P W' 0 sp true f.params.toList args.toList (s.fn H (ds ++ gs)).args pa)
 (hvars:∀ sp:Nat → Bool,(∀ p ∈ before,sp p.block = true) → DataW.TrodVars enc P W' sp s.vars (s.fn H (ds ++ gs)).vars pv)
 (hps:before = pa ++ pv) (hg:Wider W W')
 (hok:∀ (j:Nat) (t:TypeId) (r:Value),f.resultTypes[j]? = some t → (v.resultList f.resultTypes.size)[j]? = some r → Value.okWide P W' .any 0 t r) :
 s.post enc P f apart fresh handsOn again W args v W':=by
 have hold:∀ p ∈ before,(fun b => decide (b < W.heap.size)) p.block = true:=fun p hp => by simpa using hW.lt p hp
 have hlt:∀ p ∈ before,p.block < W.heap.size:=fun p hp => by simpa using hW.lt p hp
 refine ⟨ds,gs,before,[],pa,pv,hW,hres _ _ _,hargs _ hold,hvars _ hold,World.keptBut_mono (fun p hp => hp.elim) hg.1,fun _ => ?_⟩
 obtain ⟨_,_,_,_,_,hz,hn⟩:=hW
 refine ⟨hok,_,_,([] ++ pa) ++ pv,⟨[] ++ pa,pv,trodAll_append (hargs _ (fun _ _ => rfl)) (hres _ _ _),hvars _ (fun _ _ => rfl),rfl,?_,?_⟩,?_⟩
 · intro b off hp
   have hp':MemPlace.cell b off ∈ before:=by rw [hps]; simpa using hp
   rw [wfrozen hg (hlt _ hp')]
   exact hz b off hp'
 · intro ha
   have:=hn ha
   rw [hps] at this
   simpa using this
 · intro p hp _
   rw [hps]
   simpa using hp
end Go.Proofs.YtbnpelciceblfaaGreat
namespace Go.Proofs.YtbnpelciceblfaaGreat
set_option linter.unusedVariables false
set_option maxHeartbeats 64000000
structure EntV where
 tb:Int
 key:ByteArray
 oth:ByteArray
 ln:Int
 pr:Int
 bk:Int
 args:List Int
 idle:Int
 hard:Int
 ck:Int
 tl:Bool
 deriving DecidableEq
def OneE (a b:EntV):Prop:=a.tb = b.tb ∧ a.key = b.key ∧ a.oth = b.oth ∧ a.ln = b.ln ∧ a.pr = b.pr
instance (a b:EntV):Decidable (OneE a b):=inferInstanceAs (Decidable (_ ∧ _ ∧ _ ∧ _ ∧ _))
theorem OneE.refl (a:EntV):OneE a a:=⟨rfl,rfl,rfl,rfl,rfl⟩
theorem OneE.symm {a b:EntV} (h:OneE a b):OneE b a:=⟨h.1.symm,h.2.1.symm,h.2.2.1.symm,h.2.2.2.1.symm,h.2.2.2.2.symm⟩
theorem OneE.trans {a b c:EntV} (h:OneE a b) (k:OneE b c):OneE a c:=⟨h.1.trans k.1,h.2.1.trans k.2.1,h.2.2.1.trans k.2.2.1,h.2.2.2.1.trans k.2.2.2.1,h.2.2.2.2.trans k.2.2.2.2⟩
structure HeldM where
 x:EntV
 put:Int
 found:Int
def clampT (now:Int):Int:=max 0 (min now 1099511627776)
theorem clampT_le (now:Int):0 ≤ clampT now ∧ clampT now ≤ 1099511627776:=by unfold clampT; omega
theorem clampT_id {t:Int} (h0:0 ≤ t) (h1:t ≤ 1099511627776):clampT t = t:=by unfold clampT; omega
def tagT (t:Int) (h:HeldM):Int:=if 0 < h.x.hard ∧ h.x.hard ≤ t - h.put then 1 else if 0 < h.x.idle ∧ h.x.idle ≤ t - h.found then 2 else 0
theorem tagT_cases (t:Int) (h:HeldM):(tagT t h = 1 ∧ 0 < h.x.hard ∧ h.x.hard ≤ t - h.put) ∨ (tagT t h = 2 ∧ 0 < h.x.idle ∧ h.x.idle ≤ t - h.found) ∨ (tagT t h = 0 ∧ (0 < h.x.hard → t < h.put + h.x.hard) ∧ (0 < h.x.idle → t < h.found + h.x.idle)):=by
 unfold tagT
 by_cases a:0 < h.x.hard ∧ h.x.hard ≤ t - h.put
 · rw [if_pos a]; exact .inl ⟨rfl,a⟩
 · rw [if_neg a]
   by_cases b:0 < h.x.idle ∧ h.x.idle ≤ t - h.found
   · rw [if_pos b]; exact .inr (.inl ⟨rfl,b⟩)
   · rw [if_neg b]
     exact .inr (.inr ⟨rfl,fun k => by omega,fun k => by omega⟩)
def outT (t:Int) (L:List HeldM):List (EntV × Int):=(L.filter fun h => decide (tagT t h ≠ 0)).map fun h => (h.x,tagT t h)
def restT (t:Int) (L:List HeldM):List HeldM:=L.filter fun h => decide (tagT t h = 0)
def DueH (h:HeldM) (d:Int):Prop:=(0 < h.x.hard ∧ d = h.put + h.x.hard) ∨ (0 < h.x.idle ∧ d = h.found + h.x.idle)
def DueIs (L:List HeldM) (d:Int) (is:Bool):Prop:=(is = false ∧ d = 0 ∧ ∀ h ∈ L,∀ u,¬ DueH h u) ∨ (is = true ∧ (∃ h ∈ L,DueH h d) ∧ ∀ h ∈ L,∀ u,DueH h u → d ≤ u)
theorem tag_due {t:Int} {h:HeldM} (k:tagT t h ≠ 0):∃ u,DueH h u ∧ u ≤ t:=by
 rcases tagT_cases t h with ⟨_,a,b⟩ | ⟨_,a,b⟩ | ⟨a,_⟩
 · exact ⟨_,.inl ⟨a,rfl⟩,by omega⟩
 · exact ⟨_,.inr ⟨a,rfl⟩,by omega⟩
 · exact absurd a k
theorem due_tag {t u:Int} {h:HeldM} (k:DueH h u) (l:u ≤ t):tagT t h ≠ 0:=by
 rcases tagT_cases t h with ⟨a,_⟩ | ⟨a,_⟩ | ⟨_,a,b⟩
 · rw [a]; decide
 · rw [a]; decide
 · rcases k with ⟨k1,k2⟩ | ⟨k1,k2⟩
   · have:=a k1; omega
   · have:=b k1; omega
theorem out_nil {t:Int} {L:List HeldM} : outT t L = [] ↔ ∀ h ∈ L,tagT t h = 0:=by
 unfold outT
 rw [List.map_eq_nil_iff,List.filter_eq_nil_iff]
 constructor
 · intro k h hh
   have:=k h hh
   simpa using this
 · intro k h hh
   simp [k h hh]
theorem due_none {L:List HeldM} {d:Int} (h:DueIs L d false) (t:Int):d = 0 ∧ outT t L = []:=by
 rcases h with ⟨_,h1,h2⟩ | ⟨h,_⟩
 · refine ⟨h1,out_nil.2 fun x hx => Classical.byContradiction fun k => ?_⟩
   obtain ⟨u,hu,_⟩:=tag_due k
   exact h2 x hx u hu
 · cases h
structure GoodL (L:List HeldM) (cap:Nat):Prop where
 nd:L.Pairwise fun a b => ¬ OneE a.x b.x
 len:L.length ≤ cap
 hard:∀ h ∈ L,0 ≤ h.x.hard ∧ h.x.hard ≤ 1099511627776
 idle:∀ h ∈ L,0 ≤ h.x.idle ∧ h.x.idle ≤ 1099511627776
 put:∀ h ∈ L,0 ≤ h.put ∧ h.put ≤ 1099511627776
 found:∀ h ∈ L,0 ≤ h.found ∧ h.found ≤ 1099511627776
theorem due_some {L:List HeldM} {cap:Nat} (g:GoodL L cap) {d:Int} (h:DueIs L d true):1 ≤ d ∧ (d ≤ 1099511627776 → outT (clampT (d - 1)) L = [] ∧ outT (clampT d) L ≠ []):=by
 rcases h with ⟨h,_⟩ | ⟨_,⟨x,hx,h1⟩,h2⟩
 · cases h
 · have d1:1 ≤ d:=by
    have a:=(g.put x hx).1
    have b:=(g.found x hx).1
    rcases h1 with ⟨k1,k2⟩ | ⟨k1,k2⟩ <;> omega
   refine ⟨d1,fun hm => ⟨?_,fun e => ?_⟩⟩
   · rw [clampT_id (by omega) (by omega)]
     refine out_nil.2 fun y hy => Classical.byContradiction fun k => ?_
     obtain ⟨u,hu,l⟩:=tag_due k
     have:=h2 y hy u hu
     omega
   · rw [clampT_id (by omega) hm] at e
     exact due_tag h1 (Int.le_refl _) (out_nil.1 e x hx)
theorem rest_out (t:Int) (L:List HeldM):outT t (restT t L) = []:=out_nil.2 fun h hh => of_decide_eq_true (List.mem_filter.1 hh).2
theorem rest_due {t:Int} {L:List HeldM} {d:Int} {is:Bool} (h:DueIs (restT t L) d is):is = false ∨ t < d:=by
 rcases h with ⟨h,_⟩ | ⟨_,⟨x,hx,h1⟩,_⟩
 · exact .inl h
 · refine .inr (Classical.byContradiction fun k => ?_)
   exact due_tag h1 (by omega) (of_decide_eq_true (List.mem_filter.1 hx).2)
theorem out_append (t:Int) (A B:List HeldM):outT t (A ++ B) = outT t A ++ outT t B:=by unfold outT; rw [List.filter_append,List.map_append]
theorem rest_append (t:Int) (A B:List HeldM):restT t (A ++ B) = restT t A ++ restT t B:=by unfold restT; rw [List.filter_append]
theorem splitH_at {L:List HeldM} {n:Nat} {h:HeldM} (hn:L[n]? = some h):L = L.take n ++ h :: L.drop (n + 1):=by
 obtain ⟨hl,rfl⟩:=List.getElem?_eq_some_iff.1 hn
 rw [List.getElem_cons_drop,List.take_append_drop]
theorem takeH_next {L:List HeldM} {n:Nat} {h:HeldM} (hn:L[n]? = some h):L.take (n + 1) = L.take n ++ [h]:=by
 obtain ⟨hl,rfl⟩:=List.getElem?_eq_some_iff.1 hn
 rw [List.take_succ_eq_append_getElem hl]
theorem step_out {t:Int} {L:List HeldM} {n:Nat} {h:HeldM} (hn:L[n]? = some h) (k:tagT t h ≠ 0) :
 (outT t L)[(outT t (L.take n)).length]? = some (h.x,tagT t h) ∧ (outT t (L.take (n + 1))).length = (outT t (L.take n)).length + 1 ∧ (restT t (L.take (n + 1))).length = (restT t (L.take n)).length:=by
 have o1:outT t [h] = [(h.x,tagT t h)]:=by unfold outT; simp [k]
 have r1:restT t [h] = []:=by unfold restT; simp [k]
 refine ⟨?_,?_,?_⟩
 · conv => lhs; arg 1; rw [splitH_at hn,out_append,show h :: L.drop (n + 1) = [h] ++ L.drop (n + 1) from rfl,out_append,o1]
   rw [List.getElem?_append_right (Nat.le_refl _),Nat.sub_self]; rfl
 · rw [takeH_next hn,out_append,o1]; simp
 · rw [takeH_next hn,rest_append,r1]; simp
theorem step_rest {t:Int} {L:List HeldM} {n:Nat} {h:HeldM} (hn:L[n]? = some h) (k:tagT t h = 0) :
 (restT t L)[(restT t (L.take n)).length]? = some h ∧ (restT t (L.take (n + 1))).length = (restT t (L.take n)).length + 1 ∧ (outT t (L.take (n + 1))).length = (outT t (L.take n)).length:=by
 have o1:outT t [h] = []:=by unfold outT; simp [k]
 have r1:restT t [h] = [h]:=by unfold restT; simp [k]
 refine ⟨?_,?_,?_⟩
 · conv => lhs; arg 1; rw [splitH_at hn,rest_append,show h :: L.drop (n + 1) = [h] ++ L.drop (n + 1) from rfl,rest_append,r1]
   rw [List.getElem?_append_right (Nat.le_refl _),Nat.sub_self]; rfl
 · rw [takeH_next hn,rest_append,r1]; simp
 · rw [takeH_next hn,out_append,o1]; simp
theorem not_out {t:Int} {L:List HeldM} {cap:Nat} (g:GoodL L cap) {n j:Nat} {h:HeldM} (hn:L[n]? = some h) (k:tagT t h = 0) {y:EntV × Int} (hy:(outT t L)[j]? = some y):y.1 ≠ h.x:=fun e => by
 have m:=List.mem_of_getElem? hy
 unfold outT at m
 obtain ⟨u,hu,rfl⟩:=List.mem_map.1 m
 obtain ⟨hu1,hu2⟩:=List.mem_filter.1 hu
 have hu2:=of_decide_eq_true hu2
 have e:u.x = h.x:=e
 obtain ⟨i,hi⟩:=List.getElem?_of_mem hu1
 have ne:i ≠ n:=fun q => by
  subst q
  rw [hn] at hi
  cases hi
  exact hu2 k
 obtain ⟨a,ha⟩:=List.getElem?_eq_some_iff.1 hi
 obtain ⟨b,hb⟩:=List.getElem?_eq_some_iff.1 hn
 have nd:=List.pairwise_iff_getElem.1 g.nd
 rcases Nat.lt_or_ge i n with c | c
 · have q:=nd i n a b c
   rw [ha,hb] at q
   exact q (by rw [e]; exact OneE.refl _)
 · have q:=nd n i b a (by omega)
   rw [ha,hb] at q
   exact q (by rw [e]; exact OneE.refl _)
def butE (L:List HeldM) (x:EntV):List HeldM:=L.filter fun h => decide (¬ OneE h.x x)
def hasE (L:List HeldM) (x:EntV):Prop:=∃ h ∈ L,OneE h.x x
instance (L:List HeldM) (x:EntV):Decidable (hasE L x):=inferInstanceAs (Decidable (∃ h ∈ L,OneE h.x x))
theorem butE_none {L:List HeldM} {x:EntV} (h:¬ hasE L x):butE L x = L:=List.filter_eq_self.2 fun y hy => decide_eq_true fun k => h ⟨y,hy,k⟩
theorem butE_at {L:List HeldM} {cap:Nat} (g:GoodL L cap) {n:Nat} {h:HeldM} (hn:L[n]? = some h) {x:EntV} (hx:OneE h.x x):butE L x = L.eraseIdx n:=by
 have e:=splitH_at hn
 have nd:(L.take n ++ h :: L.drop (n + 1)).Pairwise fun a b => ¬ OneE a.x b.x:=by rw [← e]; exact g.nd
 obtain ⟨h1,h2,h3⟩:=List.pairwise_append.1 nd
 rw [List.eraseIdx_eq_take_drop_succ]
 conv => lhs; arg 1; rw [e]
 unfold butE
 rw [List.filter_append,List.filter_cons,if_neg (by simp [hx])]
 congr 1
 · exact List.filter_eq_self.2 fun y hy => decide_eq_true fun k => h3 y hy h (.head _) (k.trans hx.symm)
 · exact List.filter_eq_self.2 fun y hy => decide_eq_true fun k => (List.pairwise_cons.1 h2).1 y hy (hx.trans k.symm)
theorem GoodL.but {L:List HeldM} {cap:Nat} (g:GoodL L cap) (x:EntV):GoodL (butE L x) cap :=
 ⟨List.Pairwise.filter _ g.nd,Nat.le_trans (List.length_filter_le _ _) g.len,fun h hh => g.hard h (List.mem_filter.1 hh).1,fun h hh => g.idle h (List.mem_filter.1 hh).1,fun h hh => g.put h (List.mem_filter.1 hh).1,fun h hh => g.found h (List.mem_filter.1 hh).1⟩
def putE (L:List HeldM) (x:EntV) (now:Int):List HeldM:=butE L x ++ [⟨x,clampT now,clampT now⟩]
theorem but_has_length {L:List HeldM} {cap:Nat} (g:GoodL L cap) {x:EntV} (h:hasE L x):(butE L x).length + 1 = L.length:=by
 obtain ⟨y,hy,k⟩:=h
 obtain ⟨n,hn⟩:=List.getElem?_of_mem hy
 rw [butE_at g hn k]
 have hl:=(List.getElem?_eq_some_iff.1 hn).1
 rw [List.length_eraseIdx_of_lt hl]; omega
theorem GoodL.put_ {L:List HeldM} {cap:Nat} (g:GoodL L cap) {x:EntV} {now:Int} (hh:0 ≤ x.hard ∧ x.hard ≤ 1099511627776) (hi:0 ≤ x.idle ∧ x.idle ≤ 1099511627776) (hc:hasE L x ∨ L.length < cap):GoodL (putE L x now) cap:=by
 have b:=g.but x
 have each:∀ {P:HeldM → Prop},(∀ h ∈ butE L x,P h) → P ⟨x,clampT now,clampT now⟩ → ∀ h ∈ putE L x now,P h:=fun a p h hm => by
  rcases List.mem_append.1 hm with hm | hm
  · exact a h hm
  · obtain rfl:h = _:=by simpa using hm
    exact p
 refine ⟨?_,?_,each b.hard hh,each b.idle hi,each b.put (clampT_le now),each b.found (clampT_le now)⟩
 · refine List.pairwise_append.2 ⟨b.nd,List.pairwise_singleton _ _,fun a ha c hc => ?_⟩
   obtain rfl:c = _:=by simpa using hc
   exact of_decide_eq_true (List.mem_filter.1 ha).2
 · unfold putE
   rw [List.length_append]
   show (butE L x).length + 1 ≤ cap
   by_cases k:hasE L x
   · rw [but_has_length g k]; exact g.len
   · rw [butE_none k]
     rcases hc with hc | hc
     · exact absurd hc k
     · exact hc
end Go.Proofs.YtbnpelciceblfaaGreat
namespace Go.Proofs.YtbnpelciceblfaaGreat
set_option linter.unusedVariables false
open Go.RowKit
set_option maxHeartbeats 64000000
structure WBut (F:List Nat) (W w:World):Prop where
 os:w.os = W.os
 out:w.output = W.output
 size:W.heap.size ≤ w.heap.size
 heap:∀ i,i < W.heap.size → i ∉ F → w.heap[i]? = W.heap[i]?
theorem Wider.but {W w:World} (h:Wider W w) (F:List Nat):WBut F W w:=⟨h.1.1,h.1.2.1,h.2,fun i hi _ => wheap h hi⟩
theorem WBut.refl (F:List Nat) (W:World):WBut F W W:=(Wider.refl W).but F
theorem WBut.trans {F G:List Nat} {a b c:World} (h:WBut F a b) (k:WBut G b c) (hs:∀ i ∈ G,i ∈ F ∨ a.heap.size ≤ i):WBut F a c :=
 ⟨k.os.trans h.os,k.out.trans h.out,Nat.le_trans h.size k.size,fun i hi hF => by
  rw [k.heap i (Nat.lt_of_lt_of_le hi h.size) (fun m => by rcases hs i m with m | m; exact hF m; omega),h.heap i hi hF]⟩
theorem wider_of {W w:World} (ho:w.os = W.os) (hu:w.output = W.output) (hz:W.heap.size ≤ w.heap.size) (hh:∀ i,i < W.heap.size → w.heap[i]? = W.heap[i]?):Wider W w:=by
 refine ⟨⟨ho,hu,fun i hi => ?_⟩,hz⟩
 rw [hh i hi]
 cases W.heap[i]? with
 | none => rfl
 | some o =>
   cases o with
   | cells c t fr => exact ⟨rfl,rfl,rfl,fun _ _ => rfl⟩
   | map es cl => exact .inr ⟨rfl,rfl⟩
   | _ => rfl
theorem WBut.wider {F:List Nat} {V W w:World} (g:Wider V W) (h:WBut F W w) (hs:∀ i ∈ F,V.heap.size ≤ i):Wider V w :=
 wider_of (h.os.trans g.1.1) (h.out.trans g.1.2.1) (Nat.le_trans g.2 h.size) fun i hi => by
  rw [h.heap i (Nat.lt_of_lt_of_le hi g.2) (fun m => by have:=hs i m; omega),wheap g hi]
theorem setCell_but (W:World) (a:Addr) (v:Value):WBut [a.block] W (W.setCell a v) where
 os:=rfl
 out:=rfl
 size:=by simp [World.setCell]
 heap i hi hF:=by
  simp only [World.setCell,Array.getElem?_modify]
  rw [if_neg (fun e => hF (by rw [e]; simp))]
abbrev Thing:=List Nat × (World → Prop)
def Thing.Stable (r:Thing):Prop:=∀ W w,r.2 W → (∀ i ∈ r.1,w.heap[i]? = W.heap[i]?) → r.2 w
structure Own (V w:World) (L:List Thing):Prop where
 holds:∀ r ∈ L,r.2 w
 new:∀ r ∈ L,∀ i ∈ r.1,V.heap.size ≤ i ∧ i < w.heap.size
 apart:L.Pairwise fun r q => ∀ i ∈ r.1,i ∉ q.1
 stable:∀ r ∈ L,r.Stable
 wider:Wider V w
theorem Own.nil {V w:World} (h:Wider V w):Own V w []:=⟨by simp,by simp,.nil,by simp,h⟩
theorem Own.quiet {V W w:World} {L:List Thing} (h:Own V W L) (g:Wider W w):Own V w L where
 holds r m:=h.stable r m W w (h.holds r m) fun i hi => wheap g (h.new r m i hi).2
 new r m i hi:=⟨(h.new r m i hi).1,Nat.lt_of_lt_of_le (h.new r m i hi).2 g.2⟩
 apart:=h.apart
 stable:=h.stable
 wider:=h.wider.trans g
theorem Own.drop {V w:World} {r:Thing} {L:List Thing} (h:Own V w (r :: L)):Own V w L :=
 ⟨fun q m => h.holds q (.tail _ m),fun q m => h.new q (.tail _ m),(List.pairwise_cons.1 h.apart).2,fun q m => h.stable q (.tail _ m),h.wider⟩
theorem Own.head {V w:World} {r:Thing} {L:List Thing} (h:Own V w (r :: L)):r.2 w:=h.holds r (.head _)
theorem Own.swap {V w:World} {r q:Thing} {L:List Thing} (h:Own V w (r :: q :: L)):Own V w (q :: r :: L) where
 holds x m:=h.holds x (by simp only [List.mem_cons] at m ⊢; rcases m with m | m | m <;> simp [m])
 new x m:=h.new x (by simp only [List.mem_cons] at m ⊢; rcases m with m | m | m <;> simp [m])
 apart:=by
  have k:=List.pairwise_cons.1 h.apart
  have k2:=List.pairwise_cons.1 k.2
  refine List.pairwise_cons.2 ⟨fun x m i hi hx => ?_,List.pairwise_cons.2 ⟨fun x m => k.1 x (.tail _ m),k2.2⟩⟩
  rcases List.mem_cons.1 m with rfl | m
  · exact k.1 q (.head _) i hx hi
  · exact k2.1 x m i hi hx
 stable x m:=h.stable x (by simp only [List.mem_cons] at m ⊢; rcases m with m | m | m <;> simp [m])
 wider:=h.wider
theorem Own.second {V w:World} {r q:Thing} {L:List Thing} (h:Own V w (r :: q :: L)):q.2 w:=h.drop.head
theorem Own.turn {V W w:World} {r s:Thing} {L:List Thing} (h:Own V W (r :: L)) (g:WBut r.1 W w) (hs:s.2 w) (hst:s.Stable) (hn:∀ i ∈ s.1,(i ∈ r.1 ∨ W.heap.size ≤ i) ∧ i < w.heap.size):Own V w (s :: L) where
 holds x m:=by
  rcases List.mem_cons.1 m with rfl | m
  · exact hs
  · refine h.stable x (.tail _ m) W w (h.holds x (.tail _ m)) fun i hi => g.heap i (h.new x (.tail _ m) i hi).2 fun hr => ?_
    exact (List.pairwise_cons.1 h.apart).1 x m i hr hi
 new x m i hi:=by
  rcases List.mem_cons.1 m with rfl | m
  · refine ⟨?_,(hn i hi).2⟩
    rcases (hn i hi).1 with k | k
    · exact (h.new r (.head _) i k).1
    · have:=h.wider.2; omega
  · exact ⟨(h.new x (.tail _ m) i hi).1,Nat.lt_of_lt_of_le (h.new x (.tail _ m) i hi).2 g.size⟩
 apart:=by
  have k:=List.pairwise_cons.1 h.apart
  refine List.pairwise_cons.2 ⟨fun x m i hi hx => ?_,k.2⟩
  rcases (hn i hi).1 with c | c
  · exact k.1 x m i c hx
  · have:=(h.new x (.tail _ m) i hx).2; omega
 stable x m:=by
  rcases List.mem_cons.1 m with rfl | m
  · exact hst
  · exact h.stable x (.tail _ m)
 wider:=g.wider h.wider fun i hi => (h.new r (.head _) i hi).1
theorem Own.make {V W w:World} {s:Thing} {L:List Thing} (h:Own V W L) (g:Wider W w) (hs:s.2 w) (hst:s.Stable) (hn:∀ i ∈ s.1,W.heap.size ≤ i ∧ i < w.heap.size):Own V w (s :: L) where
 holds x m:=by
  rcases List.mem_cons.1 m with rfl | m
  · exact hs
  · exact (h.quiet g).holds x m
 new x m i hi:=by
  rcases List.mem_cons.1 m with rfl | m
  · exact ⟨Nat.le_trans h.wider.2 (hn i hi).1,(hn i hi).2⟩
  · exact (h.quiet g).new x m i hi
 apart:=List.pairwise_cons.2 ⟨fun x m i hi hx => by have:=(h.new x m i hx).2; have:=(hn i hi).1; omega,h.apart⟩
 stable x m:=by
  rcases List.mem_cons.1 m with rfl | m
  · exact hst
  · exact h.stable x m
 wider:=h.wider.trans g
theorem grownBy_but {W w:World} {row:Option Nat} (g:W.grownBy w row):WBut row.toList W w :=
 ⟨g.os,g.output,g.size,fun i hi hF => g.block i hi fun e => hF (by rw [← e]; simp)⟩
abbrev rowT (e:TypeId) (size:Nat) (v:Value) (n:Nat) (xs:List Value):Thing:=(v.ownBlock.toList,fun w => w.ownsRow 0 e size v n xs)
theorem ownsRow_heap {W w:World} {b:Nat} {e:TypeId} {size n:Nat} {v:Value} {xs:List Value} (h:W.ownsRow b e size v n xs) (k:∀ i ∈ v.ownBlock.toList,w.heap[i]? = W.heap[i]?):w.ownsRow b e size v n xs:=by
 refine ⟨h.1,?_⟩
 rcases h.2 with q | ⟨g,cap,cur,rfl,hb,hg,r⟩
 · exact .inl q
 · exact .inr ⟨g,cap,cur,rfl,hb,(k g (by simp [Value.ownBlock])).trans hg,r⟩
theorem rowT_stable (e:TypeId) (size n:Nat) (v:Value) (xs:List Value):(rowT e size v n xs).Stable:=fun W w h k => ownsRow_heap h k
theorem ownsRow_less {w:World} {b c:Nat} {e:TypeId} {size n:Nat} {v:Value} {xs:List Value} (h:w.ownsRow b e size v n xs) (k:c ≤ b):w.ownsRow c e size v n xs:=by
 refine ⟨h.1,?_⟩
 rcases h.2 with q | ⟨g,cap,cur,rfl,hb,r⟩
 · exact .inl q
 · exact .inr ⟨g,cap,cur,rfl,Nat.le_trans k hb,r⟩
theorem ownsRow_wider {W w:World} {b:Nat} {e:TypeId} {size n:Nat} {v:Value} {xs:List Value} (h:W.ownsRow b e size v n xs) (g:Wider W w):w.ownsRow b e size v n xs :=
 ownsRow_heap h fun i hi => wheap g (h.lt i (by simpa using hi)).2
theorem Own.row {V W w:World} {L:List Thing} (h:Own V W L) (g:Wider W w) {e:TypeId} {size n:Nat} {v:Value} {xs:List Value} (r:w.ownsRow W.heap.size e size v n xs):Own V w (rowT e size v n xs :: L) :=
 h.make g (ownsRow_less r (Nat.zero_le _)) (rowT_stable _ _ _ _ _) fun i hi => r.lt i (by simpa using hi)
theorem ownsRow_store {w:World} {b:Nat} {e:TypeId} {size n cap:Nat} {g:Nat} {xs:List Value} {j:Nat} {u:Value} (h:w.ownsRow b e size (.slice (some ⟨g,0,none⟩) n cap) n xs) (hj:j < xs.length) (hu:u.oneCell' = true) :
 (w.setCell ⟨g,j,none⟩ u).ownsRow b e size (.slice (some ⟨g,0,none⟩) n cap) n (xs.set j u):=by
 refine ⟨by simpa using h.1,?_⟩
 rcases h.2 with ⟨q,_⟩ | ⟨g',cap',cur,hv,hb,hg,hn,hm,hs,ht⟩
 · cases q
 · simp only [Value.slice.injEq,Option.some.injEq,Addr.mk.injEq,and_true,true_and] at hv
   obtain ⟨rfl,rfl⟩:=hv
   have hl:=h.1
   refine .inr ⟨g,cap,cur.setIfInBounds j u,rfl,hb,?_,hn,hm,by simpa using hs,?_⟩
   · have hlt:g < w.heap.size:=(Array.getElem?_eq_some_iff.1 hg).1
     simp only [World.setCell,Array.getElem?_modify,if_true,hg,Option.map_some]
     rfl
   · rw [Array.toList_setIfInBounds,List.take_set,ht]
end Go.Proofs.YtbnpelciceblfaaGreat
namespace Go.Proofs.YtbnpelciceblfaaGreat
set_option linter.unusedVariables false
set_option maxHeartbeats 64000000
def mkB (l:List UInt8):ByteArray:=⟨l.toArray⟩
theorem mkB_data (l:List UInt8):(mkB l).data.toList = l:=by simp [mkB]
structure AtN where
 t:Nat
 v:ByteArray
end Go.Proofs.YtbnpelciceblfaaGreat
namespace Go.Proofs.YtbnpelciceblfaaGreat
set_option linter.unusedVariables false
open Go.RowKit
set_option maxHeartbeats 64000000
structure StrsAt (w:World) (A:Option Addr) (l:List ByteArray):Prop where
 none_:A = none → l = []
 cell:∀ a,A = some a → ∀ j s,l[j]? = some s → w.cell? (a.add j) = some (.string s)
theorem StrsAt.on {W w:World} {A:Option Addr} {l:List ByteArray} (h:StrsAt W A l) (g:Wider W w):StrsAt w A l :=
 ⟨h.none_,fun a e j s hs => wkeep g (h.cell a e j s hs)⟩
theorem StrsAt.new (w:World) (l:List ByteArray) (t:TypeId) (C:Array Value) (hC:C = (l.map Value.string).toArray):StrsAt (w.alloc (.cells C t)) (some ⟨w.heap.size,0,none⟩) l where
 none_ e:=by cases e
 cell a e j s hs:=by
  obtain rfl:(⟨w.heap.size,0,none⟩ : Addr) = a:=by injection e
  have e2:(⟨w.heap.size,0,none⟩ : Addr).add j = ⟨w.heap.size,j,none⟩:=by
   unfold Addr.add; by_cases h:j = 0
   · subst h; simp
   · simp [h]
  rw [e2,World.cell?_alloc_new,hC]
  simp [hs]
def joinL (l:List ByteArray):ByteArray:=⟨(l.flatMap fun s => s.data.toList).toArray⟩
theorem joinL_data (l:List ByteArray):(joinL l).data.toList = l.flatMap fun s => s.data.toList:=rfl
theorem ba_ext {a b:ByteArray} (h:a.data.toList = b.data.toList):a = b:=by
 have d:=Array.toList_inj.1 h
 cases a; cases b; simpa using d
theorem joinL_snoc (l:List ByteArray) (s:ByteArray):joinL (l ++ [s]) = joinL l ++ s:=by
 apply ba_ext
 rw [joinL_data,ByteArray.data_append,Array.toList_append,joinL_data]
 simp
theorem joinL_size (l:List ByteArray):(joinL l).size = (l.map fun s => s.size).sum:=by
 have e:(joinL l).size = (joinL l).data.toList.length:=by simp
 rw [e,joinL_data,List.length_flatMap]
 simp
theorem joinL_one (s:ByteArray):joinL [s] = s:=by apply ba_ext; rw [joinL_data]; simp
structure AtAt (w:World) (a:Addr) (x:AtN):Prop where
 c0:w.cell? a = some (.int .u8 (x.t:Int))
 c1:w.cell? (a.add 1) = some (.string x.v)
theorem AtAt.on {W w:World} {a:Addr} {x:AtN} (h:AtAt W a x) (g:Wider W w):AtAt w a x:=⟨wkeep g h.c0,wkeep g h.c1⟩
theorem AtAt.flat {w:World} {a:Addr} {x:AtN} (h:AtAt w a x):w.cell? ⟨a.block,a.off + 1,none⟩ = some (.string x.v):=by
 have e:a.add 1 = ⟨a.block,a.off + 1,none⟩:=by unfold Addr.add; simp
 rw [← e]; exact h.c1
structure AtsAt (w:World) (A:Option Addr) (l:List AtN):Prop where
 none_:A = none → l = []
 cell:∀ a,A = some a → ∀ j x,l[j]? = some x → AtAt w (a.add (j * 2)) x
theorem AtsAt.on {W w:World} {A:Option Addr} {l:List AtN} (h:AtsAt W A l) (g:Wider W w):AtsAt w A l :=
 ⟨h.none_,fun a e j s hs => (h.cell a e j s hs).on g⟩
theorem run_append_any {P:Program} (w:World) (base:Nat) (t ty e:TypeId) (i:TypeInfo) (z:Value) (size bytes:Nat) (ht:P.underlying t = some (.slice e)) (hi:P.info? e = some i) (hz:i.zero = some z)
 (hsize:i.size = size) (hby:i.bytes = bytes) (hzs:z.cells.size = size) (hsz:0 < size)
 (v:Value) (n:Nat) (xs:List Value) (hown:w.ownsRow base e size v n xs)
 (A:Option Addr) (m c:Nat) (news:List Value) (hl:news.length = m * size) (h0:A = none → m = 0) (hnews:∀ a,A = some a → ∀ j u,news[j]? = some u → w.cell? (a.add j) = some u) (h1:∀ u ∈ news,u.oneCell' = true)
 (h63:n + m ≤ maxLen) (hbytes:(n + m) * bytes ≤ 140737488355328) (hbase:base ≤ w.heap.size) :
 ∃ v' w',(Builtin.append_ #[t,t] ty #[v,.slice A m c]).run P w = .ok v' w' ∧ w'.ownsRow base e size v' (n + m) (xs ++ news) ∧ w.grownBy w' v.ownBlock:=by
 cases A with
 | none =>
   obtain rfl:=h0 rfl
   have hnil:news = []:=List.eq_nil_of_length_eq_zero (by simpa using hl)
   subst hnil
   refine ⟨v,w,?_,by simpa using hown,⟨rfl,rfl,rfl,Nat.le_refl _,fun _ _ _ => rfl⟩⟩
   rcases hown.2 with ⟨rfl,rfl⟩ | ⟨g,cap,cur,rfl,_,_,hnc,_⟩
   · simp [Builtin.append_,run_underlying ht,sizeOf,typeInfo,hi,Builtin.lenOf,Builtin.firstCells]
   · simp [Builtin.append_,run_underlying ht,sizeOf,typeInfo,hi,Builtin.lenOf,Builtin.firstCells,hnc,storeCells]
 | some a =>
   obtain ⟨v',w',r,o,g,_⟩:=run_append_own (P:=P) w base t ty e i z size bytes ht hi hz hsize hby hzs hsz v n xs hown a m c news hl (hnews a rfl) h1 h63 hbytes hbase
   exact ⟨v',w',r,o,g⟩
theorem ownsRow_shape {w:World} {b:Nat} {e:TypeId} {size n:Nat} {v:Value} {xs:List Value} (h:w.ownsRow b e size v n xs):∃ B c2,v = .slice B n c2:=by
 rcases h.2 with ⟨rfl,q⟩ | ⟨g,cap,cur,rfl,_⟩
 · exact ⟨none,0,by rw [q]⟩
 · exact ⟨_,_,rfl⟩
theorem append_block {P:Program} {w:World} {base:Nat} {t ty e:TypeId} {i:TypeInfo} {z:Value} {size bytes:Nat} (ht:P.underlying t = some (.slice e)) (hi:P.info? e = some i) (hz:i.zero = some z)
 (hsize:i.size = size) (hby:i.bytes = bytes) (hzs:z.cells.size = size) (hsz:0 < size)
 {v:Value} {n:Nat} {xs:List Value} (hown:w.ownsRow base e size v n xs)
 {A:Option Addr} {m c:Nat} {news:List Value} (hl:news.length = m * size) (h0:A = none → m = 0) (hnews:∀ a,A = some a → ∀ j u,news[j]? = some u → w.cell? (a.add j) = some u) (h1:∀ u ∈ news,u.oneCell' = true)
 (h63:n + m ≤ maxLen) (hbytes:(n + m) * bytes ≤ 140737488355328)
 {v':Value} {w':World} (hr:(Builtin.append_ #[t,t] ty #[v,.slice A m c]).run P w = .ok v' w'):∀ k,v'.ownBlock = some k → v.ownBlock = some k ∨ w.heap.size ≤ k:=by
 intro k hk
 rcases hown.2 with ⟨rfl,rfl⟩ | ⟨g,cap,cur,rfl,hb,hg,hnc,hcm,hcs,htake⟩
 · obtain rfl:xs = []:=List.eq_nil_of_length_eq_zero (by simpa using hown.1)
   obtain ⟨v2,w2,r2,o2,_⟩:=run_append_any (P:=P) w w.heap.size t ty e i z size bytes ht hi hz hsize hby hzs hsz _ 0 [] (World.ownsRow_nil _ _ _ _) A m c news hl h0 hnews h1 h63 hbytes (Nat.le_refl _)
   rw [hr] at r2
   injection r2 with e1 e2
   subst e1
   exact .inr (o2.lt k hk).1
 · cases A with
   | none =>
     obtain rfl:=h0 rfl
     have r2:(Builtin.append_ #[t,t] ty #[Value.slice (some ⟨g,0,none⟩) n cap,.slice none 0 c]).run P w = .ok (Value.slice (some ⟨g,0,none⟩) n cap) w:=by
      simp [Builtin.append_,run_underlying ht,sizeOf,typeInfo,hi,Builtin.lenOf,Builtin.firstCells,hnc,storeCells]
     rw [hr] at r2
     injection r2 with e1 e2
     subst e1
     exact .inl hk
   | some a =>
     by_cases hroom:n + m ≤ cap
     · obtain ⟨w2,r2,_⟩:=run_append_fits (P:=P) w base t ty e i size ht hi hsize g n cap xs hown a m c news hl (hnews a rfl) h1 hroom
       rw [hr] at r2
       injection r2 with e1 e2
       subst e1
       exact .inl hk
     · subst hsize hby
       have holds:∀ j u,xs[j]? = some u → w.cell? ((⟨g,0,none⟩ : Addr).add j) = some u:=hown.cells (g:=g) rfl
       have r2:=run_append_grow (P:=P) w t ty e i z ht hi hz ⟨g,0,none⟩ n cap xs hown.1 holds a m c news hl (hnews a rfl) (by omega) (by simp only [maxLen] at h63; omega) (growslice_fits (by omega) hbytes)
       rw [hr] at r2
       injection r2 with e1 e2
       subst e1
       simp only [Value.ownBlock,Option.some.injEq] at hk
       exact .inr (by omega)
theorem wpList_append_thing {P:Program} {V w:World} {L:List Thing} {ops:Array Oper} {rest:List Oper} {o:Oper} {a:Act} {Q:Exit → Act → World → Prop} (hgd:o.guard = none) (s x:Operand) (t:TypeId)
 (ho:o.op = .call { callee:=.builtin .append,args:=#[s,x],argTypes:=#[t,t] })
 (e:TypeId) (i:TypeInfo) (z:Value) (size bytes:Nat) (ht:P.underlying t = some (.slice e)) (hi:P.info? e = some i) (hz:i.zero = some z)
 (hsize:i.size = size) (hby:i.bytes = bytes) (hzs:z.cells.size = size) (hsz:0 < size)
 (v:Value) (n:Nat) (xs:List Value) (hs:a.eval s = v) (H:Own V w (rowT e size v n xs :: L))
 (A:Option Addr) (m c:Nat) (news:List Value) (hx:a.eval x = .slice A m c) (hl:news.length = m * size) (h0:A = none → m = 0) (hnews:∀ a,A = some a → ∀ j u,news[j]? = some u → w.cell? (a.add j) = some u) (h1:∀ u ∈ news,u.oneCell' = true)
 (h63:n + m ≤ maxLen) (hbytes:(n + m) * bytes ≤ 140737488355328) {k:Nat} (hk:n + m = k) {ys:List Value} (hys:xs ++ news = ys)
 (h:∀ B c2 w',Own V w' (rowT e size (.slice B k c2) k ys :: L) → wpList P ops Q rest (a.put o.dst (.slice B k c2)) w'):wpList P ops Q (o :: rest) a w:=by
 subst hk hys
 refine wpList_plain hgd fun K hK => ?_
 obtain ⟨v',w',hr,h2,h3⟩:=run_append_any (P:=P) w 0 t o.type e i z size bytes ht hi hz hsize hby hzs hsz v n xs H.head A m c news hl h0 hnews h1 h63 hbytes (Nat.zero_le _)
 have hb:=append_block (P:=P) ht hi hz hsize hby hzs hsz H.head hl h0 hnews h1 h63 hbytes hr
 unfold Oper.wp execOp
 simp only [ho,resolve,invoke,builtin,Sem.run_bind,Sem.run_pure,Result.andThen_ok,List.map_toArray,List.map_cons,List.map_nil,hs,hx,hr]
 obtain ⟨B,c2,rfl⟩:=ownsRow_shape h2
 refine hK _ _ (h B c2 w' (H.turn (s:=rowT e size (.slice B (n + m) c2) (n + m) (xs ++ news)) (grownBy_but h3) h2 (rowT_stable _ _ _ _ _) fun j hj => ?_))
 have hj2:(Value.slice B (n + m) c2).ownBlock = some j:=by simpa using hj
 refine ⟨?_,(h2.lt j hj2).2⟩
 rcases hb j hj2 with q | q
 · exact .inl (by simp [q])
 · exact .inr q
theorem Own.perm {V w:World} {L M:List Thing} (h:Own V w L) (p:L.Perm M):Own V w M where
 holds r m:=h.holds r (p.mem_iff.2 m)
 new r m:=h.new r (p.mem_iff.2 m)
 apart:=(p.pairwise_iff (fun {r q} hrq i hi hq => hrq i hq hi)).1 h.apart
 stable r m:=h.stable r (p.mem_iff.2 m)
 wider:=h.wider
theorem Own.third {V w:World} {x y z:Thing} {L:List Thing} (h:Own V w (x :: y :: z :: L)):Own V w (z :: x :: y :: L) :=
 h.perm (((List.Perm.swap z y L).cons x).trans (List.Perm.swap z x (y :: L)))
theorem Own.fourth {V w:World} {x y z u:Thing} {L:List Thing} (h:Own V w (x :: y :: z :: u :: L)):Own V w (u :: x :: y :: z :: L) :=
 h.perm ((((List.Perm.swap u z L).cons y).trans (List.Perm.swap u y (z :: L))).cons x |>.trans (List.Perm.swap u x (y :: z :: L)))
end Go.Proofs.YtbnpelciceblfaaGreat
namespace Go.Proofs.YtbnpelciceblfaaGreat
set_option linter.unusedVariables false
open Go.ChangeShapes Go.WideShapes Go.ChangeAt Go.RowKit Go.Joins
set_option maxHeartbeats 64000000
theorem own:ownKnob Tryz.prog.godebug = none:=by kernel_rfl
theorem bounds_i64 {n:Int} (h:(Lit.int .i64 n).wf = true):-9223372036854775808 ≤ n ∧ n ≤ 9223372036854775807:=by
 simp only [Lit.wf,Bool.and_eq_true,decide_eq_true_eq] at h
 have h1:IntKind.i64.min = -9223372036854775808:=rfl
 have h2:IntKind.i64.max = 9223372036854775807:=rfl
 omega
end Go.Proofs.YtbnpelciceblfaaGreat
