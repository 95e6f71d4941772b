/- Base YMath Own RowT TMath Strs TMem RowU RowV Open SMake Blk -/
import Derived.WalkSpells
import Derived.Lib.Hide
import Derived.Test.YtbnpelciceblfaaGreatRows
import Derived.Lib.SmallJoins
import Derived.Deep.DeepCutAuto
import Derived.WalkLawsBesides
import Derived.BigQuiet
import Derived.Deep.RegionLaw
import Derived.Deep.RegionHeld3
namespace Go.Proofs.YtbnpelciceblfaaGreat
set_option linter.unusedVariables false
open Go.RowKit Go.ChangeShapes Go.WideShapes
set_option maxHeartbeats 64000000
theorem Grown3 {W a b c:World} (h:Grown W a) (h2:Grown a b) (h3:Grown b c):Grown W c:=by
 obtain ⟨k1,f1,s1⟩:=h; obtain ⟨k2,f2,s2⟩:=h2; obtain ⟨k3,f3,s3⟩:=h3
 exact ⟨World.keptBut_trans k1 (World.keptBut_trans k2 k3),fun a => (f3 a).trans ((f2 a).trans (f1 a)),Nat.le_trans s1 (Nat.le_trans s2 s3)⟩
theorem _root_.Go.RowKit.Grown.trans3 {W a b:World} (h:Grown W a) (h2:Grown a b):Grown W b:=Grown3 h h2 (Grown.refl _)
theorem gkeep {W w:World} (h:Grown W w) {a:Addr} {v:Value} (hc:W.cell? a = some v):w.cell? a = some v:=by
 obtain ⟨⟨_,_,hb⟩,_,_⟩:=h
 have hlt:a.block < W.heap.size:=by
  rcases Nat.lt_or_ge a.block W.heap.size with h | h
  · exact h
  · have e:W.heap[a.block]? = none:=by simp; omega
    simp [World.cell?,e] at hc
 have k:=hb a.block hlt
 unfold World.cell? at hc ⊢
 revert k hc
 cases W.heap[a.block]? with
 | none => intro hc; simp at hc
 | some o =>
   cases o with
   | cells c t fr =>
     cases w.heap[a.block]? with
     | none => intro hc k; simp at k
     | some o' =>
       cases o' with
       | cells c' t' fr' =>
         intro hc k
         dsimp only at hc k ⊢
         rw [k.2.2.2 a.off (fun f => f)]
         exact hc
       | _ => intro hc k; simp at k
   | _ => intro hc; simp at hc
theorem gfree {W w:World} (h:Grown W w) {a:Addr} (hc:W.frozen? a = false):w.frozen? a = false:=(h.2.1 a).trans hc
theorem csame {w:World} {a:Addr} {u v:Value} (h:w.cell? a = some u):(w.setCell a v).cell? a = some v:=World.cell?_setCell_same' w a v (by rw [h]; rfl)
theorem cother {w:World} {a b:Addr} {v:Value} (h:a ≠ b):(w.setCell a v).cell? b = w.cell? b:=by
 first | exact World.cell?_setCell_other h | exact World.cell?_setCell_other _ _ _ _ h | exact World.cell?_setCell_other _ _ h | exact World.cell?_setCell_other _ h
theorem kalloc {w:World} {a:Addr} {v:Value} {o:Obj} (h:w.cell? a = some v):(w.alloc o).cell? a = some v:=(World.cell?_alloc_some w a o (by rw [h]; rfl)).trans h
theorem gdrewN (w:World) (n:Nat):Grown w (w.drewN n):=Grown.refl w
def Wider (W w:World):Prop:=W.keptBut w (fun _ => False) ∧ W.heap.size ≤ w.heap.size
theorem Wider.refl (W:World):Wider W W:=⟨World.keptBut_refl _ _,Nat.le_refl _⟩
theorem Wider.trans {a b c:World} (h:Wider a b) (k:Wider b c):Wider a c:=⟨World.keptBut_trans h.1 k.1,Nat.le_trans h.2 k.2⟩
theorem _root_.Go.RowKit.Grown.wider {W w:World} (h:Grown W w):Wider W w:=⟨h.1,h.2.2⟩
theorem Wider.alloc {W w:World} (h:Wider W w) (o:Obj):Wider W (w.alloc o) :=
 ⟨World.keptBut_trans h.1 (World.keptBut_alloc _ _ _),Nat.le_trans h.2 (by show w.heap.size ≤ (w.heap.push _).size; simp)⟩
theorem Wider.drew {W w:World} (h:Wider W w):Wider W w.drew:=h
theorem Wider.drewN {W w:World} (h:Wider W w) (n:Nat):Wider W (w.drewN n):=h
theorem Wider.setCell {W w:World} (h:Wider W w) {a:Addr} (ha:W.heap.size ≤ a.block) (v:Value):Wider W (w.setCell a v):=by
 obtain ⟨⟨h1,h2,h3⟩,hs⟩:=h
 refine ⟨⟨h1,h2,fun i hi => ?_⟩,by simpa [World.setCell] using hs⟩
 have e:(w.setCell a v).heap[i]? = w.heap[i]? :=by
  simp only [World.setCell,Array.getElem?_modify]
  rw [if_neg (by omega)]
 rw [e]
 exact h3 i hi
theorem wlt {W:World} {a:Addr} {v:Value} (hc:W.cell? a = some v):a.block < W.heap.size:=by
 rcases Nat.lt_or_ge a.block W.heap.size with h | h
 · exact h
 · have e:W.heap[a.block]? = none:=by simp; omega
   simp [World.cell?,e] at hc
theorem wkeep {W w:World} (h:Wider W w) {a:Addr} {v:Value} (hc:W.cell? a = some v):w.cell? a = some v:=by
 have hlt:=wlt hc
 obtain ⟨⟨_,_,hb⟩,_⟩:=h
 have k:=hb a.block hlt
 unfold World.cell? at hc ⊢
 revert k hc
 cases W.heap[a.block]? with
 | none => intro hc; simp at hc
 | some o =>
   cases o with
   | cells c t fr =>
     cases w.heap[a.block]? with
     | none => intro hc k; simp at k
     | some o' =>
       cases o' with
       | cells c' t' fr' =>
         intro hc k
         dsimp only at hc k ⊢
         rw [k.2.2.2 a.off (fun f => f)]
         exact hc
       | _ => intro hc k; simp at k
   | _ => intro hc; simp at hc
theorem wfree {W w:World} (h:Wider W w) {a:Addr} {v:Value} (hc:W.cell? a = some v) (hf:W.frozen? a = false):w.frozen? a = false:=by
 have hlt:=wlt hc
 obtain ⟨⟨_,_,hb⟩,_⟩:=h
 have k:=hb a.block hlt
 unfold World.cell? at hc
 unfold World.frozen? at hf ⊢
 revert k hc hf
 cases W.heap[a.block]? with
 | none => intro hc; simp at hc
 | some o =>
   cases o with
   | cells c t fr =>
     cases w.heap[a.block]? with
     | none => intro hc hf k; simp at k
     | some o' =>
       cases o' with
       | cells c' t' fr' =>
         intro hc hf k
         dsimp only at hf k ⊢
         rw [k.2.1]
         exact hf
       | _ => intro hc hf k; simp at k
   | _ => intro hc; simp at hc
theorem wheap {W w:World} (h:Wider W w) {i:Nat} (hi:i < W.heap.size):w.heap[i]? = W.heap[i]? :=by
 obtain ⟨⟨_,_,hb⟩,_⟩:=h
 have k:=hb i hi
 revert k
 cases W.heap[i]? with
 | none =>
   intro k
   cases hw:w.heap[i]? with
   | none => rfl
   | some o => rw [hw] at k; simp at k
 | some o =>
   cases o with
   | cells c t fr =>
     cases w.heap[i]? with
     | none => intro k; simp at k
     | some o' =>
       cases o' with
       | cells c' t' fr' =>
         intro k
         dsimp only at k
         obtain ⟨k1,k2,k3,k4⟩:=k
         have e:c' = c:=by
          apply Array.ext_getElem?
          intro j
          exact k4 j (fun f => f)
         rw [k1,k2,e]
       | _ => intro k; simp at k
   | map es cl =>
     cases w.heap[i]? with
     | none => intro k; simp at k
     | some o' =>
       cases o' with
       | map es' cl' =>
         intro k
         dsimp only at k
         rcases k with k | ⟨k1,k2⟩
         · exact k.elim
         · rw [k1,k2]
       | _ => intro k; simp at k
   | _ =>
     cases w.heap[i]? with
     | none => intro k; simp at k
     | some o' => intro k; simpa using k
theorem post_of_none {H:Type} {enc:TypeId × Value → H} {P:Program} {f:Func} {s:ChangeSpec} {apart fresh handsOn again:Bool} {W W':World} {args:Array Value} {v:Value} {ds gs:List (DataW H)}
 (hW:DataW.Whole enc P f.params.toList s.vars apart W args.toList ds gs [])
 (hres:∀ (b:Nat) (sp:Nat → Bool) (hd:Bool),DataW.TrodAll enc P W' b sp hd f.resultTypes.toList (v.resultList f.resultTypes.size) (s.fn H (ds ++ gs)).results [])
 (hargs:∀ sp:Nat → Bool,DataW.TrodAll enc P W' 0 sp true f.params.toList args.toList (s.fn H (ds ++ gs)).args [])
 (hvars:∀ sp:Nat → Bool,DataW.TrodVars enc P W' sp s.vars (s.fn H (ds ++ gs)).vars [])
 (hk:W.keptBut W' (fun _ => False))
 (hok:∀ (j:Nat) (t:TypeId) (r:Value),f.resultTypes[j]? = some t → (v.resultList f.resultTypes.size)[j]? = some r → Value.okWide P W' .any 0 t r) :
 s.post enc P f apart fresh handsOn again W args v W':=by
 refine ⟨ds,gs,[],[],[],[],hW,hres _ _ _,hargs _,hvars _,World.keptBut_mono (fun p hp => hp.elim) hk,fun _ => ?_⟩
 refine ⟨hok,_,_,([] ++ []) ++ [],⟨[] ++ [],[],trodAll_append (hargs _) (hres _ _ _),hvars _,rfl,?_,?_⟩,?_⟩
 · intro b off hp; simp at hp
 · intro ha; simp
 · intro p hp _; simp at hp
end Go.Proofs.YtbnpelciceblfaaGreat
namespace Go.Proofs.YtbnpelciceblfaaGreat
set_option linter.unusedVariables false
set_option maxHeartbeats 64000000
structure EntV where
 tb:Int
 key:ByteArray
 oth:ByteArray
 ln:Int
 pr:Int
 bk:Int
 args:List Int
 idle:Int
 hard:Int
 ck:Int
 tl:Bool
 deriving DecidableEq
def OneE (a b:EntV):Prop:=a.tb = b.tb ∧ a.key = b.key ∧ a.oth = b.oth ∧ a.ln = b.ln ∧ a.pr = b.pr
instance (a b:EntV):Decidable (OneE a b):=inferInstanceAs (Decidable (_ ∧ _ ∧ _ ∧ _ ∧ _))
theorem OneE.symm {a b:EntV} (h:OneE a b):OneE b a:=⟨h.1.symm,h.2.1.symm,h.2.2.1.symm,h.2.2.2.1.symm,h.2.2.2.2.symm⟩
theorem OneE.trans {a b c:EntV} (h:OneE a b) (k:OneE b c):OneE a c:=⟨h.1.trans k.1,h.2.1.trans k.2.1,h.2.2.1.trans k.2.2.1,h.2.2.2.1.trans k.2.2.2.1,h.2.2.2.2.trans k.2.2.2.2⟩
structure HeldM where
 x:EntV
 put:Int
 found:Int
def clampT (now:Int):Int:=max 0 (min now 1099511627776)
theorem clampT_le (now:Int):0 ≤ clampT now ∧ clampT now ≤ 1099511627776:=by unfold clampT; omega
def tagT (t:Int) (h:HeldM):Int:=if 0 < h.x.hard ∧ h.x.hard ≤ t - h.put then 1 else if 0 < h.x.idle ∧ h.x.idle ≤ t - h.found then 2 else 0
def outT (t:Int) (L:List HeldM):List (EntV × Int):=(L.filter fun h => decide (tagT t h ≠ 0)).map fun h => (h.x,tagT t h)
def restT (t:Int) (L:List HeldM):List HeldM:=L.filter fun h => decide (tagT t h = 0)
def DueH (h:HeldM) (d:Int):Prop:=(0 < h.x.hard ∧ d = h.put + h.x.hard) ∨ (0 < h.x.idle ∧ d = h.found + h.x.idle)
def DueIs (L:List HeldM) (d:Int) (is:Bool):Prop:=(is = false ∧ d = 0 ∧ ∀ h ∈ L,∀ u,¬ DueH h u) ∨ (is = true ∧ (∃ h ∈ L,DueH h d) ∧ ∀ h ∈ L,∀ u,DueH h u → d ≤ u)
structure GoodL (L:List HeldM) (cap:Nat):Prop where
 nd:L.Pairwise fun a b => ¬ OneE a.x b.x
 len:L.length ≤ cap
 hard:∀ h ∈ L,0 ≤ h.x.hard ∧ h.x.hard ≤ 1099511627776
 idle:∀ h ∈ L,0 ≤ h.x.idle ∧ h.x.idle ≤ 1099511627776
 put:∀ h ∈ L,0 ≤ h.put ∧ h.put ≤ 1099511627776
 found:∀ h ∈ L,0 ≤ h.found ∧ h.found ≤ 1099511627776
theorem out_append (t:Int) (A B:List HeldM):outT t (A ++ B) = outT t A ++ outT t B:=by unfold outT; rw [List.filter_append,List.map_append]
theorem rest_append (t:Int) (A B:List HeldM):restT t (A ++ B) = restT t A ++ restT t B:=by unfold restT; rw [List.filter_append]
theorem splitH_at {L:List HeldM} {n:Nat} {h:HeldM} (hn:L[n]? = some h):L = L.take n ++ h :: L.drop (n + 1):=by
 obtain ⟨hl,rfl⟩:=List.getElem?_eq_some_iff.1 hn
 rw [List.getElem_cons_drop,List.take_append_drop]
def butE (L:List HeldM) (x:EntV):List HeldM:=L.filter fun h => decide (¬ OneE h.x x)
def hasE (L:List HeldM) (x:EntV):Prop:=∃ h ∈ L,OneE h.x x
instance (L:List HeldM) (x:EntV):Decidable (hasE L x):=inferInstanceAs (Decidable (∃ h ∈ L,OneE h.x x))
theorem butE_none {L:List HeldM} {x:EntV} (h:¬ hasE L x):butE L x = L:=List.filter_eq_self.2 fun y hy => decide_eq_true fun k => h ⟨y,hy,k⟩
theorem butE_at {L:List HeldM} {cap:Nat} (g:GoodL L cap) {n:Nat} {h:HeldM} (hn:L[n]? = some h) {x:EntV} (hx:OneE h.x x):butE L x = L.eraseIdx n:=by
 have e:=splitH_at hn
 have nd:(L.take n ++ h :: L.drop (n + 1)).Pairwise fun a b => ¬ OneE a.x b.x:=by rw [← e]; exact g.nd
 obtain ⟨h1,h2,h3⟩:=List.pairwise_append.1 nd
 rw [List.eraseIdx_eq_take_drop_succ]
 conv => lhs; arg 1; rw [e]
 unfold butE
 rw [List.filter_append,List.filter_cons,if_neg (by simp [hx])]
 congr 1
 · exact List.filter_eq_self.2 fun y hy => decide_eq_true fun k => h3 y hy h (.head _) (k.trans hx.symm)
 · exact List.filter_eq_self.2 fun y hy => decide_eq_true fun k => (List.pairwise_cons.1 h2).1 y hy (hx.trans k.symm)
theorem GoodL.but {L:List HeldM} {cap:Nat} (g:GoodL L cap) (x:EntV):GoodL (butE L x) cap :=
 ⟨List.Pairwise.filter _ g.nd,Nat.le_trans (List.length_filter_le _ _) g.len,fun h hh => g.hard h (List.mem_filter.1 hh).1,fun h hh => g.idle h (List.mem_filter.1 hh).1,fun h hh => g.put h (List.mem_filter.1 hh).1,fun h hh => g.found h (List.mem_filter.1 hh).1⟩
def putE (L:List HeldM) (x:EntV) (now:Int):List HeldM:=butE L x ++ [⟨x,clampT now,clampT now⟩]
theorem but_has_length {L:List HeldM} {cap:Nat} (g:GoodL L cap) {x:EntV} (h:hasE L x):(butE L x).length + 1 = L.length:=by
 obtain ⟨y,hy,k⟩:=h
 obtain ⟨n,hn⟩:=List.getElem?_of_mem hy
 rw [butE_at g hn k]
 have hl:=(List.getElem?_eq_some_iff.1 hn).1
 rw [List.length_eraseIdx_of_lt hl]; omega
theorem GoodL.put_ {L:List HeldM} {cap:Nat} (g:GoodL L cap) {x:EntV} {now:Int} (hh:0 ≤ x.hard ∧ x.hard ≤ 1099511627776) (hi:0 ≤ x.idle ∧ x.idle ≤ 1099511627776) (hc:hasE L x ∨ L.length < cap):GoodL (putE L x now) cap:=by
 have b:=g.but x
 have each:∀ {P:HeldM → Prop},(∀ h ∈ butE L x,P h) → P ⟨x,clampT now,clampT now⟩ → ∀ h ∈ putE L x now,P h:=fun a p h hm => by
  rcases List.mem_append.1 hm with hm | hm
  · exact a h hm
  · obtain rfl:h = _:=by simpa using hm
    exact p
 refine ⟨?_,?_,each b.hard hh,each b.idle hi,each b.put (clampT_le now),each b.found (clampT_le now)⟩
 · refine List.pairwise_append.2 ⟨b.nd,List.pairwise_singleton _ _,fun a ha c hc => ?_⟩
   obtain rfl:c = _:=by simpa using hc
   exact of_decide_eq_true (List.mem_filter.1 ha).2
 · unfold putE
   rw [List.length_append]
   show (butE L x).length + 1 ≤ cap
   by_cases k:hasE L x
   · rw [but_has_length g k]; exact g.len
   · rw [butE_none k]
     rcases hc with hc | hc
     · exact absurd hc k
     · exact hc
end Go.Proofs.YtbnpelciceblfaaGreat
namespace Go.Proofs.YtbnpelciceblfaaGreat
set_option linter.unusedVariables false
open Go.RowKit
set_option maxHeartbeats 64000000
structure WBut (F:List Nat) (W w:World):Prop where
 os:w.os = W.os
 out:w.output = W.output
 size:W.heap.size ≤ w.heap.size
 heap:∀ i,i < W.heap.size → i ∉ F → w.heap[i]? = W.heap[i]?
theorem Wider.but {W w:World} (h:Wider W w) (F:List Nat):WBut F W w:=⟨h.1.1,h.1.2.1,h.2,fun i hi _ => wheap h hi⟩
theorem WBut.refl (F:List Nat) (W:World):WBut F W W:=(Wider.refl W).but F
theorem WBut.trans {F G:List Nat} {a b c:World} (h:WBut F a b) (k:WBut G b c) (hs:∀ i ∈ G,i ∈ F ∨ a.heap.size ≤ i):WBut F a c :=
 ⟨k.os.trans h.os,k.out.trans h.out,Nat.le_trans h.size k.size,fun i hi hF => by
  rw [k.heap i (Nat.lt_of_lt_of_le hi h.size) (fun m => by rcases hs i m with m | m; exact hF m; omega),h.heap i hi hF]⟩
theorem wider_of {W w:World} (ho:w.os = W.os) (hu:w.output = W.output) (hz:W.heap.size ≤ w.heap.size) (hh:∀ i,i < W.heap.size → w.heap[i]? = W.heap[i]?):Wider W w:=by
 refine ⟨⟨ho,hu,fun i hi => ?_⟩,hz⟩
 rw [hh i hi]
 cases W.heap[i]? with
 | none => rfl
 | some o =>
   cases o with
   | cells c t fr => exact ⟨rfl,rfl,rfl,fun _ _ => rfl⟩
   | map es cl => exact .inr ⟨rfl,rfl⟩
   | _ => rfl
theorem WBut.wider {F:List Nat} {V W w:World} (g:Wider V W) (h:WBut F W w) (hs:∀ i ∈ F,V.heap.size ≤ i):Wider V w :=
 wider_of (h.os.trans g.1.1) (h.out.trans g.1.2.1) (Nat.le_trans g.2 h.size) fun i hi => by
  rw [h.heap i (Nat.lt_of_lt_of_le hi g.2) (fun m => by have:=hs i m; omega),wheap g hi]
theorem setCell_but (W:World) (a:Addr) (v:Value):WBut [a.block] W (W.setCell a v) where
 os:=rfl
 out:=rfl
 size:=by simp [World.setCell]
 heap i hi hF:=by
  simp only [World.setCell,Array.getElem?_modify]
  rw [if_neg (fun e => hF (by rw [e]; simp))]
abbrev Thing:=List Nat × (World → Prop)
def Thing.Stable (r:Thing):Prop:=∀ W w,r.2 W → (∀ i ∈ r.1,w.heap[i]? = W.heap[i]?) → r.2 w
structure Own (V w:World) (L:List Thing):Prop where
 holds:∀ r ∈ L,r.2 w
 new:∀ r ∈ L,∀ i ∈ r.1,V.heap.size ≤ i ∧ i < w.heap.size
 apart:L.Pairwise fun r q => ∀ i ∈ r.1,i ∉ q.1
 stable:∀ r ∈ L,r.Stable
 wider:Wider V w
theorem Own.nil {V w:World} (h:Wider V w):Own V w []:=⟨by simp,by simp,.nil,by simp,h⟩
theorem Own.quiet {V W w:World} {L:List Thing} (h:Own V W L) (g:Wider W w):Own V w L where
 holds r m:=h.stable r m W w (h.holds r m) fun i hi => wheap g (h.new r m i hi).2
 new r m i hi:=⟨(h.new r m i hi).1,Nat.lt_of_lt_of_le (h.new r m i hi).2 g.2⟩
 apart:=h.apart
 stable:=h.stable
 wider:=h.wider.trans g
theorem Own.drop {V w:World} {r:Thing} {L:List Thing} (h:Own V w (r :: L)):Own V w L :=
 ⟨fun q m => h.holds q (.tail _ m),fun q m => h.new q (.tail _ m),(List.pairwise_cons.1 h.apart).2,fun q m => h.stable q (.tail _ m),h.wider⟩
theorem Own.head {V w:World} {r:Thing} {L:List Thing} (h:Own V w (r :: L)):r.2 w:=h.holds r (.head _)
theorem Own.swap {V w:World} {r q:Thing} {L:List Thing} (h:Own V w (r :: q :: L)):Own V w (q :: r :: L) where
 holds x m:=h.holds x (by simp only [List.mem_cons] at m ⊢; rcases m with m | m | m <;> simp [m])
 new x m:=h.new x (by simp only [List.mem_cons] at m ⊢; rcases m with m | m | m <;> simp [m])
 apart:=by
  have k:=List.pairwise_cons.1 h.apart
  have k2:=List.pairwise_cons.1 k.2
  refine List.pairwise_cons.2 ⟨fun x m i hi hx => ?_,List.pairwise_cons.2 ⟨fun x m => k.1 x (.tail _ m),k2.2⟩⟩
  rcases List.mem_cons.1 m with rfl | m
  · exact k.1 q (.head _) i hx hi
  · exact k2.1 x m i hi hx
 stable x m:=h.stable x (by simp only [List.mem_cons] at m ⊢; rcases m with m | m | m <;> simp [m])
 wider:=h.wider
theorem Own.second {V w:World} {r q:Thing} {L:List Thing} (h:Own V w (r :: q :: L)):q.2 w:=h.drop.head
theorem Own.turn {V W w:World} {r s:Thing} {L:List Thing} (h:Own V W (r :: L)) (g:WBut r.1 W w) (hs:s.2 w) (hst:s.Stable) (hn:∀ i ∈ s.1,(i ∈ r.1 ∨ W.heap.size ≤ i) ∧ i < w.heap.size):Own V w (s :: L) where
 holds x m:=by
  rcases List.mem_cons.1 m with rfl | m
  · exact hs
  · refine h.stable x (.tail _ m) W w (h.holds x (.tail _ m)) fun i hi => g.heap i (h.new x (.tail _ m) i hi).2 fun hr => ?_
    exact (List.pairwise_cons.1 h.apart).1 x m i hr hi
 new x m i hi:=by
  rcases List.mem_cons.1 m with rfl | m
  · refine ⟨?_,(hn i hi).2⟩
    rcases (hn i hi).1 with k | k
    · exact (h.new r (.head _) i k).1
    · have:=h.wider.2; omega
  · exact ⟨(h.new x (.tail _ m) i hi).1,Nat.lt_of_lt_of_le (h.new x (.tail _ m) i hi).2 g.size⟩
 apart:=by
  have k:=List.pairwise_cons.1 h.apart
  refine List.pairwise_cons.2 ⟨fun x m i hi hx => ?_,k.2⟩
  rcases (hn i hi).1 with c | c
  · exact k.1 x m i c hx
  · have:=(h.new x (.tail _ m) i hx).2; omega
 stable x m:=by
  rcases List.mem_cons.1 m with rfl | m
  · exact hst
  · exact h.stable x (.tail _ m)
 wider:=g.wider h.wider fun i hi => (h.new r (.head _) i hi).1
theorem Own.make {V W w:World} {s:Thing} {L:List Thing} (h:Own V W L) (g:Wider W w) (hs:s.2 w) (hst:s.Stable) (hn:∀ i ∈ s.1,W.heap.size ≤ i ∧ i < w.heap.size):Own V w (s :: L) where
 holds x m:=by
  rcases List.mem_cons.1 m with rfl | m
  · exact hs
  · exact (h.quiet g).holds x m
 new x m i hi:=by
  rcases List.mem_cons.1 m with rfl | m
  · exact ⟨Nat.le_trans h.wider.2 (hn i hi).1,(hn i hi).2⟩
  · exact (h.quiet g).new x m i hi
 apart:=List.pairwise_cons.2 ⟨fun x m i hi hx => by have:=(h.new x m i hx).2; have:=(hn i hi).1; omega,h.apart⟩
 stable x m:=by
  rcases List.mem_cons.1 m with rfl | m
  · exact hst
  · exact h.stable x m
 wider:=h.wider.trans g
theorem grownBy_but {W w:World} {row:Option Nat} (g:W.grownBy w row):WBut row.toList W w :=
 ⟨g.os,g.output,g.size,fun i hi hF => g.block i hi fun e => hF (by rw [← e]; simp)⟩
abbrev rowT (e:TypeId) (size:Nat) (v:Value) (n:Nat) (xs:List Value):Thing:=(v.ownBlock.toList,fun w => w.ownsRow 0 e size v n xs)
theorem ownsRow_heap {W w:World} {b:Nat} {e:TypeId} {size n:Nat} {v:Value} {xs:List Value} (h:W.ownsRow b e size v n xs) (k:∀ i ∈ v.ownBlock.toList,w.heap[i]? = W.heap[i]?):w.ownsRow b e size v n xs:=by
 refine ⟨h.1,?_⟩
 rcases h.2 with q | ⟨g,cap,cur,rfl,hb,hg,r⟩
 · exact .inl q
 · exact .inr ⟨g,cap,cur,rfl,hb,(k g (by simp [Value.ownBlock])).trans hg,r⟩
theorem rowT_stable (e:TypeId) (size n:Nat) (v:Value) (xs:List Value):(rowT e size v n xs).Stable:=fun W w h k => ownsRow_heap h k
theorem ownsRow_less {w:World} {b c:Nat} {e:TypeId} {size n:Nat} {v:Value} {xs:List Value} (h:w.ownsRow b e size v n xs) (k:c ≤ b):w.ownsRow c e size v n xs:=by
 refine ⟨h.1,?_⟩
 rcases h.2 with q | ⟨g,cap,cur,rfl,hb,r⟩
 · exact .inl q
 · exact .inr ⟨g,cap,cur,rfl,Nat.le_trans k hb,r⟩
theorem ownsRow_wider {W w:World} {b:Nat} {e:TypeId} {size n:Nat} {v:Value} {xs:List Value} (h:W.ownsRow b e size v n xs) (g:Wider W w):w.ownsRow b e size v n xs :=
 ownsRow_heap h fun i hi => wheap g (h.lt i (by simpa using hi)).2
theorem Own.row {V W w:World} {L:List Thing} (h:Own V W L) (g:Wider W w) {e:TypeId} {size n:Nat} {v:Value} {xs:List Value} (r:w.ownsRow W.heap.size e size v n xs):Own V w (rowT e size v n xs :: L) :=
 h.make g (ownsRow_less r (Nat.zero_le _)) (rowT_stable _ _ _ _ _) fun i hi => r.lt i (by simpa using hi)
theorem ownsRow_store {w:World} {b:Nat} {e:TypeId} {size n cap:Nat} {g:Nat} {xs:List Value} {j:Nat} {u:Value} (h:w.ownsRow b e size (.slice (some ⟨g,0,none⟩) n cap) n xs) (hj:j < xs.length) (hu:u.oneCell' = true) :
 (w.setCell ⟨g,j,none⟩ u).ownsRow b e size (.slice (some ⟨g,0,none⟩) n cap) n (xs.set j u):=by
 refine ⟨by simpa using h.1,?_⟩
 rcases h.2 with ⟨q,_⟩ | ⟨g',cap',cur,hv,hb,hg,hn,hm,hs,ht⟩
 · cases q
 · simp only [Value.slice.injEq,Option.some.injEq,Addr.mk.injEq,and_true,true_and] at hv
   obtain ⟨rfl,rfl⟩:=hv
   have hl:=h.1
   refine .inr ⟨g,cap,cur.setIfInBounds j u,rfl,hb,?_,hn,hm,by simpa using hs,?_⟩
   · have hlt:g < w.heap.size:=(Array.getElem?_eq_some_iff.1 hg).1
     simp only [World.setCell,Array.getElem?_modify,if_true,hg,Option.map_some]
     rfl
   · rw [Array.toList_setIfInBounds,List.take_set,ht]
end Go.Proofs.YtbnpelciceblfaaGreat
namespace Go.Proofs.YtbnpelciceblfaaGreat
set_option linter.unusedVariables false
set_option maxHeartbeats 64000000
def mkB (l:List UInt8):ByteArray:=⟨l.toArray⟩
theorem mkB_data (l:List UInt8):(mkB l).data.toList = l:=by simp [mkB]
structure AtN where
 t:Nat
 v:ByteArray
end Go.Proofs.YtbnpelciceblfaaGreat
namespace Go.Proofs.YtbnpelciceblfaaGreat
set_option linter.unusedVariables false
open Go.RowKit
set_option maxHeartbeats 64000000
structure StrsAt (w:World) (A:Option Addr) (l:List ByteArray):Prop where
 none_:A = none → l = []
 cell:∀ a,A = some a → ∀ j s,l[j]? = some s → w.cell? (a.add j) = some (.string s)
theorem StrsAt.on {W w:World} {A:Option Addr} {l:List ByteArray} (h:StrsAt W A l) (g:Wider W w):StrsAt w A l :=
 ⟨h.none_,fun a e j s hs => wkeep g (h.cell a e j s hs)⟩
theorem StrsAt.new (w:World) (l:List ByteArray) (t:TypeId) (C:Array Value) (hC:C = (l.map Value.string).toArray):StrsAt (w.alloc (.cells C t)) (some ⟨w.heap.size,0,none⟩) l where
 none_ e:=by cases e
 cell a e j s hs:=by
  obtain rfl:(⟨w.heap.size,0,none⟩ : Addr) = a:=by injection e
  have e2:(⟨w.heap.size,0,none⟩ : Addr).add j = ⟨w.heap.size,j,none⟩:=by
   unfold Addr.add; by_cases h:j = 0
   · subst h; simp
   · simp [h]
  rw [e2,World.cell?_alloc_new,hC]
  simp [hs]
def joinL (l:List ByteArray):ByteArray:=⟨(l.flatMap fun s => s.data.toList).toArray⟩
theorem joinL_data (l:List ByteArray):(joinL l).data.toList = l.flatMap fun s => s.data.toList:=rfl
theorem ba_ext {a b:ByteArray} (h:a.data.toList = b.data.toList):a = b:=by
 have d:=Array.toList_inj.1 h
 cases a; cases b; simpa using d
theorem joinL_snoc (l:List ByteArray) (s:ByteArray):joinL (l ++ [s]) = joinL l ++ s:=by
 apply ba_ext
 rw [joinL_data,ByteArray.data_append,Array.toList_append,joinL_data]
 simp
theorem joinL_size (l:List ByteArray):(joinL l).size = (l.map fun s => s.size).sum:=by
 have e:(joinL l).size = (joinL l).data.toList.length:=by simp
 rw [e,joinL_data,List.length_flatMap]
 simp
theorem joinL_one (s:ByteArray):joinL [s] = s:=by apply ba_ext; rw [joinL_data]; simp
structure AtAt (w:World) (a:Addr) (x:AtN):Prop where
 c0:w.cell? a = some (.int .u8 (x.t:Int))
 c1:w.cell? (a.add 1) = some (.string x.v)
theorem AtAt.on {W w:World} {a:Addr} {x:AtN} (h:AtAt W a x) (g:Wider W w):AtAt w a x:=⟨wkeep g h.c0,wkeep g h.c1⟩
theorem AtAt.flat {w:World} {a:Addr} {x:AtN} (h:AtAt w a x):w.cell? ⟨a.block,a.off + 1,none⟩ = some (.string x.v):=by
 have e:a.add 1 = ⟨a.block,a.off + 1,none⟩:=by unfold Addr.add; simp
 rw [← e]; exact h.c1
structure AtsAt (w:World) (A:Option Addr) (l:List AtN):Prop where
 none_:A = none → l = []
 cell:∀ a,A = some a → ∀ j x,l[j]? = some x → AtAt w (a.add (j * 2)) x
theorem AtsAt.on {W w:World} {A:Option Addr} {l:List AtN} (h:AtsAt W A l) (g:Wider W w):AtsAt w A l :=
 ⟨h.none_,fun a e j s hs => (h.cell a e j s hs).on g⟩
theorem run_append_any {P:Program} (w:World) (base:Nat) (t ty e:TypeId) (i:TypeInfo) (z:Value) (size bytes:Nat) (ht:P.underlying t = some (.slice e)) (hi:P.info? e = some i) (hz:i.zero = some z)
 (hsize:i.size = size) (hby:i.bytes = bytes) (hzs:z.cells.size = size) (hsz:0 < size)
 (v:Value) (n:Nat) (xs:List Value) (hown:w.ownsRow base e size v n xs)
 (A:Option Addr) (m c:Nat) (news:List Value) (hl:news.length = m * size) (h0:A = none → m = 0) (hnews:∀ a,A = some a → ∀ j u,news[j]? = some u → w.cell? (a.add j) = some u) (h1:∀ u ∈ news,u.oneCell' = true)
 (h63:n + m ≤ maxLen) (hbytes:(n + m) * bytes ≤ 140737488355328) (hbase:base ≤ w.heap.size) :
 ∃ v' w',(Builtin.append_ #[t,t] ty #[v,.slice A m c]).run P w = .ok v' w' ∧ w'.ownsRow base e size v' (n + m) (xs ++ news) ∧ w.grownBy w' v.ownBlock:=by
 cases A with
 | none =>
   obtain rfl:=h0 rfl
   have hnil:news = []:=List.eq_nil_of_length_eq_zero (by simpa using hl)
   subst hnil
   refine ⟨v,w,?_,by simpa using hown,⟨rfl,rfl,rfl,Nat.le_refl _,fun _ _ _ => rfl⟩⟩
   rcases hown.2 with ⟨rfl,rfl⟩ | ⟨g,cap,cur,rfl,_,_,hnc,_⟩
   · simp [Builtin.append_,run_underlying ht,sizeOf,typeInfo,hi,Builtin.lenOf,Builtin.firstCells]
   · simp [Builtin.append_,run_underlying ht,sizeOf,typeInfo,hi,Builtin.lenOf,Builtin.firstCells,hnc,storeCells]
 | some a =>
   obtain ⟨v',w',r,o,g,_⟩:=run_append_own (P:=P) w base t ty e i z size bytes ht hi hz hsize hby hzs hsz v n xs hown a m c news hl (hnews a rfl) h1 h63 hbytes hbase
   exact ⟨v',w',r,o,g⟩
theorem ownsRow_shape {w:World} {b:Nat} {e:TypeId} {size n:Nat} {v:Value} {xs:List Value} (h:w.ownsRow b e size v n xs):∃ B c2,v = .slice B n c2:=by
 rcases h.2 with ⟨rfl,q⟩ | ⟨g,cap,cur,rfl,_⟩
 · exact ⟨none,0,by rw [q]⟩
 · exact ⟨_,_,rfl⟩
theorem append_block {P:Program} {w:World} {base:Nat} {t ty e:TypeId} {i:TypeInfo} {z:Value} {size bytes:Nat} (ht:P.underlying t = some (.slice e)) (hi:P.info? e = some i) (hz:i.zero = some z)
 (hsize:i.size = size) (hby:i.bytes = bytes) (hzs:z.cells.size = size) (hsz:0 < size)
 {v:Value} {n:Nat} {xs:List Value} (hown:w.ownsRow base e size v n xs)
 {A:Option Addr} {m c:Nat} {news:List Value} (hl:news.length = m * size) (h0:A = none → m = 0) (hnews:∀ a,A = some a → ∀ j u,news[j]? = some u → w.cell? (a.add j) = some u) (h1:∀ u ∈ news,u.oneCell' = true)
 (h63:n + m ≤ maxLen) (hbytes:(n + m) * bytes ≤ 140737488355328)
 {v':Value} {w':World} (hr:(Builtin.append_ #[t,t] ty #[v,.slice A m c]).run P w = .ok v' w'):∀ k,v'.ownBlock = some k → v.ownBlock = some k ∨ w.heap.size ≤ k:=by
 intro k hk
 rcases hown.2 with ⟨rfl,rfl⟩ | ⟨g,cap,cur,rfl,hb,hg,hnc,hcm,hcs,htake⟩
 · obtain rfl:xs = []:=List.eq_nil_of_length_eq_zero (by simpa using hown.1)
   obtain ⟨v2,w2,r2,o2,_⟩:=run_append_any (P:=P) w w.heap.size t ty e i z size bytes ht hi hz hsize hby hzs hsz _ 0 [] (World.ownsRow_nil _ _ _ _) A m c news hl h0 hnews h1 h63 hbytes (Nat.le_refl _)
   rw [hr] at r2
   injection r2 with e1 e2
   subst e1
   exact .inr (o2.lt k hk).1
 · cases A with
   | none =>
     obtain rfl:=h0 rfl
     have r2:(Builtin.append_ #[t,t] ty #[Value.slice (some ⟨g,0,none⟩) n cap,.slice none 0 c]).run P w = .ok (Value.slice (some ⟨g,0,none⟩) n cap) w:=by
      simp [Builtin.append_,run_underlying ht,sizeOf,typeInfo,hi,Builtin.lenOf,Builtin.firstCells,hnc,storeCells]
     rw [hr] at r2
     injection r2 with e1 e2
     subst e1
     exact .inl hk
   | some a =>
     by_cases hroom:n + m ≤ cap
     · obtain ⟨w2,r2,_⟩:=run_append_fits (P:=P) w base t ty e i size ht hi hsize g n cap xs hown a m c news hl (hnews a rfl) h1 hroom
       rw [hr] at r2
       injection r2 with e1 e2
       subst e1
       exact .inl hk
     · subst hsize hby
       have holds:∀ j u,xs[j]? = some u → w.cell? ((⟨g,0,none⟩ : Addr).add j) = some u:=hown.cells (g:=g) rfl
       have r2:=run_append_grow (P:=P) w t ty e i z ht hi hz ⟨g,0,none⟩ n cap xs hown.1 holds a m c news hl (hnews a rfl) (by omega) (by simp only [maxLen] at h63; omega) (growslice_fits (by omega) hbytes)
       rw [hr] at r2
       injection r2 with e1 e2
       subst e1
       simp only [Value.ownBlock,Option.some.injEq] at hk
       exact .inr (by omega)
theorem wpList_append_thing {P:Program} {V w:World} {L:List Thing} {ops:Array Oper} {rest:List Oper} {o:Oper} {a:Act} {Q:Exit → Act → World → Prop} (hgd:o.guard = none) (s x:Operand) (t:TypeId)
 (ho:o.op = .call { callee:=.builtin .append,args:=#[s,x],argTypes:=#[t,t] })
 (e:TypeId) (i:TypeInfo) (z:Value) (size bytes:Nat) (ht:P.underlying t = some (.slice e)) (hi:P.info? e = some i) (hz:i.zero = some z)
 (hsize:i.size = size) (hby:i.bytes = bytes) (hzs:z.cells.size = size) (hsz:0 < size)
 (v:Value) (n:Nat) (xs:List Value) (hs:a.eval s = v) (H:Own V w (rowT e size v n xs :: L))
 (A:Option Addr) (m c:Nat) (news:List Value) (hx:a.eval x = .slice A m c) (hl:news.length = m * size) (h0:A = none → m = 0) (hnews:∀ a,A = some a → ∀ j u,news[j]? = some u → w.cell? (a.add j) = some u) (h1:∀ u ∈ news,u.oneCell' = true)
 (h63:n + m ≤ maxLen) (hbytes:(n + m) * bytes ≤ 140737488355328) {k:Nat} (hk:n + m = k) {ys:List Value} (hys:xs ++ news = ys)
 (h:∀ B c2 w',Own V w' (rowT e size (.slice B k c2) k ys :: L) → wpList P ops Q rest (a.put o.dst (.slice B k c2)) w'):wpList P ops Q (o :: rest) a w:=by
 subst hk hys
 refine wpList_plain hgd fun K hK => ?_
 obtain ⟨v',w',hr,h2,h3⟩:=run_append_any (P:=P) w 0 t o.type e i z size bytes ht hi hz hsize hby hzs hsz v n xs H.head A m c news hl h0 hnews h1 h63 hbytes (Nat.zero_le _)
 have hb:=append_block (P:=P) ht hi hz hsize hby hzs hsz H.head hl h0 hnews h1 h63 hbytes hr
 unfold Oper.wp execOp
 simp only [ho,resolve,invoke,builtin,Sem.run_bind,Sem.run_pure,Result.andThen_ok,List.map_toArray,List.map_cons,List.map_nil,hs,hx,hr]
 obtain ⟨B,c2,rfl⟩:=ownsRow_shape h2
 refine hK _ _ (h B c2 w' (H.turn (s:=rowT e size (.slice B (n + m) c2) (n + m) (xs ++ news)) (grownBy_but h3) h2 (rowT_stable _ _ _ _ _) fun j hj => ?_))
 have hj2:(Value.slice B (n + m) c2).ownBlock = some j:=by simpa using hj
 refine ⟨?_,(h2.lt j hj2).2⟩
 rcases hb j hj2 with q | q
 · exact .inl (by simp [q])
 · exact .inr q
theorem Own.perm {V w:World} {L M:List Thing} (h:Own V w L) (p:L.Perm M):Own V w M where
 holds r m:=h.holds r (p.mem_iff.2 m)
 new r m:=h.new r (p.mem_iff.2 m)
 apart:=(p.pairwise_iff (fun {r q} hrq i hi hq => hrq i hq hi)).1 h.apart
 stable r m:=h.stable r (p.mem_iff.2 m)
 wider:=h.wider
theorem Own.third {V w:World} {x y z:Thing} {L:List Thing} (h:Own V w (x :: y :: z :: L)):Own V w (z :: x :: y :: L) :=
 h.perm (((List.Perm.swap z y L).cons x).trans (List.Perm.swap z x (y :: L)))
theorem Own.fourth {V w:World} {x y z u:Thing} {L:List Thing} (h:Own V w (x :: y :: z :: u :: L)):Own V w (u :: x :: y :: z :: L) :=
 h.perm ((((List.Perm.swap u z L).cons y).trans (List.Perm.swap u y (z :: L))).cons x |>.trans (List.Perm.swap u x (y :: z :: L)))
end Go.Proofs.YtbnpelciceblfaaGreat
namespace Go.Proofs.YtbnpelciceblfaaGreat
set_option linter.unusedVariables false
open Go.ChangeShapes Go.WideShapes Go.ChangeAt Go.RowKit Go.Joins
set_option maxHeartbeats 64000000
theorem own:ownKnob Tryz.prog.godebug = none:=by kernel_rfl
end Go.Proofs.YtbnpelciceblfaaGreat
namespace Go.Proofs.YtbnpelciceblfaaGreat
set_option linter.unusedVariables false
open Go.RowKit
set_option maxHeartbeats 64000000
def zerosN (n:Nat):Array Value:=madeCells (Value.int .u8 0).cells n
theorem zerosN_at (n j:Nat) (h:j < n):(zerosN n)[j]? = some (.int .u8 0):=by
 unfold zerosN
 have e:(Value.int IntKind.u8 0).cells = #[Value.int .u8 0]:=rfl
 rw [e]
 have m:j % 1 = 0:=by omega
 simp [madeCells,h,m]
theorem infoN:(Tryz.prog.info? 5).map (fun i => (i.zero,i.size,i.bytes)) = some (some (.int .u8 0),1,1):=by kernel_rfl
theorem infoN_parts:∃ i,Tryz.prog.info? 5 = some i ∧ i.zero = some (.int .u8 0) ∧ i.size = 1 ∧ i.bytes = 1:=by
 have h:=infoN
 cases e:Tryz.prog.info? 5 with
 | none => rw [e] at h; cases h
 | some i =>
   rw [e] at h
   simp only [Option.map_some,Option.some.injEq,Prod.mk.injEq] at h
   exact ⟨i,rfl,h.1,h.2.1,h.2.2⟩
theorem makeN (n:Nat) (hn:n < 1000000) (w:World):(Instr.makeSlice 139 (.int .i64 (n:Int)) (.int .i64 (n:Int))).run Tryz.prog w = .ok (.slice (some ⟨w.heap.size,0,none⟩) n n) (w.alloc (.cells (zerosN n) 5)):=by
 obtain ⟨i0,hi,hz0,hz1,hz2⟩:=infoN_parts
 have h:=run_make (P:=Tryz.prog) (w:=w) 139 5 i0 (.int .u8 0) Tryz.underlying139 hi hz0 .i64 .i64 (n:Int) (n:Int) (by omega) (by omega) (by rw [hz2]; omega) (by omega)
 rw [hz1,Int.toNat_natCast,Nat.mul_one] at h
 exact h
structure Bts (w:World) (B n:Nat) (v:Nat → Int):Prop where
 cell:∀ j,j < n → w.cell? ⟨B,j,none⟩ = some (.int .u8 (v j))
 free:∀ j,j < n → w.frozen? ⟨B,j,none⟩ = false
theorem Bts.on {W w:World} {B n:Nat} {v:Nat → Int} (h:Bts W B n v) (g:Wider W w):Bts w B n v :=
 ⟨fun j hj => wkeep g (h.cell j hj),fun j hj => wfree g (h.cell j hj) (h.free j hj)⟩
theorem Bts.congr {w:World} {B n:Nat} {v u:Nat → Int} (h:Bts w B n v) (e:∀ j,j < n → v j = u j):Bts w B n u:=⟨fun j hj => by rw [h.cell j hj,e j hj],h.free⟩
theorem Bts.put {w:World} {B n k:Nat} {y:Int} {v u:Nat → Int} (h:Bts w B n v) (hk:k < n) (e:∀ j,j < n → u j = if j = k then y else v j):Bts (w.setCell ⟨B,k,none⟩ (.int .u8 y)) B n u where
 cell j hj:=by
  rw [e j hj]
  by_cases q:j = k
  · subst q; rw [if_pos rfl]; exact csame (h.cell j hj)
  · rw [if_neg q,cother (by intro r; injection r; omega)]; exact h.cell j hj
 free j hj:=(World.frozen?_setCell _ _ _ _).trans (h.free j hj)
theorem Bts.made (w:World) (n:Nat):Bts (w.alloc (.cells (zerosN n) 5)) w.heap.size n (fun _ => 0) where
 cell j hj:=by rw [World.cell?_alloc_new]; exact zerosN_at n j hj
 free j hj:=by simp [go_sem]
theorem Bts.conv {w:World} {B n:Nat} {v:Nat → Int} (h:Bts w B n v) (cap:Nat) {T:ByteArray} (hT:strOfNums ((List.range n).map v) = T) :
 (convert 139 9 (.slice (some ⟨B,0,none⟩) n cap)).run Tryz.prog w = .ok (.string T) w:=by
 have c:=run_convert_bytes_arg (P:=Tryz.prog) w 139 5 Tryz.underlying139 Tryz.underlying5 B 0 n cap ((List.range n).map v) (by simp) (fun i hi => by
  rw [Nat.zero_add,h.cell i hi,List.getD_eq_getElem?_getD,List.getElem?_map,List.getElem?_range hi]; rfl) 9 Tryz.underlying9
 rw [hT] at c
 exact c
end Go.Proofs.YtbnpelciceblfaaGreat
namespace Go.Proofs.YtbnpelciceblfaaGreat
set_option linter.unusedVariables false
open Go.ChangeShapes Go.WideShapes Go.ChangeAt Go.RowKit Go.Joins
set_option maxHeartbeats 64000000
theorem nums_mkB (l:List UInt8):strOfNums (l.map fun b => (b.toNat:Int)) = mkB l:=by
 apply ba_ext
 rw [strOfNums_data,mkB_data,List.map_map]
 conv => rhs; rw [← List.map_id l]
 refine List.map_congr_left fun b _ => ?_
 show UInt8.ofNat ((b.toNat:Int).toNat) = b
 rw [Int.toNat_natCast]; simp
abbrev blkT (B:Nat) (C:Array Value) (t:TypeId):Thing:=([B],fun w => w.heap[B]? = some (.cells C t (0,0)))
theorem blk_stable (B:Nat) (C:Array Value) (t:TypeId):(blkT B C t).Stable:=fun W w h k => (k B (by simp)).trans h
theorem blk_cell {w:World} {B:Nat} {C:Array Value} {t:TypeId} (h:w.heap[B]? = some (.cells C t (0,0))) (j:Nat) {v:Value} (e:C[j]? = some v):w.cell? ⟨B,j,none⟩ = some v:=by
 unfold World.cell?; simp [h,e]
theorem blk_free {w:World} {B:Nat} {C:Array Value} {t:TypeId} (h:w.heap[B]? = some (.cells C t (0,0))) (j:Nat):w.frozen? ⟨B,j,none⟩ = false:=by
 unfold World.frozen?; simp [h]
theorem Own.blk {V w:World} {L:List Thing} (H:Own V w L) (C:Array Value) (t:TypeId):Own V (w.alloc (.cells C t)) (blkT w.heap.size C t :: L):=by
 have e:(w.alloc (.cells C t)).heap[w.heap.size]? = some (.cells C t (0,0)):=heap_alloc_new w _
 have l:(w.alloc (.cells C t)).heap.size = w.heap.size + 1:=by simp
 exact H.make ((Wider.refl w).alloc _) e (blk_stable _ _ _) fun i hi => by
  obtain rfl:i = w.heap.size:=by simpa using hi
  omega
theorem Own.store {V w:World} {L:List Thing} {B:Nat} {C:Array Value} {t:TypeId} (H:Own V w (blkT B C t :: L)) (j:Nat) (v:Value):Own V (w.setCell ⟨B,j,none⟩ v) (blkT B (C.setIfInBounds j v) t :: L):=by
 have hB:=H.head
 have l:(w.setCell ⟨B,j,none⟩ v).heap.size = w.heap.size:=by simp [World.setCell]
 refine H.turn (setCell_but w ⟨B,j,none⟩ v) ?_ (blk_stable _ _ _) fun i hi => ⟨.inl hi,by rw [l]; exact (H.new _ (.head _) i hi).2⟩
 show (w.setCell ⟨B,j,none⟩ v).heap[B]? = _
 simp only [World.setCell,Array.getElem?_modify,if_true]
 rw [hB]; rfl
theorem Own.split {V w:World} {s:Thing} {M L:List Thing} (H:Own V w (s :: L)) (hM:∀ r ∈ M,r.2 w) (hst:∀ r ∈ M,r.Stable) (hin:∀ r ∈ M,∀ i ∈ r.1,i ∈ s.1) (hap:M.Pairwise fun r q => ∀ i ∈ r.1,i ∉ q.1):Own V w (M ++ L) where
 holds x m:=by
  rcases List.mem_append.1 m with m | m
  · exact hM x m
  · exact H.holds x (.tail _ m)
 new x m i hi:=by
  rcases List.mem_append.1 m with m | m
  · exact H.new s (.head _) i (hin x m i hi)
  · exact H.new x (.tail _ m) i hi
 apart:=by
  have k:=List.pairwise_cons.1 H.apart
  exact List.pairwise_append.2 ⟨hap,k.2,fun r hr q hq i hi => k.1 q hq i (hin r hr i hi)⟩
 stable x m:=by
  rcases List.mem_append.1 m with m | m
  · exact hst x m
  · exact H.stable x (.tail _ m)
 wider:=H.wider
theorem Own.join {V w:World} {s:Thing} {M L:List Thing} (H:Own V w (M ++ L)) (hs:s.2 w) (hst:s.Stable) (hin:∀ i ∈ s.1,∃ r ∈ M,i ∈ r.1):Own V w (s :: L) where
 holds x m:=by
  rcases List.mem_cons.1 m with rfl | m
  · exact hs
  · exact H.holds x (List.mem_append.2 (.inr m))
 new x m i hi:=by
  rcases List.mem_cons.1 m with rfl | m
  · obtain ⟨r,hr,hir⟩:=hin i hi
    exact H.new r (List.mem_append.2 (.inl hr)) i hir
  · exact H.new x (List.mem_append.2 (.inr m)) i hi
 apart:=by
  have k:=List.pairwise_append.1 H.apart
  refine List.pairwise_cons.2 ⟨fun q hq i hi => ?_,k.2.1⟩
  obtain ⟨r,hr,hir⟩:=hin i hi
  exact k.2.2 r hr q hq i hir
 stable x m:=by
  rcases List.mem_cons.1 m with rfl | m
  · exact hst
  · exact H.stable x (List.mem_append.2 (.inr m))
 wider:=H.wider
end Go.Proofs.YtbnpelciceblfaaGreat
