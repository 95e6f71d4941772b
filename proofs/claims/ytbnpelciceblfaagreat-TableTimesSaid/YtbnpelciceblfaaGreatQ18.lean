/- ZTwinM ZTwin ZSetCopy -/
import Derived.Test.YtbnpelciceblfaaGreatQ17
namespace Go.Proofs.YtbnpelciceblfaaGreat
set_option linter.unusedVariables false
open Go.ChangeShapes Go.WideShapes Go.ChangeAt Go.RowKit Go.Joins Go.Maps Go.ChangeMaps
set_option maxHeartbeats 64000000
def kpR (l:List RowN):List (ByteArray × List PlN):=l.map fun r => (r.key,r.ps)
structure LikeG (t g:GrpN):Prop where
 mask:t.mask = g.mask
 pr:t.pr = g.pr
 rows:(kpR t.rows).Perm (kpR g.rows)
theorem flatR_kp (l:List RowN):flatR l = (kpR l).flatMap (·.2):=by
 unfold flatR kpR
 rw [List.flatMap_map]
theorem kpR_mem {l m:List RowN} (p:(kpR l).Perm (kpR m)) {r:RowN} (hr:r ∈ l):∃ q ∈ m,q.key = r.key ∧ q.ps = r.ps:=by
 have:=p.mem_iff.1 (List.mem_map.2 ⟨r,hr,rfl⟩ : (r.key,r.ps) ∈ kpR l)
 obtain ⟨q,hq,e⟩:=List.mem_map.1 this
 injection e with e1 e2
 exact ⟨q,hq,e1,e2⟩
theorem LikeG.flat {t g:GrpN} (h:LikeG t g):t.flat.Perm g.flat:=by
 unfold GrpN.flat
 rw [flatR_kp,flatR_kp]
 exact h.rows.flatMap_right _
theorem LikeG.good {t g:GrpN} (h:LikeG t g) (k:GoodG g):GoodG t where
 keys:=by
  have a:(kpR g.rows).Pairwise fun a b => a.1 ≠ b.1:=List.pairwise_map.2 k.keys
  have b:=pairwise_perm (fun a b (h:a.1 ≠ b.1) => h.symm) h.rows.symm a
  exact (List.pairwise_map (f:=fun r:RowN => (r.key,r.ps)) (R:=fun a b => a.1 ≠ b.1)).1 b
 ne r hr:=by
  obtain ⟨q,hq,e1,e2⟩:=kpR_mem h.rows hr
  rw [← e2]
  exact k.ne q hq
 of r hr p hp:=by
  obtain ⟨q,hq,e1,e2⟩:=kpR_mem h.rows hr
  rw [h.mask,← e1]
  exact k.of q hq p (by rw [e2]; exact hp)
 desc r hr:=by
  obtain ⟨q,hq,e1,e2⟩:=kpR_mem h.rows hr
  rw [← e2]
  exact k.desc q hq
 asc:=by rw [h.pr]; exact k.asc
 prs:=by
  rw [h.pr]
  exact k.prs.trans (h.flat.symm.map _)
theorem LikeG.some {t g:GrpN} (h:LikeG t g) (k:g.rows ≠ []):t.rows ≠ []:=fun e => k (by
 have:=h.rows.length_eq
 rw [e] at this
 simpa [kpR] using this.symm)
theorem LikeG.top {t g:GrpN} (h:LikeG t g):t.top = g.top:=by unfold GrpN.top; rw [h.pr]
theorem LikeG.ahead {t g s f:GrpN} (h:LikeG t g) (k:LikeG s f):aheadN t s = aheadN g f:=by
 unfold aheadN
 rw [h.top,k.top,h.mask,k.mask]
inductive LikeS:List GrpN → List GrpN → Prop
 | nil:LikeS [] []
 | cons {t g ts gs} (h:LikeG t g) (k:LikeS ts gs):LikeS (t :: ts) (g :: gs)
theorem LikeS.snoc {ts gs:List GrpN} (k:LikeS ts gs) {t g:GrpN} (h:LikeG t g):LikeS (ts ++ [t]) (gs ++ [g]):=by
 induction k with
 | nil => exact .cons h .nil
 | cons a _ ih => exact .cons a ih
theorem LikeS.mem {ts gs:List GrpN} (k:LikeS ts gs) {t:GrpN} (ht:t ∈ ts):∃ g ∈ gs,LikeG t g:=by
 induction k with
 | nil => cases ht
 | cons a _ ih =>
   rcases List.mem_cons.1 ht with rfl | ht
   · exact ⟨_,.head _,a⟩
   · obtain ⟨g,hg,h⟩:=ih ht
     exact ⟨g,.tail _ hg,h⟩
theorem LikeS.flat {ts gs:List GrpN} (k:LikeS ts gs):(flatS ts).Perm (flatS gs):=by
 induction k with
 | nil => exact List.Perm.refl _
 | cons a _ ih => exact (a.flat).append ih
theorem LikeS.pair {R:GrpN → GrpN → Prop} (hR:∀ t g s f,LikeG t g → LikeG s f → R g f → R t s) {ts gs:List GrpN} (k:LikeS ts gs) (h:gs.Pairwise R):ts.Pairwise R:=by
 induction k with
 | nil => exact .nil
 | cons a b ih =>
   obtain ⟨h1,h2⟩:=List.pairwise_cons.1 h
   refine List.pairwise_cons.2 ⟨fun s hs => ?_,ih h2⟩
   obtain ⟨f,hf,l⟩:=b.mem hs
   exact hR _ _ _ _ a l (h1 f hf)
theorem setL_twin {s t:SetN} {L:List ItN} {N:Nat} (h:SetL s L N) (k:LikeS t.gs s.gs) (e1:t.items = s.items) (e2:t.last = s.last) (e3:t.gm ≠ none):SetL t L N where
 good:={
  good:=fun x hx => by
   obtain ⟨g,hg,l⟩:=k.mem hx
   exact ⟨l.good (h.good.good g hg).1,l.some (h.good.good g hg).2⟩
  masks:=k.pair (fun t g s f a b hR => by rw [a.mask,b.mask]; exact hR) h.good.masks
  ord:=k.pair (fun t g s f a b hR => by rw [a.ahead b]; exact hR) h.good.ord
  items:=by rw [e1,h.good.items,k.flat.length_eq]
  places:=pairwise_perm (fun a b => Ne.symm) k.flat.symm h.good.places
  last:=fun p hp => by rw [e2]; exact h.good.last p (k.flat.mem_iff.1 hp)
  form:=fun p hp => h.good.form p (k.flat.mem_iff.1 hp)
  gm:=fun q => absurd q e3 }
 all:=by
  obtain ⟨Ps,p1,p2,p3⟩:=h.all
  exact ⟨Ps,p1.trans k.flat.symm,p2,p3⟩
 small:=h.small
 len:=h.len
 last:=by rw [e2]; exact h.last
theorem setL_few {s:SetN} {L:List ItN} {N:Nat} (h:SetL s L N) (hN:N < 99990):s.gs.length < 99990 ∧ ∀ g ∈ s.gs,GoodG g ∧ g.mask.size < 1000000 ∧ g.pr.length < 99999 ∧ g.rows.length < 99999 ∧ ∀ r ∈ g.rows,r.key.size < 1000000 ∧ r.ps.length < 99999:=by
 have hf:=flat_len h
 have one:∀ g ∈ s.gs,g.flat.length ≤ N:=fun g hg => by
  obtain ⟨A,B,e⟩:=List.append_of_mem hg
  rw [e] at hf
  unfold flatS at hf
  rw [List.flatMap_append,List.flatMap_cons,List.length_append,List.length_append] at hf
  omega
 have rows:∀ (l:List RowN),(∀ r ∈ l,r.ps ≠ []) → l.length ≤ (flatR l).length:=fun l => by
  induction l with
  | nil => intro _; exact Nat.le_refl _
  | cons r l ih =>
    intro hl
    have a:=ih fun x hx => hl x (.tail _ hx)
    have b:=List.length_pos_iff.2 (hl r (.head _))
    rw [flatR_cons,List.length_append,List.length_cons]
    omega
 have gsl:∀ (l:List GrpN),(∀ g ∈ l,g.flat ≠ []) → l.length ≤ (flatS l).length:=fun l => by
  induction l with
  | nil => intro _; exact Nat.le_refl _
  | cons g l ih =>
    intro hl
    have a:=ih fun x hx => hl x (.tail _ hx)
    have b:=List.length_pos_iff.2 (hl g (.head _))
    unfold flatS at a ⊢
    rw [List.flatMap_cons,List.length_append,List.length_cons]
    omega
 have ne:∀ g ∈ s.gs,g.flat ≠ []:=fun g hg e => by
  obtain ⟨k1,k2⟩:=h.good.good g hg
  have:=rows g.rows k1.ne
  unfold GrpN.flat at e
  rw [e] at this
  exact k2 (List.eq_nil_of_length_eq_zero (Nat.le_zero.1 this))
 have sm:∀ p ∈ flatS s.gs,p.x.key.size < 1000000 ∧ p.x.mask.size < 1000000:=fun p hp => by
  obtain ⟨Ps,p1,p2,p3⟩:=h.all
  refine h.small p.x ?_
  rw [← p3]
  exact List.mem_map.2 ⟨p,p1.mem_iff.2 hp,rfl⟩
 refine ⟨by have:=gsl s.gs ne; omega,fun g hg => ?_⟩
 obtain ⟨k1,k2⟩:=h.good.good g hg
 have l1:=one g hg
 have inS:∀ p ∈ g.flat,p ∈ flatS s.gs:=fun p hp => List.mem_flatMap.2 ⟨g,hg,hp⟩
 have l2:=rows g.rows k1.ne
 have l3:g.flat.length = (flatR g.rows).length:=rfl
 refine ⟨k1,?_,?_,by omega,fun r hr => ?_⟩
 · cases q:g.flat with
   | nil => exact absurd q (ne g hg)
   | cons p l =>
     have hp:p ∈ g.flat:=by rw [q]; exact .head _
     rw [← (k1.mem_get hp).2]
     exact (sm p (inS p hp)).2
 · have e:=k1.prs.length_eq
   rw [List.length_map] at e
   omega
 · obtain ⟨p,l,q⟩ : ∃ p l,r.ps = p :: l:=by
    cases q:r.ps with
    | nil => exact absurd q (k1.ne r hr)
    | cons p l => exact ⟨p,l,rfl⟩
   have hp:p ∈ r.ps:=by rw [q]; exact .head _
   refine ⟨?_,?_⟩
   · rw [← (k1.of r hr p hp).1]
     exact (sm p (inS p (List.mem_flatMap.2 ⟨r,hr,hp⟩))).1
   · obtain ⟨A,B,e⟩:=List.append_of_mem hr
     have:(flatR g.rows).length = (flatR A).length + (r.ps.length + (flatR B).length):=by
      rw [e]
      unfold flatR
      rw [List.flatMap_append,List.flatMap_cons,List.length_append,List.length_append]
     omega
end Go.Proofs.YtbnpelciceblfaaGreat
namespace Go.Proofs.YtbnpelciceblfaaGreat
set_option linter.unusedVariables false
open Go.ChangeShapes Go.WideShapes Go.ChangeAt Go.RowKit Go.Joins Go.Maps Go.ChangeMaps
open Go.WideElems (Fit rd rg pl)
set_option maxHeartbeats 64000000
theorem grownZ_wider {w w':World} (h:w.grownBy w' none):Wider w w':=WBut.wider (Wider.refl w) (grownBy_but (row:=none) h) (by simp)
theorem keyOfZ_inv {key:Value} {kl:Lit} (h:keyOf Tryz.prog 9 key = some kl):∃ x:ByteArray,key = .string x ∧ kl = keyU x:=by
 have hk:=Tryz.underlying9
 cases key <;> simp [keyOf,hk,mapKey] at h
 obtain ⟨_,rfl⟩:=h
 exact ⟨_,rfl,rfl⟩
theorem nextZ_row {D:DataW Value} {rows:List RowN} (mi:MapIs D (entR rows)) {x:ByteArray} {c:Value} {kl:Lit} {y:DataW Value × List MemPlace} (hkey:keyOf Tryz.prog 9 (.string x) = some kl) (hv:heldU c = some y) (hat:∀ zd,D.atKey kl zd = y.1) :
 ∃ r ∈ rows,r.key = x ∧ r.val = c ∧ kl = keyU x:=by
 obtain ⟨x',e,rfl⟩:=keyOfZ_inv hkey
 injection e with e
 subst e
 have ey:y.1 = .held c:=by
  have hv2:some ((DataW.held c:DataW Value),([] : List MemPlace)) = some y:=hv
  have hv3:=Option.some.inj hv2
  rw [← hv3]
 rw [ey] at hat
 rcases memE_or (entR rows) x with ⟨v,hv⟩ | hn
 · have q:=(hat (.held c)).symm.trans (mi.at_ x v hv _)
   injection q with q
   obtain ⟨r,hr,e⟩:=List.mem_map.1 hv
   injection e with e1 e2
   exact ⟨r,hr,e1,by rw [e2,q],rfl⟩
 · have q:=(hat .nil).symm.trans (mi.no x hn _)
   cases q
theorem row_src {w:World} {E:TypeId} {k n:Nat} {v:Value} {xs:List Value} (h:w.ownsRow 0 E k v n xs) :
 ∃ A c,v = .slice A n c ∧ (A = none → n = 0) ∧ ∀ a,A = some a → ∀ j u,xs[j]? = some u → w.cell? (a.add j) = some u:=by
 obtain ⟨A,c,rfl⟩:=ownsRow_shape h
 refine ⟨A,c,rfl,?_,?_⟩
 · intro e
   subst e
   rcases h.2 with ⟨q,q2⟩ | ⟨g,c,cur,q,r⟩
   · exact q2
   · cases q
 · intro a e j u hj
   subst e
   have hh:=h
   rcases h.2 with ⟨q,q2⟩ | ⟨g,c,cur,q,r⟩
   · cases q
   · cases q
     exact hh.cells (g:=g) rfl j u hj
theorem uputE_new {E:EntU} {k:ByteArray} {u:Value} (h:∀ v,(k,v) ∉ E):uputE E k u = (k,u) :: E:=by
 unfold uputE
 congr 1
 exact List.filter_eq_self.2 fun e he => decide_eq_true fun q => h e.2 (by rw [← q]; exact he)
theorem by_postT {f:FuncId} {args:Array Value} {w:World} {P:Ending → World → Prop} (h:∀ Q:Ending → World → Prop,(∀ e w',P e w' → Q e w') → Calls Tryz.prog f args w Q):Calls Tryz.prog f args w P:=h P fun _ _ h => h
theorem leaf_key5 {α β γ δ ε:Type} {C P:α → β → γ → δ → ε → Prop} {G:Prop} (k:∀ w b c d e,C w b c d e → P w b c d e) (g:Hid (∀ w b c d e,C w b c d e → P w b c d e) → G):G:=g (Lib.hid k)
theorem entR_new {T:List RowN} {rows:List RowN} {left:Lit → Bool} (p:(kpR T).Perm (kpR (metR rows left))) {k:ByteArray} (hl:left (keyU k) = true):∀ v,(k,v) ∉ entR T:=by
 intro v hv
 obtain ⟨r,hr,e⟩:=List.mem_map.1 hv
 injection e with e1 e2
 obtain ⟨q,hq,e3,e4⟩:=kpR_mem p hr
 unfold metR at hq
 have h2:=(List.mem_filter.1 hq).2
 rw [e3,e1,hl] at h2
 cases h2
set_option maxRecDepth 20000 in
theorem utwin_c {w:World} {g:GrpN} (hg:GrpAt w g) (gd:GoodG g) (hp:g.pr.length < 99999) (hl:g.rows.length < 99999) (hs:∀ r ∈ g.rows,r.key.size < 1000000 ∧ r.ps.length < 99999) :
 Calls Tryz.prog 146 #[ptrU g.b] w fun e w' => ∃ t:GrpN,e = .returned (ptrU t.b) ∧ Own w w' t.things ∧ LikeG t g:=by
 have c0:=blk_cell hg.blk 0 (v:=.string g.mask) rfl
 have c1:=blk_cell hg.blk 1 (v:=.map (some g.M)) rfl
 have c2:=blk_cell hg.blk 2 (v:=g.prv) rfl
 obtain ⟨P0,pc,epv,hp0,hp1⟩:=row_src hg.pr
 obtain ⟨n,hn⟩ : ∃ n,g.pr.length = n:=⟨_,rfl⟩
 rw [hn] at epv hp hp0
 rw [epv] at c2
 have zc:=fun (R:List Thing) (W:World) (H:Own w W R) => zcloneI_c H (A:=P0) (n:=n) (c:=pc) (xs:=intsU g.pr) (by unfold intsU; rw [List.length_map,hn]) (by omega) hp0 (fun a e j u hj => wkeep H.wider (hp1 a e j u hj)) (by
  intro u hu
  obtain ⟨x,_,rfl⟩:=List.mem_map.1 hu
  rfl)
 obtain ⟨D,⟨es,clock,hb,F,hsz,hD⟩,mi⟩:=hg.map
 have HG:=Lib.hid hg
 have HGD:=Lib.hid gd
 have HB:=Lib.hid hb
 have HF:=Lib.hid F
 have HSZ:=Lib.hid hsz
 have HD:=Lib.hid hD
 have HMI:=Lib.hid mi
 have HS:=Lib.hid hs
 have HLN:=Lib.hid (And.intro hl hn)
 obtain ⟨mask,hmask⟩ : ∃ mask,g.mask = mask:=⟨_,rfl⟩
 obtain ⟨b,hbb⟩ : ∃ b,g.b = b:=⟨_,rfl⟩
 obtain ⟨M,hM⟩ : ∃ M,g.M = M:=⟨_,rfl⟩
 rw [hmask] at c0
 rw [hbb] at c0 c1 c2
 rw [hM] at c1
 have HM:=Lib.hid (And.intro hM hmask)
 rw [hbb]
 have H0:=Own.nil (Wider.refl w)
 clear hg gd hp hl hs epv hp0 hp1 hn hb F hsz hD mi hmask hbb hM
 have hmm:=@run_makeMap Tryz.prog
 show Calls Tryz.prog 146 #[.pointer (some ⟨b,0,none⟩)] w _
 refine by_postT fun Q hQ => ?_
 have HQ:=Lib.hid hQ
 clear hQ
 go_enter Tryz.func146,Tryz.ntmps146
 go_upto_region 1 with (fail)
 have K0:Own w w.drew []:=Own.nil (Wider.refl w).drew
 have K1:=H0.map_made.quiet (Wider.refl _).drew
 have HZ:=Lib.hid zc
 have HC:=Lib.hid (And.intro c0 (And.intro c1 c2))
 have HK:=Lib.hid (And.intro K0 K1)
 have HMM:=Lib.hid hmm
 clear zc c0 c1 c2 H0 K0 K1 hmm
 refine' leaf_key5 (C:=fun W BI cI M2 B2 => Own w W [blkT B2 #[.string mask,.map (some M2),.slice BI n cI] 204,rowT 3 1 (.slice BI n cI) n (intsU g.pr),umapT M2 []]) ?key ?lea
 case lea =>
  intro KEY
  have zc:=HZ.out
  obtain ⟨c0,c1,c2⟩:=HC.out
  obtain ⟨K0,K1⟩:=HK.out
  have hmm:=HMM.out
  have x0:=wkeep ((Wider.refl w).alloc (.map #[] 0)) c0
  have x2:=wkeep ((Wider.refl w).alloc (.map #[] 0)) c2
  go_region_law (first
   | (go_simp; go_at_call 51; ((with_reducible refine (zc _ _ K0).mono ?_); rintro e w1 ⟨BI,cI,rfl,K2⟩; have hAB:=true; clear zc K1; have y0:=wkeep ((Wider.refl w1).alloc (.map #[] 0)) (wkeep K2.wider c0); have d0:=wkeep K2.wider c0; have d1:=wkeep K2.wider c1; have d2:=wkeep K2.wider c2))
   | (go_simp; go_at_call 51; ((with_reducible refine (zc _ _ K1).mono ?_); rintro e w1 ⟨BI,cI,rfl,K2⟩; clear zc; have d0:=wkeep K2.wider c0; have d1:=wkeep K2.wider c1; have d2:=wkeep K2.wider c2)))
  all_goals first
   | (have K3:=(K2.map_made).blk #[.string mask,.map (some w1.heap.size),.slice BI n cI] 204
      have ez:(w1.alloc (.map #[] 0)).heap.size = w1.heap.size + 1:=by simp
      rw [ez] at K3
      obtain ⟨W,hW⟩ : ∃ W,(w1.alloc (.map #[] 0)).alloc (.cells #[.string mask,.map (some w1.heap.size),.slice BI n cI] 204) = W:=⟨_,rfl⟩
      rw [hW] at K3 ⊢
      obtain ⟨B2,hB2⟩ : ∃ B,w1.heap.size + 1 = B:=⟨_,rfl⟩
      rw [hB2] at K3 ⊢
      obtain ⟨M2,hM2⟩ : ∃ B,w1.heap.size = B:=⟨_,rfl⟩
      rw [hM2] at K3 ⊢
      exact KEY.out W BI cI M2 B2 (K3.perm (List.Perm.cons _ (List.Perm.swap _ _ _))))
   | (have K3:=K2.blk #[.string mask,.map (some w.heap.size),.slice BI n cI] 204
      obtain ⟨W,hW⟩ : ∃ W,w1.alloc (.cells #[.string mask,.map (some w.heap.size),.slice BI n cI] 204) = W:=⟨_,rfl⟩
      rw [hW] at K3 ⊢
      obtain ⟨B2,hB2⟩ : ∃ B,w1.heap.size = B:=⟨_,rfl⟩
      rw [hB2] at K3 ⊢
      obtain ⟨M2,hM2⟩ : ∃ B,w.heap.size = B:=⟨_,rfl⟩
      rw [hM2] at K3 ⊢
      exact KEY.out W BI cI M2 B2 K3)
 case key =>
  intro W BI cI M2 B2 K3
  have hown:W.ownsMap Tryz.prog 9 heldU M (Maps.size D) D:=by
   rw [← HM.out.1]
   exact ⟨es,clock,(wheap K3.wider (Array.getElem?_eq_some_iff.1 HB.out).1).trans HB.out,HF.out,HSZ.out,HD.out⟩
  have e1:=wkeep K3.wider HC.out.2.1
  go_wp2_with (first | (at_range; refine wpList_range_own _ rfl (.tmp 21) 202 rfl 9 216 keyedU Tryz.underlying202 heldU M (Maps.size D) D rfl hown ?_; intro w0 hrg0 hg0 hs0) | go_in)
  go_frame
  have hbr:W.heap[M]? = some (.map es clock):=(wheap K3.wider (by rw [← HM.out.1]; exact (Array.getElem?_eq_some_iff.1 HB.out).1)).trans (by rw [← HM.out.1]; exact HB.out)
  have hb0:w0.heap[M]? = some (.map es clock):=(wheap (grownZ_wider hg0) (Array.getElem?_eq_some_iff.1 hbr).1).trans hbr
  have H2:Own w w0 [itT es clock M W.heap.size (Maps.has D) (Maps.size D),blkT B2 #[.string mask,.map (some M2),.slice BI n cI] 204,rowT 3 1 (.slice BI n cI) n (intsU g.pr),umapT M2 []]:=K3.make (grownZ_wider hg0) (ranges_it hrg0 hb0) (itT_stable _ _ _ _ _ _) fun j hj => by
   obtain rfl:j = W.heap.size:=by simpa using hj
   exact ⟨Nat.le_refl _,by omega⟩
  have H2:=H2.perm (List.Perm.cons _ (List.perm_append_comm (l₁:=[blkT B2 #[.string mask,.map (some M2),.slice BI n cI] 204,rowT 3 1 (.slice BI n cI) n (intsU g.pr)]) (l₂:=[umapT M2 []])))
  have M0:Hid (metR g.rows (Maps.has D) = []):=Lib.hid (met_none _ fun r hr => by
   rcases HMI.out.has r.key with ⟨h,_⟩ | ⟨_,h⟩
   · exact h
   · exact absurd (List.mem_map.2 ⟨r,hr,rfl⟩) (h r.val))
  have HBW:Hid (M < w.heap.size ∧ w.heap[M]? = some (.map es clock)):=Lib.hid ⟨by rw [← HM.out.1]; exact (Array.getElem?_eq_some_iff.1 HB.out).1,by rw [← HM.out.1]; exact HB.out⟩
  obtain ⟨r0,hr0⟩ : ∃ r0,W.heap.size = r0:=⟨_,rfl⟩
  rw [hr0] at H2
  clear hrg0 hg0 hs0 hown hbr hb0 K3 e1
  try rw [hr0]
  clear hr0
  go_loopw [4,5] (fun _ _ wi => ∃ (left:Lit → Bool) (cnt:Nat) (T:List RowN),Hid ((kpR T).Perm (kpR (metR g.rows left))) ∧ Own w wi (itT es clock M r0 left cnt :: umapT M2 (entR T) :: blkT B2 #[.string mask,.map (some M2),.slice BI n cI] 204 :: rowT 3 1 (.slice BI n cI) n (intsU g.pr) :: T.map rowThing)) (fun _ _ wi => wi.rangeLeft M r0)
  case atStart => exact ⟨_,_,[],Lib.hid (by rw [M0.out]),H2⟩
  case round =>
   clear H2
   obtain ⟨left,cnt,T,HT,H⟩:=hrel
   have hbi:wr.heap[M]? = some (.map es clock):=(wheap H.wider HBW.out.1).trans HBW.out.2
   have hrg:wr.ranges Tryz.prog 9 heldU M r0 (Maps.size D) D left cnt:=it_ranges H.head hbi HF.out HSZ.out HD.out
   have HH:=Lib.hid H
   clear H
   go_wp2_with (first
    | (at_next; refine wpList_next_ranges _ rfl (.tmp 22) rfl 9 keyedU heldU Value.string (fun v:Value => v) (fun key kl h => (keyOfZ_inv h).imp fun _ h => h.1) (fun v _ _ => ⟨v,rfl⟩) M r0 (Maps.size D) D left cnt rfl hrg ?_ ?_)
    | go_in)
   · intro hc0 hl0
     have HE:Hid ((kpR T).Perm (kpR g.rows)):=Lib.hid (by have:=HT.out; rw [met_all _ hl0] at this; exact this)
     have H5:=HH.out.drop
     clear hrg
     go_wp2
     refine HQ.out _ _ ⟨⟨B2,M2,mask,.slice BI n cI,g.pr,T⟩,rfl,?_,HM.out.2.symm,rfl,HE.out⟩
     show Own w _ (blkT B2 #[.string mask,.map (some M2),.slice BI n cI] 204 :: rowT 3 1 (.slice BI n cI) g.pr.length (intsU g.pr) :: umapT M2 (entR T) :: T.map rowThing)
     rw [HLN.out.2]
     exact H5.perm ((List.Perm.swap _ _ _).trans (List.Perm.cons _ (List.Perm.swap _ _ _)))
   · intro x cv kl y yl w1 cnt1 hkey hlk hv hat hrg1 hlt hg1 hs1 hen
     obtain ⟨r,hr,rfl,rfl,rfl⟩:=nextZ_row HMI.out hkey hv hat
     have hb1:w1.heap[M]? = some (.map es clock):=(hg1.block M (Array.getElem?_eq_some_iff.1 hbi).1 (fun e => hrg.ne (by injection e with e; exact e.symm))).trans hbi
     have H3:=HH.out.turn (s:=itT es clock M r0 (fun z => left z && !z.sameKey (keyU r.key)) cnt1) (grownBy_but hg1) (ranges_it hrg1 hb1) (itT_stable _ _ _ _ _ _) fun j hj => ⟨.inl hj,by
      obtain rfl:j = r0:=by simpa using hj
      rw [hs1]; exact hrg.lt⟩
     obtain ⟨A5,c5,hvs,hv0,hcs⟩:=row_src (HG.out.rows r hr)
     obtain ⟨m,hm⟩ : ∃ m,r.ps.length = m:=⟨_,rfl⟩
     rw [hm] at hvs hv0
     have hsr:=HS.out r hr
     rw [hm] at hsr
     have zp:=fun (R:List Thing) (W:World) (HW:Own w W R) => zcloneP_c HW (A:=A5) (n:=m) (c:=c5) (xs:=cellsP r.ps) (by rw [cellsP_length,hm]) (by omega) hv0 (fun a e j u hj => wkeep HW.wider (hcs a e j u hj)) (cellsP_one r.ps)
     have HTN:Hid (∀ v,(kpR (⟨r.key,v,r.ps⟩ :: T)).Perm (kpR (metR g.rows fun z => left z && !z.sameKey (keyU r.key)))):=Lib.hid fun v => by
      have a:=(met_next HGD.out.keys hr hlk).map fun r:RowN => (r.key,r.ps)
      rw [List.map_append] at a
      have b:=HT.out.cons (r.key,r.ps)
      refine b.trans (List.Perm.trans ?_ a.symm)
      exact (List.perm_append_comm (l₁:=[(r.key,r.ps)]))
     have HNW:=Lib.hid (entR_new HT.out hlk)
     have HTL:Hid ((entR T).length < 1000000):=Lib.hid (by
      have a:=HT.out.length_eq
      unfold kpR metR at a
      rw [List.length_map,List.length_map] at a
      have b:=List.length_filter_le (fun r:RowN => !left (keyU r.key)) g.rows
      have c:=HLN.out.1
      unfold entR
      rw [List.length_map]
      omega)
     have HKS:=Lib.hid hsr.1
     have HMM2:=Lib.hid hm
     have HOL:=Lib.hid (hrg.left_eq)
     have HLT:=Lib.hid hlt
     rw [hvs] at hen
     have HVS:=Lib.hid hvs
     rw [hvs]
     have d1:=blk_cell (H3.holds (blkT B2 #[.string mask,.map (some M2),.slice BI n cI] 204) (.tail _ (.tail _ (.head _)))) 1 (v:=.map (some M2)) rfl
     have H4:=H3.quiet (Wider.refl _).drew
     clear hb1 hcs hvs hrg hrg1 hbi hg1 hs1 hlk hv hat hkey H3 hlt hm hsr hv0
     go_upto_region 5 with (fail)
     go_region_law (first
      | (go_simp; go_at_call 160; ((with_reducible refine (zp _ _ H4).mono ?_); rintro e w5 ⟨B5,c6,rfl,H5⟩; have H6:=H5.third; have d5:=blk_cell (H6.holds (blkT B2 #[.string mask,.map (some M2),.slice BI n cI] 204) (.tail _ (.tail _ (.tail _ (.head _))))) 1 (v:=.map (some M2)) rfl; obtain ⟨w6,hrun,H7⟩:=store_u (t:=202) (e:=216) Tryz.underlying202 H6 HTL.out HKS.out (.slice B5 m c6); clear zp H4 H5)))
     all_goals
      have HF2:=HTN.out (.slice B5 m c6)
      have H8:Own w w6 (umapT M2 (entR (⟨r.key,.slice B5 m c6,r.ps⟩ :: T)) :: rowThing ⟨r.key,.slice B5 m c6,r.ps⟩ :: itT es clock M r0 (fun z => left z && !z.sameKey (keyU r.key)) cnt1 :: blkT B2 #[.string mask,.map (some M2),.slice BI n cI] 204 :: rowT 3 1 (.slice BI n cI) n (intsU g.pr) :: T.map rowThing):=by
       rw [uputE_new HNW.out,← HMM2.out] at H7
       rw [← HMM2.out]
       exact H7
      have H9:=(H8.perm ((List.perm_middle (l₁:=[_,_])).trans (List.Perm.cons _ (List.Perm.cons _ (List.perm_middle (l₁:=[_,_])).symm))))
      have hb5:w6.heap[M]? = some (.map es clock):=(wheap H8.wider HBW.out.1).trans HBW.out.2
      have hrg5:w6.ranges Tryz.prog 9 heldU M r0 (Maps.size D) D (fun z => left z && !z.sameKey (keyU r.key)) cnt1:=it_ranges H9.head hb5 HF.out HSZ.out HD.out
      have HNL:=Lib.hid hrg5.left_eq
      have HF3:=Lib.hid HF2
      clear hb5 hrg5 H7 H8 hen d1 HF2 hrun
      go_roundw
      case rel => exact ⟨_,_,_,_,_,_,_,_,_,_,_,_,_,_,⟨_,cnt1,⟨r.key,.slice B5 m c6,r.ps⟩ :: T,HF3,H9⟩,rfl⟩
      case measure => rw [HNL.out,HOL.out]; exact HLT.out
theorem leaf_key3 {α β γ:Type} {C P:α → β → γ → Prop} {G:Prop} (k:∀ w b c,C w b c → P w b c) (g:Hid (∀ w b c,C w b c → P w b c) → G):G:=g (Lib.hid k)
theorem zinfoTG:(Tryz.prog.info? 199).map (fun i => (i.zero,i.size,i.bytes)) = some (some (.pointer none),1,8):=by kernel_rfl
theorem ptr_one {b:Nat} : ∀ u ∈ [Value.pointer (some ⟨b,0,none⟩)],u.oneCell' = true:=by
 intro u hu
 obtain rfl:u = _:=by simpa using hu
 rfl
theorem gptr_cell {w:World} {B b:Nat} {ty:TypeId} (h:w.heap[B]? = some (.cells #[.pointer (some ⟨b,0,none⟩)] ty (0,0))) {a:Addr} (e:some (⟨B,0,none⟩ : Addr) = some a) {j:Nat} {u:Value} (hu:[Value.pointer (some ⟨b,0,none⟩)][j]? = some u):w.cell? (a.add j) = some u:=by
 injection e with e
 subst e
 rw [Addr.add_lit,Nat.zero_add]
 exact blk_cell h j (by simpa using hu)
theorem grpsT_snoc (ts:List GrpN) (t:GrpN):grpsT (ts ++ [t]) = grpsT ts ++ t.things:=by
 unfold grpsT
 rw [List.flatMap_append]
 simp
theorem entG_snoc (ts:List GrpN) (t:GrpN):entG (ts ++ [t]) = entG ts ++ [(t.mask,ptrU t.b)]:=by
 unfold entG
 rw [List.map_append]
 rfl
theorem copy_own {w W:World} {T i c3 lit tb M:Nat} {BB:Option Addr} {v:Value} {items last:Nat} {mask:ByteArray} {ts:List GrpN} {t:GrpN} {ty:TypeId} {C:Array Value}
 (H:Own w W (blkT T (#[.map (some M),v,.int .i64 (items:Int),.int .i64 (last:Int)].setIfInBounds 1 (.slice BB (i + 1) c3)) 134 :: rowT 199 1 (.slice BB (i + 1) c3) (i + 1) (ptrsU ts ++ [.pointer (some ⟨tb,0,none⟩)]) :: blkT lit C ty :: umapT M (uputE (entG ts) mask (.pointer (some ⟨tb,0,none⟩))) :: (t.things ++ grpsT ts)))
 (htb:t.b = tb) (hm:t.mask = mask) (hf:∀ v,(mask,v) ∉ entG ts) :
 Own w W (blkT T #[.map (some M),.slice BB (i + 1) c3,.int .i64 (items:Int),.int .i64 (last:Int)] 134 :: rowT 199 1 (.slice BB (i + 1) c3) (i + 1) (ptrsU (ts ++ [t])) :: umapT M (entG (ts ++ [t])) :: grpsT (ts ++ [t])):=by
 subst htb hm
 have H1:=H.third.drop.third
 rw [uputE_new hf] at H1
 have H2:=H1.map_perm (F:=entG (ts ++ [t])) (by rw [entG_snoc]; exact List.perm_append_comm (l₁:=[(t.mask,Value.pointer (some ⟨t.b,0,none⟩))]))
 have e:ptrsU (ts ++ [t]) = ptrsU ts ++ [.pointer (some ⟨t.b,0,none⟩)]:=by unfold ptrsU; rw [List.map_append]; rfl
 rw [e,grpsT_snoc]
 exact H2.perm (((List.Perm.swap _ _ _).trans (List.Perm.cons _ (List.Perm.swap _ _ _))).trans (List.Perm.cons _ (List.Perm.cons _ (List.Perm.cons _ List.perm_append_comm))))
theorem entG_free {ts gs:List GrpN} {g:GrpN} (k:LikeS ts gs) (h:∀ x ∈ gs,x.mask ≠ g.mask):∀ v,(g.mask,v) ∉ entG ts:=by
 intro v hv
 obtain ⟨t,ht,e⟩:=List.mem_map.1 hv
 injection e with e1 e2
 obtain ⟨f,hf,l⟩:=k.mem ht
 exact h f hf (l.mask.symm.trans e1)
theorem masks_take {gs:List GrpN} (h:MasksS gs) {i:Nat} {g:GrpN} (hg:gs[i]? = some g):∀ x ∈ gs.take i,x.mask ≠ g.mask:=by
 intro x hx
 obtain ⟨hi,rfl⟩:=List.getElem?_eq_some_iff.1 hg
 have e:gs = gs.take i ++ gs.drop i:=(List.take_append_drop i gs).symm
 have m:gs[i] ∈ gs.drop i:=by
  rw [List.drop_eq_getElem_cons hi]
  exact .head _
 unfold MasksS at h
 rw [e] at h
 exact (List.pairwise_append.1 h).2.2 x hx _ m
set_option maxRecDepth 20000 in
theorem tcopy_c {V w:World} {R:List Thing} {s:SetN} {L:List ItN} {N:Nat} (H:Own V w (s.things ++ R)) (h:SetL s L N) (hN:N < 99990) :
 Calls Tryz.prog 137 #[.pointer (some ⟨s.A,0,none⟩)] w fun e w' => ∃ t:SetN,e = .returned (.pointer (some ⟨t.A,0,none⟩)) ∧ Own V w' (t.things ++ (s.things ++ R)) ∧ SetL t L N:=by
 obtain ⟨hgs,hfew⟩:=setL_few h hN
 have hmasks:=h.good.masks
 have HL:=Lib.hid h
 have HG:Hid (∀ W,Wider w W → ∀ g ∈ s.gs,GrpAt W g):=Lib.hid fun W k g hg => (grps_at (fun t ht => H.holds t (List.mem_append_left _ (.tail _ (.tail _ (.tail _ ht))))) hg).on k
 obtain ⟨A,gm,ov,gs,items,last⟩:=s
 simp only at hgs hfew hmasks HG
 have c1:=blk_cell H.head 1 (v:=ov) rfl
 have c2:=blk_cell H.head 2 (v:=.int .i64 (items:Int)) rfl
 have c3:=blk_cell H.head 3 (v:=.int .i64 (last:Int)) rfl
 obtain ⟨n,hn⟩ : ∃ n,gs.length = n:=⟨_,rfl⟩
 have HO:w.ownsRow 0 199 1 ov n (ptrsU gs):=by rw [← hn]; exact H.drop.head
 obtain ⟨O0,cap,hov⟩:=ownsRow_shape HO
 have HS:Hid (∀ j,j < n → ∃ B,O0 = some ⟨B,0,none⟩ ∧ ∀ i u,(ptrsU gs)[i]? = some u → w.cell? ⟨B,i,none⟩ = some u):=Lib.hid fun j hj => by
  rw [hov] at HO
  obtain ⟨B,c2,e,hc⟩:=row_slice HO (by omega)
  injection e with e1
  exact ⟨B,e1,hc⟩
 rw [hov] at c1
 rw [hn] at hgs
 have HFEW:=Lib.hid hfew
 have HMK:=Lib.hid hmasks
 have HN:=Lib.hid hn
 obtain ⟨X,hX⟩ : ∃ X,SetN.things ⟨A,gm,ov,gs,items,last⟩ ++ R = X:=⟨_,rfl⟩
 rw [hX] at H ⊢
 have HH:=Lib.hid H
 have HC:=Lib.hid (And.intro c1 (And.intro c2 c3))
 clear H h hfew hmasks hn HO hov hX c1 c2 c3
 obtain ⟨i0,hi,hz0,hz1,hz2⟩:=info_parts zinfoTG
 show Calls Tryz.prog 137 #[.pointer (some ⟨A,0,none⟩)] w _
 refine by_postT fun Q hQ => ?_
 have HQ:=Lib.hid hQ
 clear hQ
 have x1:=HC.out.1
 go_enter Tryz.func137,Tryz.ntmps137
 go_upto_region 3 with (fail)
 clear x1
 refine' leaf_key3 (C:=fun W M T => Own w W [blkT T #[.map (some M),.slice none 0 0,.int .i64 (items:Int),.int .i64 (last:Int)] 134,rowT 199 1 (.slice none 0 0) 0 [],umapT M []]) ?key ?lea
 case lea =>
  intro KEY
  have hmm:=@run_makeMap Tryz.prog
  obtain ⟨c1,c2,c3⟩:=HC.out
  have H0:=(Own.nil (Wider.refl w)).map_made.blk #[.map (some w.heap.size),.slice none 0 0,.int .i64 (items:Int),.int .i64 (last:Int)] 134
  have ez:(w.alloc (.map #[] 0)).heap.size = w.heap.size + 1:=by simp
  rw [ez] at H0
  have H1:=(H0.row (Wider.refl _) (World.ownsRow_nil _ _ 199 1)).swap
  have x2:=wkeep ((Wider.refl w).alloc (.map #[] 0)) c2
  have x3:=wkeep ((Wider.refl w).alloc (.map #[] 0)) c3
  go_region_law (fail)
  all_goals
   obtain ⟨W,hW⟩ : ∃ W,(w.alloc (.map #[] 0)).alloc (.cells #[.map (some w.heap.size),.slice none 0 0,.int .i64 (items:Int),.int .i64 (last:Int)] 134) = W:=⟨_,rfl⟩
   rw [hW] at H1 ⊢
   obtain ⟨T,hT⟩ : ∃ B,w.heap.size + 1 = B:=⟨_,rfl⟩
   rw [hT] at H1 ⊢
   obtain ⟨M,hM⟩ : ∃ B,w.heap.size = B:=⟨_,rfl⟩
   rw [hM] at H1 ⊢
   exact KEY.out W M T H1
 case key =>
  intro W M T K
  have H2:=Lib.hid (K.quiet (Wider.refl _).drew)
  have d1:=wkeep K.wider HC.out.1
  have n0:(0:Int) ≤ (n:Int):=by omega
  have g9:Hid (n < 99990):=Lib.hid hgs
  clear K hgs
  go_upto_region 5 with (fail)
  have H2:=H2.out
  clear d1
  go_loopw [5,6,25] (fun a b c wr => ∃ (i:Nat) (ts:List GrpN) (v:Value),i ≤ n ∧ c = .int .i64 (i:Int) ∧ Hid (ts.length = i) ∧ Hid (LikeS ts (gs.take i)) ∧ Own w wr (blkT T #[.map (some M),v,.int .i64 (items:Int),.int .i64 (last:Int)] 134 :: rowT 199 1 v i (ptrsU ts) :: umapT M (entG ts) :: grpsT ts)) (fun _ _ c _ => n - (intOf c).toNat)
  case atStart => exact ⟨0,[],_,Nat.zero_le _,rfl,Lib.hid rfl,Lib.hid .nil,H2⟩
  case round =>
   clear H2
   obtain ⟨i,ts,v,hi0,rfl,hts,HTS,H⟩:=hrel
   by_cases c:i < n
   · have q1:(i:Int) < (n:Int):=by omega
     have q0:(0:Int) ≤ (i:Int):=by omega
     obtain ⟨B,rfl,hc⟩:=HS.out i c
     obtain ⟨g,hgi⟩ : ∃ g,gs[i]? = some g:=⟨gs[i]'(by rw [HN.out]; exact c),List.getElem?_eq_getElem _⟩
     have x0:=wkeep H.wider (hc i (ptrU g.b) (by unfold ptrsU; rw [List.getElem?_map,hgi]; rfl))
     unfold ptrU at x0
     have hgm:=List.mem_of_getElem? hgi
     have hga:=HG.out wr H.wider g hgm
     obtain ⟨k1,k2,k3,k4,k5⟩:=HFEW.out g hgm
     have zt:=utwin_c hga k1 k3 k4 k5
     have HGA:=Lib.hid hga
     have HMS:=Lib.hid k2
     have HTK:Hid (gs.take (i + 1) = gs.take i ++ [g]):=Lib.hid (by
      obtain ⟨hk,rfl⟩:=List.getElem?_eq_some_iff.1 hgi
      exact List.take_succ_eq_append_getElem hk)
     have HFR:=Lib.hid (entG_free HTS.out (masks_take HMK.out hgi))
     have HEL:Hid ((entG ts).length < 1000000):=Lib.hid (by unfold entG; rw [List.length_map,hts.out]; have:=g9.out; omega)
     obtain ⟨gb,hgb⟩ : ∃ gb,g.b = gb:=⟨_,rfl⟩
     obtain ⟨mask,hmk⟩ : ∃ mask,g.mask = mask:=⟨_,rfl⟩
     rw [hgb] at x0
     unfold ptrU at zt
     rw [hgb] at zt
     have e0:=blk_cell hga.blk 0 (v:=.string g.mask) rfl
     rw [hgb,hmk] at e0
     rw [hmk] at HMS HFR
     have HMKE:=Lib.hid hmk
     have HH1:=Lib.hid H
     clear H hc hgi hgm hga k1 k2 k3 k4 k5 hgb hmk
     go_upto_region 8 with (first
      | (go_at_call 146; ((with_reducible refine zt.mono ?_); rintro e w5 ⟨t,rfl,K5,HLK⟩; have HLK:=Lib.hid HLK; have e5:=wkeep K5.wider e0; have H5:=HH1.out.over K5; clear zt K5 e0 x0 HH1)))
     have H6:Own w w5 (umapT M (entG ts) :: blkT T #[.map (some M),v,.int .i64 (items:Int),.int .i64 (last:Int)] 134 :: rowT 199 1 v i (ptrsU ts) :: (t.things ++ grpsT ts)):=(H5.perm (perm_mid t.things [_,_,_] (grpsT ts))).third
     have d0:=blk_cell H6.second 0 (v:=.map (some M)) rfl
     have H7:=H6.quiet (Wider.refl _).drew
     obtain ⟨tb,htb⟩ : ∃ tb,t.b = tb:=⟨_,rfl⟩
     have HTB:=Lib.hid htb
     rw [htb]
     clear H5 H6 htb
     go_still_tail 9,(by kernel_rfl)
     change wpList _ _ _ _ _ w5.drew
     have S1:Hid (i + 1 ≤ maxLen):=Lib.hid (by have:=g9.out; unfold maxLen; omega)
     have S2:Hid ((i + 1) * 8 ≤ 140737488355328):=Lib.hid (by have:=g9.out; omega)
     go_wp2_with (first
      | (at_mapUpdate; refine wpList_store_u _ rfl (.tmp 34) (.tmp 38) (.tmp 39) 131 199 rfl Tryz.underlying131 H7 HEL.out HMS.out (.pointer (some ⟨tb,0,none⟩)) rfl rfl rfl ?_; intro w6 H8; have e1:=blk_cell H8.second 1 (v:=v) rfl; have H9:=((H8.third).blk #[.pointer (some ⟨tb,0,none⟩)] 199).swap; have CL:=Lib.hid (fun (a:Addr) (e:some (⟨w6.heap.size,0,none⟩ : Addr) = some a) (j:Nat) (u:Value) (hu:[Value.pointer (some ⟨tb,0,none⟩)][j]? = some u) => gptr_cell H9.second e hu); clear H7 d0 e5 H8)
      | (at_builtin; refine wpList_append_thing rfl (.tmp 44) (.tmp 46) 132 rfl 199 i0 (.pointer none) 1 8 Tryz.underlying132 hi hz0 hz1 hz2 rfl (by decide) v i (ptrsU ts) rfl H9 (some ⟨w6.heap.size,0,none⟩) 1 1 [.pointer (some ⟨tb,0,none⟩)] rfl rfl (fun e => by cases e) CL.out ptr_one S1.out S2.out rfl rfl ?_; intro B3 c3 w8 H10; have f1:=blk_cell H10.drop.drop.second 1 (v:=v) rfl; have f2:=blk_free H10.drop.drop.second 1; have H11:=H10.fourth.store 1 (.slice B3 (i + 1) c3); clear H9 CL e1 H10))
     have b9:=g9.out
     have b8:(i:Int) < 99990:=by omega
     have H12:=copy_own H11 HTB.out (HLK.out.mask.trans HMKE.out) HFR.out
     have ew:wrap64 ((i:Int) + 1) = ((i + 1:Nat):Int):=by unfold wrap64; omega
     rw [ew]
     have e9:(ts ++ [t]).length = i + 1:=by rw [List.length_append,hts.out]; rfl
     refine ⟨⟨i + 1,ts ++ [t],.slice B3 (i + 1) c3,by omega,rfl,Lib.hid e9,Lib.hid (by rw [HTK.out]; exact HTS.out.snoc HLK.out),H12⟩,?_⟩
     simp [intOf]; omega
   · obtain rfl:i = n:=by omega
     have q1:¬ (i:Int) < (i:Int):=by omega
     have H9:=Lib.hid (HH.out.over H)
     have HE:Hid (LikeS ts gs):=Lib.hid (by have:=HTS.out; rw [List.take_of_length_le (by rw [HN.out]; exact Nat.le_refl _)] at this; exact this)
     clear H
     go_wp2
     refine HQ.out _ _ ⟨⟨T,some M,v,ts,items,last⟩,rfl,?_,setL_twin HL.out HE.out rfl rfl (by simp)⟩
     have e:ts.length = i:=hts.out
     have q:=H9.out
     show Own V _ (blkT T #[.map (some M),v,.int .i64 (items:Int),.int .i64 (last:Int)] 134 :: rowT 199 1 v ts.length (ptrsU ts) :: umapT M (entG ts) :: (grpsT ts ++ X))
     rw [e]
     exact q
end Go.Proofs.YtbnpelciceblfaaGreat
