/- UMath UMem Quiet UTail -/
import Derived.Lib.Bytealg
import Derived.Lib.Small
import Derived.Test.YtbnpelciceblfaaGreatQ02
import Derived.StillTailTactics
namespace Go.Proofs.YtbnpelciceblfaaGreat
set_option linter.unusedVariables false
open Go.RowKit
set_option maxHeartbeats 64000000
structure ItN where
 key:ByteArray
 mask:ByteArray
 prio:Int
 v:Int
structure PlN where
 x:ItN
 pl:Nat
structure RowN where
 key:ByteArray
 val:Value
 ps:List PlN
structure GrpN where
 b:Nat
 M:Nat
 mask:ByteArray
 prv:Value
 pr:List Int
 rows:List RowN
theorem split_mono {α:Type} {R:α → α → Prop} (f:α → Prop) (hf:∀ a b,R a b → f b → f a):∀ l:List α,l.Pairwise R → ∃ A B,l = A ++ B ∧ (∀ x ∈ A,f x) ∧ (∀ x ∈ B,¬ f x)
 | [],_ => ⟨[],[],rfl,by simp,by simp⟩
 | a :: l,h => by
   obtain ⟨h1,h2⟩:=List.pairwise_cons.1 h
   by_cases c:f a
   · obtain ⟨A,B,e,hA,hB⟩:=split_mono f hf l h2
     refine ⟨a :: A,B,by rw [e]; rfl,fun x hx => ?_,hB⟩
     rcases List.mem_cons.1 hx with rfl | hx
     · exact c
     · exact hA x hx
   · refine ⟨[],a :: l,rfl,by simp,fun x hx => ?_⟩
     rcases List.mem_cons.1 hx with rfl | hx
     · exact c
     · exact fun q => c (hf _ _ (h1 x hx) q)
theorem at_split {α:Type} {f:α → Prop} {A B:List α} (hA:∀ x ∈ A,f x) (hB:∀ x ∈ B,¬ f x) {j:Nat} {x:α} (h:(A ++ B)[j]? = some x):f x ↔ j < A.length:=by
 by_cases c:j < A.length
 · rw [List.getElem?_append_left c] at h
   exact ⟨fun _ => c,fun _ => hA x (List.mem_of_getElem? h)⟩
 · rw [List.getElem?_append_right (by omega)] at h
   exact ⟨fun q => absurd q (hB x (List.mem_of_getElem? h)),fun q => absurd q c⟩
theorem pairwise_perm {α:Type} {R:α → α → Prop} (hs:∀ a b,R a b → R b a) {l m:List α} (p:l.Perm m) (h:l.Pairwise R):m.Pairwise R:=(p.pairwise_iff (fun {a b} => hs a b)).1 h
inductive RankN (ps:List PlN) (q:Int):List PlN → List PlN → Bool → Prop
 | had (A B:List PlN) (p:PlN) (e:ps = A ++ p :: B) (hp:p.x.prio = q) (hA:∀ x ∈ A,q < x.x.prio) (hB:∀ x ∈ B,x.x.prio < q):RankN ps q A B true
 | new (A B:List PlN) (e:ps = A ++ B) (hA:∀ x ∈ A,q < x.x.prio) (hB:∀ x ∈ B,x.x.prio < q):RankN ps q A B false
def Desc (ps:List PlN):Prop:=ps.Pairwise fun a b => b.x.prio < a.x.prio
theorem rank_ex {ps:List PlN} (h:Desc ps) (q:Int):∃ A B had,RankN ps q A B had:=by
 obtain ⟨A,B,e,hA,hB⟩:=split_mono (fun p:PlN => q < p.x.prio) (fun a b (r:b.x.prio < a.x.prio) hb => by omega) ps h
 cases B with
 | nil => exact ⟨A,[],false,.new A [] e hA (by simp)⟩
 | cons p B =>
   have hB1:=hB p (.head _)
   rw [e] at h
   have k:=(List.pairwise_append.1 h).2.1
   have k1:=(List.pairwise_cons.1 k).1
   by_cases c:p.x.prio = q
   · exact ⟨A,B,true,.had A B p e c hA fun x hx => by have:=k1 x hx; omega⟩
   · refine ⟨A,p :: B,false,.new A (p :: B) e hA fun x hx => ?_⟩
     rcases List.mem_cons.1 hx with rfl | hx
     · omega
     · have:=k1 x hx; omega
theorem RankN.desc {ps A B:List PlN} {q:Int} {had:Bool} (h:RankN ps q A B had) (d:Desc ps) (p:PlN) (hp:p.x.prio = q):Desc (A ++ p :: B) ∧ Desc (A ++ B):=by
 have key:∀ A B:List PlN,Desc (A ++ B) → (∀ x ∈ A,q < x.x.prio) → (∀ x ∈ B,x.x.prio < q) → Desc (A ++ p :: B):=fun A B d hA hB => by
  obtain ⟨d1,d2,d3⟩:=List.pairwise_append.1 d
  refine List.pairwise_append.2 ⟨d1,List.pairwise_cons.2 ⟨fun x hx => by have:=hB x hx; omega,d2⟩,fun a ha b hb => ?_⟩
  rcases List.mem_cons.1 hb with rfl | hb
  · have:=hA a ha; omega
  · exact d3 a ha b hb
 cases h with
 | had p0 e hp0 hA hB =>
   subst e
   have d2:Desc (A ++ B):=by
    refine List.Pairwise.sublist (List.Sublist.append_left (List.sublist_cons_self _ _) _) d
   exact ⟨key A B d2 hA hB,d2⟩
 | new e hA hB =>
   subst e
   exact ⟨key A B d hA hB,d⟩
theorem RankN.rest {ps A B:List PlN} {q:Int} {had:Bool} (h:RankN ps q A B had):A ++ B = ps.filter fun p => decide (p.x.prio ≠ q):=by
 have key:∀ l:List PlN,(∀ x ∈ l,x.x.prio ≠ q) → l.filter (fun p => decide (p.x.prio ≠ q)) = l:=fun l hl => List.filter_eq_self.2 fun x hx => decide_eq_true (hl x hx)
 cases h with
 | had p0 e hp0 hA hB =>
   subst e
   rw [List.filter_append,List.filter_cons,if_neg (by simp [hp0]),key A fun x hx => by have:=hA x hx; omega,key B fun x hx => by have:=hB x hx; omega]
 | new e hA hB =>
   subst e
   rw [List.filter_append,key A fun x hx => by have:=hA x hx; omega,key B fun x hx => by have:=hB x hx; omega]
theorem RankN.perm {ps A B:List PlN} {q:Int} {had:Bool} (h:RankN ps q A B had):(had = true ∧ ∃ p,p.x.prio = q ∧ ps = A ++ p :: B) ∨ (had = false ∧ ps = A ++ B ∧ ∀ x ∈ ps,x.x.prio ≠ q):=by
 cases h with
 | had p0 e hp0 hA hB => exact .inl ⟨rfl,p0,hp0,e⟩
 | new e hA hB =>
   refine .inr ⟨rfl,e,fun x hx => ?_⟩
   rw [e] at hx
   rcases List.mem_append.1 hx with hx | hx
   · have:=hA x hx; omega
   · have:=hB x hx; omega
def getR (l:List RowN) (k:ByteArray):List PlN:=match l.find? (fun r => decide (r.key = k)) with | some r => r.ps | none => []
def dropR (l:List RowN) (k:ByteArray):List RowN:=l.filter fun r => decide (r.key ≠ k)
def setR (l:List RowN) (k:ByteArray) (v:Value) (ps:List PlN):List RowN:=⟨k,v,ps⟩ :: dropR l k
def flatR (l:List RowN):List PlN:=l.flatMap (·.ps)
def KeysR (l:List RowN):Prop:=l.Pairwise fun a b => a.key ≠ b.key
theorem getR_none {l:List RowN} {k:ByteArray} (h:∀ r ∈ l,r.key ≠ k):getR l k = [] ∧ dropR l k = l:=by
 refine ⟨?_,List.filter_eq_self.2 fun r hr => decide_eq_true (h r hr)⟩
 unfold getR
 rw [List.find?_eq_none.2 fun r hr => by simpa using h r hr]
theorem getR_some {l:List RowN} (hk:KeysR l) {r:RowN} (hr:r ∈ l):getR l r.key = r.ps ∧ l.Perm (r :: dropR l r.key):=by
 induction l with
 | nil => cases hr
 | cons a l ih =>
   obtain ⟨h1,h2⟩:=List.pairwise_cons.1 hk
   rcases List.mem_cons.1 hr with rfl | hr
   · obtain ⟨g1,g2⟩:=getR_none (l:=l) (k:=r.key) fun x hx => (h1 x hx).symm
     refine ⟨by unfold getR; simp,?_⟩
     unfold dropR at g2 ⊢
     rw [List.filter_cons,if_neg (by simp),g2]
   · have ne:=h1 r hr
     obtain ⟨i1,i2⟩:=ih h2 hr
     refine ⟨?_,?_⟩
     · rw [← i1]; unfold getR; rw [List.find?_cons]; simp [ne]
     · unfold dropR at i2 ⊢
       rw [List.filter_cons,if_pos (by simp [ne])]
       exact (i2.cons a).trans (List.Perm.swap r a _)
theorem row_or (l:List RowN) (k:ByteArray):(∃ r ∈ l,r.key = k) ∨ ∀ r ∈ l,r.key ≠ k:=by
 by_cases c:∃ r ∈ l,r.key = k
 · exact .inl c
 · exact .inr fun r hr e => c ⟨r,hr,e⟩
theorem flatR_cons (r:RowN) (l:List RowN):flatR (r :: l) = r.ps ++ flatR l:=rfl
theorem flatR_perm {l m:List RowN} (p:l.Perm m):(flatR l).Perm (flatR m):=p.flatMap_right _
theorem flatR_split {l:List RowN} (hk:KeysR l) (k:ByteArray):(flatR l).Perm (getR l k ++ flatR (dropR l k)):=by
 rcases row_or l k with ⟨r,hr,rfl⟩ | h
 · obtain ⟨g1,g2⟩:=getR_some hk hr
   rw [g1]
   exact flatR_perm g2
 · obtain ⟨g1,g2⟩:=getR_none h
   rw [g1,g2]; exact List.Perm.refl _
theorem dropR_keys {l:List RowN} (hk:KeysR l) (k:ByteArray):KeysR (dropR l k) ∧ ∀ r ∈ dropR l k,r ∈ l ∧ r.key ≠ k :=
 ⟨hk.filter _,fun r hr => by obtain ⟨h1,h2⟩:=List.mem_filter.1 hr; exact ⟨h1,of_decide_eq_true h2⟩⟩
theorem setR_keys {l:List RowN} (hk:KeysR l) (k:ByteArray) (v:Value) (ps:List PlN):KeysR (setR l k v ps) :=
 List.pairwise_cons.2 ⟨fun r hr => ((dropR_keys hk k).2 r hr).2.symm,(dropR_keys hk k).1⟩
def GrpN.flat (g:GrpN):List PlN:=flatR g.rows
def GrpN.top (g:GrpN):Int:=g.pr.getLast?.getD 0
structure GoodG (g:GrpN):Prop where
 keys:KeysR g.rows
 ne:∀ r ∈ g.rows,r.ps ≠ []
 of:∀ r ∈ g.rows,∀ p ∈ r.ps,p.x.key = r.key ∧ p.x.mask = g.mask
 desc:∀ r ∈ g.rows,Desc r.ps
 asc:g.pr.Pairwise (· ≤ ·)
 prs:g.pr.Perm (g.flat.map (·.x.prio))
theorem GoodG.desc_get {g:GrpN} (h:GoodG g) (k:ByteArray):Desc (getR g.rows k):=by
 rcases row_or g.rows k with ⟨r,hr,rfl⟩ | q
 · rw [(getR_some h.keys hr).1]; exact h.desc r hr
 · rw [(getR_none q).1]; exact .nil
theorem GoodG.of_get {g:GrpN} (h:GoodG g) {k:ByteArray} {p:PlN} (hp:p ∈ getR g.rows k):p.x.key = k ∧ p.x.mask = g.mask:=by
 rcases row_or g.rows k with ⟨r,hr,rfl⟩ | q
 · rw [(getR_some h.keys hr).1] at hp; exact h.of r hr p hp
 · rw [(getR_none q).1] at hp; cases hp
theorem GoodG.mem_get {g:GrpN} (h:GoodG g) {p:PlN} (hp:p ∈ g.flat):p ∈ getR g.rows p.x.key ∧ p.x.mask = g.mask:=by
 obtain ⟨r,hr,hpr⟩:=List.mem_flatMap.1 hp
 obtain ⟨k1,k2⟩:=h.of r hr p hpr
 rw [k1,(getR_some h.keys hr).1]
 exact ⟨hpr,k2⟩
theorem mem_of_get {g:GrpN} (h:GoodG g) {k:ByteArray} {p:PlN} (hp:p ∈ getR g.rows k):p ∈ g.flat:=(flatR_split h.keys k).mem_iff.2 (List.mem_append_left _ hp)
def butN (l:List PlN) (k:ByteArray) (q:Int):List PlN:=l.filter fun p => decide (¬ (p.x.key = k ∧ p.x.prio = q))
theorem GoodG.but {g:GrpN} (h:GoodG g) (k:ByteArray) (q:Int):(butN g.flat k q).Perm (((getR g.rows k).filter fun p => decide (p.x.prio ≠ q)) ++ flatR (dropR g.rows k)):=by
 have p:=(flatR_split h.keys k).filter (fun p => decide (¬ (p.x.key = k ∧ p.x.prio = q)))
 refine p.trans ?_
 rw [List.filter_append]
 have e1:(getR g.rows k).filter (fun p => decide (¬ (p.x.key = k ∧ p.x.prio = q))) = (getR g.rows k).filter fun p => decide (p.x.prio ≠ q):=by
  refine List.filter_congr fun x hx => ?_
  simp [(h.of_get hx).1]
 have e2:(flatR (dropR g.rows k)).filter (fun p => decide (¬ (p.x.key = k ∧ p.x.prio = q))) = flatR (dropR g.rows k):=by
  refine List.filter_eq_self.2 fun x hx => ?_
  obtain ⟨r,hr,hxr⟩:=List.mem_flatMap.1 hx
  obtain ⟨r1,r2⟩:=(dropR_keys h.keys k).2 r hr
  have:=(h.of r r1 x hxr).1
  exact decide_eq_true fun e => r2 (this.symm.trans e.1)
 rw [e1,e2]
theorem lower_ex {l:List Int} (h:l.Pairwise (· ≤ ·)) (q:Int):∃ X Y,l = X ++ Y ∧ (∀ x ∈ X,x < q) ∧ (∀ x ∈ Y,q ≤ x):=by
 obtain ⟨A,B,e,hA,hB⟩:=split_mono (fun x:Int => x < q) (fun a b (r:a ≤ b) hb => by omega) l h
 exact ⟨A,B,e,hA,fun x hx => by have:=hB x hx; omega⟩
theorem lower_count {X Y:List Int} {q:Int} (hX:∀ x ∈ X,x < q) (hY:∀ x ∈ Y,q ≤ x):(X ++ Y).countP (· < q) = X.length:=by
 rw [List.countP_append,List.countP_eq_length.2 (fun x hx => decide_eq_true (hX x hx)),List.countP_eq_zero.2 (fun x hx => by have:=hY x hx; simp; omega)]
 rfl
theorem GoodG.again {g:GrpN} (h:GoodG g) {p p0:PlN} {A B:List PlN} {k:ByteArray} (hk:p.x.key = k) (hm:p.x.mask = g.mask) (e:getR g.rows k = A ++ p0 :: B) (hp0:p0.x.prio = p.x.prio) (v:Value) (r:RankN (getR g.rows k) p.x.prio A B true) :
 GoodG { g with rows:=setR g.rows k v (A ++ p :: B) } ∧ ({ g with rows:=setR g.rows k v (A ++ p :: B) } : GrpN).flat.Perm (p :: butN g.flat k p.x.prio) ∧ g.flat.Perm (p0 :: butN g.flat k p.x.prio):=by
 have b1:=h.but k p.x.prio
 rw [← r.rest] at b1
 have f1:g.flat.Perm (p0 :: butN g.flat k p.x.prio):=by
  refine (flatR_split h.keys k).trans ?_
  rw [e]
  refine List.Perm.trans ?_ (b1.symm.cons p0)
  rw [List.append_assoc,List.append_assoc]
  exact List.perm_middle
 have f2:(flatR (setR g.rows k v (A ++ p :: B))).Perm (p :: butN g.flat k p.x.prio):=by
  unfold setR
  rw [flatR_cons]
  refine List.Perm.trans ?_ (b1.symm.cons p)
  rw [List.append_assoc,List.append_assoc]
  exact List.perm_middle
 have d:=(r.desc (h.desc_get k) p rfl).1
 refine ⟨⟨setR_keys h.keys _ _ _,fun x hx => ?_,fun x hx y hy => ?_,fun x hx => ?_,h.asc,?_⟩,f2,f1⟩
 · rcases List.mem_cons.1 hx with rfl | hx
   · simp
   · exact h.ne x ((dropR_keys h.keys k).2 x hx).1
 · rcases List.mem_cons.1 hx with rfl | hx
   · rcases List.mem_append.1 hy with hy | hy
     · exact h.of_get (by rw [e]; exact List.mem_append_left _ hy)
     · rcases List.mem_cons.1 hy with rfl | hy
       · exact ⟨hk,hm⟩
       · exact h.of_get (by rw [e]; exact List.mem_append_right _ (.tail _ hy))
   · exact h.of x ((dropR_keys h.keys k).2 x hx).1 y hy
 · rcases List.mem_cons.1 hx with rfl | hx
   · exact d
   · exact h.desc x ((dropR_keys h.keys k).2 x hx).1
 · refine h.prs.trans ((f1.map _).trans (List.Perm.trans ?_ (f2.map (fun y:PlN => y.x.prio)).symm))
   rw [List.map_cons,List.map_cons,hp0]
theorem GoodG.more {g:GrpN} (h:GoodG g) {p:PlN} {A B:List PlN} {X Y:List Int} {k:ByteArray} (hk:p.x.key = k) (hm:p.x.mask = g.mask) (v u:Value) (r:RankN (getR g.rows k) p.x.prio A B false) (hXY:g.pr = X ++ Y) (hX:∀ x ∈ X,x < p.x.prio) (hY:∀ x ∈ Y,p.x.prio ≤ x) :
 GoodG { g with rows:=setR g.rows k v (A ++ p :: B),prv:=u,pr:=X ++ p.x.prio :: Y } ∧ ({ g with rows:=setR g.rows k v (A ++ p :: B),prv:=u,pr:=X ++ p.x.prio :: Y } : GrpN).flat.Perm (p :: g.flat) ∧ butN g.flat k p.x.prio = g.flat:=by
 obtain ⟨e,hno⟩ : getR g.rows k = A ++ B ∧ ∀ x ∈ getR g.rows k,x.x.prio ≠ p.x.prio:=by
  rcases r.perm with ⟨q,_⟩ | ⟨_,e,hn⟩
  · cases q
  · exact ⟨e,hn⟩
 have bb:butN g.flat k p.x.prio = g.flat:=List.filter_eq_self.2 fun x hx => decide_eq_true fun c => by
  have:=(h.mem_get hx).1
  rw [c.1] at this
  exact hno x this c.2
 have f2:(flatR (setR g.rows k v (A ++ p :: B))).Perm (p :: g.flat):=by
  unfold setR
  rw [flatR_cons]
  refine List.Perm.trans ?_ ((flatR_split h.keys k).symm.cons p)
  rw [e,List.append_assoc,List.append_assoc]
  exact List.perm_middle
 have d:=(r.desc (h.desc_get k) p rfl).1
 refine ⟨⟨setR_keys h.keys _ _ _,fun x hx => ?_,fun x hx y hy => ?_,fun x hx => ?_,?_,?_⟩,f2,bb⟩
 · rcases List.mem_cons.1 hx with rfl | hx
   · simp
   · exact h.ne x ((dropR_keys h.keys k).2 x hx).1
 · rcases List.mem_cons.1 hx with rfl | hx
   · rcases List.mem_append.1 hy with hy | hy
     · exact h.of_get (by rw [e]; exact List.mem_append_left _ hy)
     · rcases List.mem_cons.1 hy with rfl | hy
       · exact ⟨hk,hm⟩
       · exact h.of_get (by rw [e]; exact List.mem_append_right _ hy)
   · exact h.of x ((dropR_keys h.keys k).2 x hx).1 y hy
 · rcases List.mem_cons.1 hx with rfl | hx
   · exact d
   · exact h.desc x ((dropR_keys h.keys k).2 x hx).1
 · have a:=h.asc
   rw [hXY] at a
   obtain ⟨a1,a2,a3⟩:=List.pairwise_append.1 a
   refine List.pairwise_append.2 ⟨a1,List.pairwise_cons.2 ⟨hY,a2⟩,fun x hx y hy => ?_⟩
   rcases List.mem_cons.1 hy with rfl | hy
   · have:=hX x hx; omega
   · exact a3 x hx y hy
 · refine List.Perm.trans ?_ (f2.map (fun y:PlN => y.x.prio)).symm
   rw [List.map_cons]
   refine List.perm_middle.trans (List.Perm.cons _ ?_)
   rw [← hXY]
   exact h.prs
def delRows (l:List RowN) (k:ByteArray) (v:Value) (ps:List PlN):List RowN:=if ps = [] then dropR l k else setR l k v ps
theorem GoodG.less {g:GrpN} (h:GoodG g) {A B:List PlN} {X Y:List Int} {k:ByteArray} {q:Int} (v u:Value) (r:RankN (getR g.rows k) q A B true) (hXY:g.pr = X ++ q :: Y) :
 GoodG { g with rows:=delRows g.rows k v (A ++ B),prv:=u,pr:=X ++ Y } ∧ ({ g with rows:=delRows g.rows k v (A ++ B),prv:=u,pr:=X ++ Y } : GrpN).flat.Perm (butN g.flat k q) ∧ ∃ p0,p0.x.prio = q ∧ p0.x.key = k ∧ g.flat.Perm (p0 :: butN g.flat k q):=by
 obtain ⟨p0,hp0,e⟩ : ∃ p:PlN,p.x.prio = q ∧ getR g.rows k = A ++ p :: B:=by
  rcases r.perm with ⟨_,p,hp,e⟩ | ⟨q,_⟩
  · exact ⟨p,hp,e⟩
  · cases q
 have b1:=h.but k q
 rw [← r.rest] at b1
 have f1:g.flat.Perm (p0 :: butN g.flat k q):=by
  refine (flatR_split h.keys k).trans ?_
  rw [e]
  refine List.Perm.trans ?_ (b1.symm.cons p0)
  rw [List.append_assoc,List.append_assoc]
  exact List.perm_middle
 have f2:(flatR (delRows g.rows k v (A ++ B))).Perm (butN g.flat k q):=by
  refine List.Perm.trans ?_ b1.symm
  unfold delRows
  split
  · rename_i c; rw [c]; exact List.Perm.refl _
  · unfold setR; rw [flatR_cons]
 have sub:∀ x ∈ delRows g.rows k v (A ++ B),x = ⟨k,v,A ++ B⟩ ∧ A ++ B ≠ [] ∨ x ∈ dropR g.rows k:=fun x hx => by
  unfold delRows at hx
  split at hx
  · exact .inr hx
  · rename_i c
    rcases List.mem_cons.1 hx with rfl | hx
    · exact .inl ⟨rfl,c⟩
    · exact .inr hx
 refine ⟨⟨?_,fun x hx => ?_,fun x hx y hy => ?_,fun x hx => ?_,?_,?_⟩,f2,p0,hp0,(h.of_get (by rw [e]; exact List.mem_append_right _ (.head _))).1,f1⟩
 · show KeysR (delRows g.rows k v (A ++ B))
   unfold delRows
   split
   · exact (dropR_keys h.keys k).1
   · exact setR_keys h.keys _ _ _
 · rcases sub x hx with ⟨rfl,c⟩ | hx
   · exact c
   · exact h.ne x ((dropR_keys h.keys k).2 x hx).1
 · rcases sub x hx with ⟨rfl,c⟩ | hx
   · refine h.of_get ?_
     rw [e]
     rcases List.mem_append.1 hy with hy | hy
     · exact List.mem_append_left _ hy
     · exact List.mem_append_right _ (.tail _ hy)
   · exact h.of x ((dropR_keys h.keys k).2 x hx).1 y hy
 · rcases sub x hx with ⟨rfl,c⟩ | hx
   · exact (r.desc (h.desc_get k) p0 hp0).2
   · exact h.desc x ((dropR_keys h.keys k).2 x hx).1
 · have a:=h.asc
   rw [hXY] at a
   exact List.Pairwise.sublist (List.Sublist.append_left (List.sublist_cons_self _ _) _) a
 · refine List.Perm.trans ?_ (f2.map (fun y:PlN => y.x.prio)).symm
   have p:=h.prs.trans (f1.map (fun y:PlN => y.x.prio))
   rw [hXY,List.map_cons,hp0] at p
   exact List.Perm.cons_inv (List.perm_middle.symm.trans p)
end Go.Proofs.YtbnpelciceblfaaGreat
namespace Go.Proofs.YtbnpelciceblfaaGreat
set_option linter.unusedVariables false
open Go.ChangeShapes Go.WideShapes Go.ChangeAt Go.RowKit Go.Joins Go.Maps Go.ChangeMaps
set_option maxHeartbeats 64000000
def heldU (v:Value):Option (DataW Value × List MemPlace):=some (.held v,[])
def keyU (k:ByteArray):Lit:=.string k.data.toList
theorem keyU_inj {a b:ByteArray} (h:keyU a = keyU b):a = b:=by
 unfold keyU at h
 injection h with h
 exact ba_ext h
abbrev EntU:=List (ByteArray × Value)
structure MapIs (D:DataW Value) (E:EntU):Prop where
 at_:∀ k v,(k,v) ∈ E → ∀ z,D.atKey (keyU k) z = .held v
 no:∀ k,(∀ v,(k,v) ∉ E) → ∀ z,D.atKey (keyU k) z = z
 size:Maps.size D = E.length
 keys:E.Pairwise fun a b => a.1 ≠ b.1
def dropE (E:EntU) (k:ByteArray):EntU:=E.filter fun e => decide (e.1 ≠ k)
def uputE (E:EntU) (k:ByteArray) (v:Value):EntU:=(k,v) :: dropE E k
theorem mem_dropE {E:EntU} {k a:ByteArray} {v:Value} : (a,v) ∈ dropE E k ↔ (a,v) ∈ E ∧ a ≠ k:=by
 unfold dropE
 rw [List.mem_filter]
 simp
theorem dropE_length {E:EntU} (h:E.Pairwise fun a b => a.1 ≠ b.1) (k:ByteArray):(∃ v,(k,v) ∈ E) ∧ (dropE E k).length + 1 = E.length ∨ (∀ v,(k,v) ∉ E) ∧ (dropE E k).length = E.length:=by
 induction E with
 | nil => exact .inr ⟨by simp,rfl⟩
 | cons e E ih =>
   obtain ⟨h1,h2⟩:=List.pairwise_cons.1 h
   by_cases c:e.1 = k
   · refine .inl ⟨⟨e.2,by rw [← c]; exact .head _⟩,?_⟩
     have a:dropE E k = E:=List.filter_eq_self.2 fun x hx => decide_eq_true (fun q => h1 x hx (c.trans q.symm))
     have b:dropE (e :: E) k = dropE E k:=by unfold dropE; rw [List.filter_cons,if_neg (by simp [c])]
     rw [b,a]; rfl
   · have b:dropE (e :: E) k = e :: dropE E k:=by unfold dropE; rw [List.filter_cons,if_pos (by simp [c])]
     rw [b]
     rcases ih h2 with ⟨⟨v,hv⟩,q⟩ | ⟨hn,q⟩
     · exact .inl ⟨⟨v,.tail _ hv⟩,by simp only [List.length_cons]; omega⟩
     · refine .inr ⟨fun v hv => ?_,by simp only [List.length_cons]; omega⟩
       rcases List.mem_cons.1 hv with q | hv
       · exact c (by rw [← q])
       · exact hn v hv
theorem memE_or (E:EntU) (k:ByteArray):(∃ v,(k,v) ∈ E) ∨ ∀ v,(k,v) ∉ E:=by
 by_cases c:∃ v,(k,v) ∈ E
 · exact .inl c
 · exact .inr fun v hv => c ⟨v,hv⟩
theorem MapIs.has {D:DataW Value} {E:EntU} (h:MapIs D E) (k:ByteArray):(Maps.has D (keyU k) = true ∧ ∃ v,(k,v) ∈ E) ∨ (Maps.has D (keyU k) = false ∧ ∀ v,(k,v) ∉ E):=by
 rcases memE_or E k with ⟨v,hv⟩ | hn
 · exact .inl ⟨has_true_of_atKey (h.at_ k v hv),v,hv⟩
 · exact .inr ⟨has_false_of_atKey (h.no k hn),hn⟩
theorem mapIs_nil:MapIs (.map [] : DataW Value) []:=⟨fun k v h => (by cases h),fun k _ z => rfl,rfl,List.Pairwise.nil⟩
theorem MapIs.put {D:DataW Value} {E:EntU} (h:MapIs D E) (t:Tidy D) {k:ByteArray} (hk:WideAt.IsKeyLit (keyU k)) (v:Value):MapIs (D.put (keyU k) (.held v)) (uputE E k v) where
 at_ a u hm z:=by
  rcases List.mem_cons.1 hm with q | hm
  · obtain ⟨rfl,rfl⟩ : a = k ∧ u = v:=by simpa using q
    exact atKey_put_same t.isMap hk _ _
  · obtain ⟨m,ne⟩:=mem_dropE.1 hm
    rw [atKey_put_other (fun q => ne (keyU_inj q))]
    exact h.at_ a u m z
 no a hn z:=by
  have ne:a ≠ k:=fun q => hn v (by rw [q]; exact .head _)
  rw [atKey_put_other (fun q => ne (keyU_inj q))]
  exact h.no a (fun u hu => hn u (.tail _ (mem_dropE.2 ⟨hu,ne⟩))) z
 size:=by
  rw [size_put t]
  show _ = (dropE E k).length + 1
  rcases h.has k with ⟨q,v0,hv⟩ | ⟨q,hn⟩
  · rw [q,if_pos rfl,h.size]
    rcases dropE_length h.keys k with ⟨_,l⟩ | ⟨hn,_⟩
    · exact l.symm
    · exact absurd hv (hn v0)
  · rw [q,if_neg (by decide),h.size]
    rcases dropE_length h.keys k with ⟨⟨v0,hv⟩,l⟩ | ⟨_,l⟩
    · exact absurd hv (hn v0)
    · rw [l]
 keys:=List.pairwise_cons.2 ⟨fun e he => by
  obtain ⟨_,ne⟩:=mem_dropE.1 (show (e.1,e.2) ∈ dropE E k from he)
  exact ne.symm,h.keys.filter _⟩
theorem MapIs.del {D:DataW Value} {E:EntU} (h:MapIs D E) (t:Tidy D) (k:ByteArray):MapIs (D.del (keyU k)) (dropE E k) where
 at_ a u hm z:=by
  obtain ⟨m,ne⟩:=mem_dropE.1 hm
  rw [atKey_del_other (fun q => ne (keyU_inj q))]
  exact h.at_ a u m z
 no a hn z:=by
  by_cases ne:a = k
  · subst ne; exact atKey_del_same _
  · rw [atKey_del_other (fun q => ne (keyU_inj q))]
    exact h.no a (fun u hu => hn u (mem_dropE.2 ⟨hu,ne⟩)) z
 size:=by
  have s:=size_del (k:=keyU k) t
  rcases h.has k with ⟨q,v0,hv⟩ | ⟨q,hn⟩
  · rw [q,if_pos rfl,h.size] at s
    rcases dropE_length h.keys k with ⟨_,l⟩ | ⟨hn,_⟩
    · omega
    · exact absurd hv (hn v0)
  · rw [q,if_neg (by decide),h.size] at s
    rcases dropE_length h.keys k with ⟨⟨v0,hv⟩,l⟩ | ⟨_,l⟩
    · exact absurd hv (hn v0)
    · omega
 keys:=h.keys.filter _
theorem MapIs.perm {D:DataW Value} {E F:EntU} (h:MapIs D E) (p:E.Perm F):MapIs D F where
 at_ k v m:=h.at_ k v (p.mem_iff.2 m)
 no k hn:=h.no k fun v m => hn v (p.mem_iff.1 m)
 size:=h.size.trans p.length_eq
 keys:=pairwise_perm (fun _ _ => Ne.symm) p h.keys
def UMapAt (w:World) (M:Nat) (E:EntU):Prop:=∃ D:DataW Value,w.ownsMap Tryz.prog 9 heldU M (Maps.size D) D ∧ MapIs D E
abbrev umapT (M:Nat) (E:EntU):Thing:=([M],fun w => UMapAt w M E)
theorem umapT_stable (M:Nat) (E:EntU):(umapT M E).Stable:=by
 rintro W w ⟨D,⟨es,clock,hb,r⟩,h⟩ k
 exact ⟨D,⟨es,clock,(k M (by simp)).trans hb,r⟩,h⟩
theorem UMapAt.lt {w:World} {M:Nat} {E:EntU} (h:UMapAt w M E):M < w.heap.size:=by
 obtain ⟨D,h,_⟩:=h
 exact h.lt
theorem UMapAt.on {W w:World} {M:Nat} {E:EntU} (h:UMapAt W M E) (g:Wider W w):UMapAt w M E :=
 umapT_stable M E W w h fun i hi => by
  obtain rfl:i = M:=by simpa using hi
  exact wheap g h.lt
theorem keyedU:Keyed Tryz.prog 9:=string_keyed Tryz.underlying9
theorem keyOfU {s:ByteArray} (hs:s.size < 1000000):keyOf Tryz.prog 9 (.string s) = some (keyU s):=Go.WideMaps.keyOf_string_mk Tryz.underlying9 (by unfold maxLen; omega)
theorem tightU {w:World} {M n:Nat} {D:DataW Value} (h:w.ownsMap Tryz.prog 9 heldU M n D):w.ownsMap Tryz.prog 9 heldU M (Maps.size D) D:=by
 obtain ⟨es,clock,hb,F,hs,rfl⟩:=h
 exact ⟨es,clock,hb,F,by simp [Maps.size,length_sorted],rfl⟩
def LookE (E:EntU) (s:ByteArray) (z u:Value):Prop:=(s,u) ∈ E ∨ ((∀ v,(s,v) ∉ E) ∧ u = z)
theorem look_u {w:World} {M:Nat} {E:EntU} {t e:TypeId} {z u:Value} {s:ByteArray} (ht:Tryz.prog.underlying t = some (.map 9 e)) (hz:(zeroValue e).run Tryz.prog w = .ok z w) (h:UMapAt w M E) (hs:s.size < 1000000) (hu:LookE E s z u) :
 (Instr.lookup t (.map (some M)) (.string s) false).run Tryz.prog w = .ok u w:=by
 obtain ⟨D,h,m⟩:=h
 obtain ⟨v,ps,hrun,hv⟩:=h.lookup keyedU ht hz (zd:=.held z) (zp:=[]) rfl (keyOfU hs)
 have e:v = u:=by
  have q:(DataW.held v:DataW Value) = D.atKey (keyU s) (.held z):=by
   have:=congrArg (Option.map Prod.fst) hv
   simpa [heldU] using this
  rcases hu with hu | ⟨hn,rfl⟩
  · rw [m.at_ s u hu] at q
    injection q
  · rw [m.no s hn] at q
    injection q
 rw [← e]
 exact hrun
theorem look_nil_u {w:World} {t e:TypeId} {z:Value} {s:ByteArray} (ht:Tryz.prog.underlying t = some (.map 9 e)) (hz:(zeroValue e).run Tryz.prog w = .ok z w) (hs:s.size < 1000000) :
 (Instr.lookup t (.map none) (.string s) false).run Tryz.prog w = .ok z w:=by
 simpa using Maps.look_nil false keyedU ht hz (keyOfU hs)
theorem Own.map_made {V w:World} {R:List Thing} (H:Own V w R):Own V (w.alloc (.map #[] 0)) (umapT w.heap.size [] :: R):=by
 refine H.make ((Wider.refl w).alloc _) ⟨.map [],World.ownsMap_made w _ _ _,mapIs_nil⟩ (umapT_stable _ _) fun i hi => ?_
 obtain rfl:i = w.heap.size:=by simpa using hi
 simp
theorem turned_but {w w':World} {b:Nat} (h:w.mapTurned w' b):WBut [b] w w':=grownBy_but (row:=some b) h.grown
theorem Own.map_turn {V w w':World} {R:List Thing} {M:Nat} {E F:EntU} (H:Own V w (umapT M E :: R)) (h:w.mapTurned w' M) (k:UMapAt w' M F):Own V w' (umapT M F :: R) :=
 H.turn (turned_but h) k (umapT_stable _ _) fun i hi => ⟨.inl hi,by
  obtain rfl:i = M:=by simpa using hi
  exact k.lt⟩
theorem store_u {V w:World} {R:List Thing} {M:Nat} {E:EntU} {t e:TypeId} (ht:Tryz.prog.underlying t = some (.map 9 e)) (H:Own V w (umapT M E :: R)) (hl:E.length < 1000000) {s:ByteArray} (hs:s.size < 1000000) (u:Value) :
 ∃ w',(Instr.mapUpdate t (.map (some M)) (.string s) u).run Tryz.prog w = .ok () w' ∧ Own V w' (umapT M (uputE E s u) :: R):=by
 obtain ⟨D,h,m⟩:=H.head
 obtain ⟨w',r,h2,ht2⟩:=h.store keyedU ht (by rw [m.size]; unfold maxLen; omega) (keyOfU hs) (d:=.held u) (ps:=[]) (val:=u) rfl
 exact ⟨w',r,H.map_turn ht2 ⟨_,tightU h2,m.put (h.tidy keyedU) (keyedU.key (keyOfU hs)) u⟩⟩
theorem drop_u {V w:World} {R:List Thing} {M:Nat} {E:EntU} {t e:TypeId} (ht:Tryz.prog.underlying t = some (.map 9 e)) (H:Own V w (umapT M E :: R)) {s:ByteArray} (hs:s.size < 1000000) (ty:TypeId) :
 ∃ w',(Builtin.delete_ #[t,9] ty #[.map (some M),.string s]).run Tryz.prog w = .ok (.tuple #[]) w' ∧ Own V w' (umapT M (dropE E s) :: R):=by
 obtain ⟨D,h,m⟩:=H.head
 obtain ⟨w',r,h2,ht2⟩:=h.drop keyedU ht (keyOfU hs) ty
 exact ⟨w',r,H.map_turn ht2 ⟨_,tightU h2,m.del (h.tidy keyedU) s⟩⟩
theorem len_u {w:World} {M:Nat} {E:EntU} {t e:TypeId} (ht:Tryz.prog.underlying t = some (.map 9 e)) (h:UMapAt w M E) (ty:TypeId):(Builtin.len_ #[t] ty #[.map (some M)]).run Tryz.prog w = .ok (.int .i64 (E.length:Int)) w:=by
 obtain ⟨D,h,m⟩:=h
 rw [← m.size]
 exact h.len ht ty
theorem wpList_store_u {V:World} (w:World) {R:List Thing} {ops:Array Oper} {rest:List Oper} {o:Oper} {a:Act} {Q:Exit → Act → World → Prop} (hgd:o.guard = none) (mo xo vo:Operand) (t e:TypeId) (ho:o.op = Op.mapUpdate t mo xo vo)
 (ht:Tryz.prog.underlying t = some (.map 9 e)) {M:Nat} {E:EntU} (H:Own V w (umapT M E :: R)) (hl:E.length < 1000000) {s:ByteArray} (hs:s.size < 1000000) (u:Value) (hm:a.eval mo = .map (some M)) (hx:a.eval xo = .string s) (hv:a.eval vo = u)
 (h:∀ w',Own V w' (umapT M (uputE E s u) :: R) → wpList Tryz.prog ops Q rest (a.put o.dst undef) w'):wpList Tryz.prog ops Q (o :: rest) a w:=by
 obtain ⟨w',hrun,H2⟩:=store_u ht H hl hs u
 refine wpList_plain hgd fun K' hK' => ?_
 unfold Oper.wp
 simp [execOp,ho,hm,hx,hv,hrun,Result.andThen]
 exact hK' _ _ (h w' H2)
theorem wpList_drop_u {V:World} (w:World) {R:List Thing} {ops:Array Oper} {rest:List Oper} {o:Oper} {a:Act} {Q:Exit → Act → World → Prop} (hgd:o.guard = none) (mo xo:Operand) (t e:TypeId) (ho:o.op = Op.call { callee:=Callee.builtin Builtin.delete,args:=#[mo,xo],argTypes:=#[t,9] })
 (ht:Tryz.prog.underlying t = some (.map 9 e)) {M:Nat} {E:EntU} (H:Own V w (umapT M E :: R)) {s:ByteArray} (hs:s.size < 1000000) (hm:a.eval mo = .map (some M)) (hx:a.eval xo = .string s)
 (h:∀ w',Own V w' (umapT M (dropE E s) :: R) → wpList Tryz.prog ops Q rest (a.put o.dst (.tuple #[])) w'):wpList Tryz.prog ops Q (o :: rest) a w:=by
 obtain ⟨w',hrun,H2⟩:=drop_u ht H hs o.type
 refine wpList_plain hgd fun K' hK' => ?_
 unfold Oper.wp
 simp [execOp,ho,resolve,invoke,builtin,hm,hx,hrun,Result.andThen]
 exact hK' _ _ (h w' H2)
def cellsU (p:PlN):List Value:=[.string p.x.key,.string p.x.mask,.int .i64 p.x.prio,.int .i64 p.x.v,.int .i64 (p.pl:Int)]
def cellsP (ps:List PlN):List Value:=ps.flatMap cellsU
theorem cellsP_cons (p:PlN) (ps:List PlN):cellsP (p :: ps) = .string p.x.key :: .string p.x.mask :: .int .i64 p.x.prio :: .int .i64 p.x.v :: .int .i64 (p.pl:Int) :: cellsP ps:=rfl
theorem cellsP_append (a b:List PlN):cellsP (a ++ b) = cellsP a ++ cellsP b:=List.flatMap_append
theorem cellsP_length (ps:List PlN):(cellsP ps).length = ps.length * 5:=by
 induction ps with
 | nil => rfl
 | cons p ps ih => rw [cellsP_cons]; simp only [List.length_cons]; rw [ih]; omega
theorem cellsP_at:∀ (ps:List PlN) (j:Nat) (p:PlN),ps[j]? = some p → (cellsP ps)[j * 5]? = some (.string p.x.key) ∧ (cellsP ps)[j * 5 + 1]? = some (.string p.x.mask) ∧ (cellsP ps)[j * 5 + 2]? = some (.int .i64 p.x.prio) ∧ (cellsP ps)[j * 5 + 3]? = some (.int .i64 p.x.v) ∧ (cellsP ps)[j * 5 + 4]? = some (.int .i64 (p.pl:Int))
 | [],j,p,h => by simp at h
 | x :: ps,0,p,h => by
   obtain rfl:x = p:=by simpa using h
   rw [cellsP_cons]; exact ⟨rfl,rfl,rfl,rfl,rfl⟩
 | x :: ps,j + 1,p,h => by
   have:=cellsP_at ps j p (by simpa using h)
   rw [cellsP_cons]
   have e:(j + 1) * 5 = j * 5 + 1 + 1 + 1 + 1 + 1:=by omega
   rw [e]
   simpa using this
theorem cellsP_one (ps:List PlN):∀ u ∈ cellsP ps,u.oneCell' = true:=by
 intro u hu
 obtain ⟨p,_,hu⟩:=List.mem_flatMap.1 hu
 simp only [cellsU,List.mem_cons,List.not_mem_nil,or_false] at hu
 rcases hu with rfl | rfl | rfl | rfl | rfl <;> rfl
theorem cellsP_take (a b:List PlN):(cellsP (a ++ b)).take (a.length * 5) = cellsP a ∧ (cellsP (a ++ b)).drop (a.length * 5) = cellsP b:=by
 rw [cellsP_append,← cellsP_length]
 exact ⟨List.take_left,List.drop_left⟩
abbrev rowP (v:Value) (n:Nat) (ps:List PlN):Thing:=rowT 207 5 v n (cellsP ps)
def intsU (l:List Int):List Value:=l.map (Value.int .i64)
theorem intsU_one (l:List Int):∀ u ∈ intsU l,u.oneCell' = true:=by
 intro u hu
 obtain ⟨x,_,rfl⟩:=List.mem_map.1 hu
 rfl
def ptrU (b:Nat):Value:=.pointer (some ⟨b,0,none⟩)
def ptrsU (l:List GrpN):List Value:=l.map fun g => ptrU g.b
theorem ptrsU_one (l:List GrpN):∀ u ∈ ptrsU l,u.oneCell' = true:=by
 intro u hu
 obtain ⟨x,_,rfl⟩:=List.mem_map.1 hu
 rfl
def entR (l:List RowN):EntU:=l.map fun r => (r.key,r.val)
def rowThing (r:RowN):Thing:=rowP r.val r.ps.length r.ps
abbrev grpC (g:GrpN):Array Value:=#[.string g.mask,.map (some g.M),g.prv]
abbrev blkG (g:GrpN):Thing:=blkT g.b (grpC g) 204
abbrev prT (g:GrpN):Thing:=rowT 3 1 g.prv g.pr.length (intsU g.pr)
def GrpN.things (g:GrpN):List Thing:=blkG g :: prT g :: umapT g.M (entR g.rows) :: g.rows.map rowThing
theorem entR_drop (l:List RowN) (k:ByteArray):entR (dropR l k) = dropE (entR l) k:=by
 unfold entR dropR dropE
 rw [List.filter_map]
 rfl
theorem entR_set (l:List RowN) (k:ByteArray) (v:Value) (ps:List PlN):entR (setR l k v ps) = uputE (entR l) k v:=by
 unfold setR uputE
 rw [← entR_drop]
 rfl
theorem rows_at {l:List RowN} (hk:KeysR l) {r:RowN} (hr:r ∈ l):(l.map rowThing).Perm (rowThing r :: (dropR l r.key).map rowThing):=by
 have:=(getR_some hk hr).2.map rowThing
 exact this
theorem look_row {l:List RowN} {r:RowN} (hr:r ∈ l) (z:Value):LookE (entR l) r.key z r.val:=.inl (List.mem_map.2 ⟨r,hr,rfl⟩)
theorem look_none {l:List RowN} {k:ByteArray} (h:∀ r ∈ l,r.key ≠ k) (z:Value):LookE (entR l) k z z:=.inr ⟨fun v hv => by
 obtain ⟨r,hr,e⟩:=List.mem_map.1 hv
 exact h r hr (by injection e),rfl⟩
end Go.Proofs.YtbnpelciceblfaaGreat
namespace Go.Proofs.YtbnpelciceblfaaGreat
set_option linter.unusedVariables false
open Go.RowKit
set_option maxHeartbeats 64000000
structure After (V:World) where
 w:World
 h:Wider V w
instance (V:World):Nonempty (After V):=⟨⟨V,Wider.refl V⟩⟩
theorem wp_region_after {P:Program} {V:World} {id:Nat} {Q:Exit → Act → World → Prop} {a:Act} {w:World} {l:List Oper} (hm:P.follows .mixedOrders = true) (hB:Region.lexB .any l.toArray = true) (g:Wider V w)
 (h:wpQuiet P l.toArray (fun w' => ∃ x:After V,w' = x.w) (fun a' => ∀ w',(∃ x:After V,w' = x.w) → Q .normal a' w') l a):(Code.region id l.toArray true).wp P Q a w :=
 wp_region_quiet (C:=fun w' => ∃ x:After V,w' = x.w) hm hB ⟨⟨w.drew,g.drew⟩,rfl⟩ (by simpa using h)
theorem quiet_after {P:Program} {V:World} {f:FuncId} {args:Array Value} {x:After V} {v:Value} (h:Calls P f args x.w fun e w' => e = .returned v ∧ Wider x.w w') :
 Calls P f args x.w fun e w' => e = .returned v ∧ ∃ y:After V,w' = y.w :=
 h.mono fun _ w' k => ⟨k.1,⟨w',x.h.trans k.2⟩,rfl⟩
section
variable {P:Program} {ops:Array Oper} {md:Region.Mode} {C:World → Prop}
def wpAnyQL (P:Program) (md:Region.Mode) (ops:Array Oper) (C:World → Prop) (n:Nat) (L:Array Bool → Act → Prop):Nat → Array Bool → Act → Prop
 | 0,listed,a => L listed a
 | f + 1,listed,a =>
   Region.ready md ops listed ≠ [] ∧ ∀ i ∈ Region.ready md ops listed,i < n ∧ qOp P ops C i (wpAnyQL P md ops C n L f (listed.setIfInBounds i true)) a
theorem wpAny_of_headQ {n g:Nat} {L:Array Bool → Act → Prop} {Q':Exit → Act → World → Prop} (hL:∀ listed a w,C w → L listed a → wpAny P md ops Q' g listed a w) :
 ∀ (f:Nat) (listed:Array Bool) (a:Act) (w:World),C w → wpAnyQL P md ops C n L f listed a → wpAny P md ops Q' (f + g) listed a w
 | 0,listed,a,w,hw,h => by rw [Nat.zero_add]; exact hL _ _ _ hw h
 | f + 1,listed,a,w,hw,h => by
   rw [show f + 1 + g = (f + g) + 1 by omega]
   exact ⟨fun h0 => absurd h0 h.1,fun i hi => wpOp_of_qOp hw (fun a' w' hw' h' => wpAny_of_headQ hL f _ a' w' hw' h') (h.2 i hi).2⟩
theorem wpAnyQL_first {n i:Nat} {oi:Oper} {v:Value} {L:Array Bool → Act → Prop} (hi:ops[i]? = some oi) (hsel:∀ (j:Nat) (o:Oper) cs b,ops[j]? = some o → o.op ≠ .select cs b)
 (hs:Region.sinkB md ops n = true) (hc:Region.chainB md ops n = true) (hn:n < ops.size) (hin:i < n)
 (hdone:∀ listed a,L listed a → ∀ j ∈ Region.ready md ops listed,n ≤ j) :
 ∀ (f:Nat) (listed:Array Bool) (a:Act),HeadInv md ops n listed →
   (∀ j oj,ops[j]? = some oj → j ≠ i → listed.getD j true = false → (∀ e ∈ oj.after,Region.binds md e = true → e.on ≠ i) → oi.apart ops oj = true) →
   i ∈ Region.ready md ops listed → YieldsIn P ops C oi v a →
   wpAnyQL P md ops C n L f (listed.setIfInBounds i true) (a.put oi.dst v) → wpAnyQL P md ops C n L (f + 1) listed a:=by
 intro f
 induction f with
 | zero =>
   intro listed a inv _ hr hy H
   have hun:=(mem_ready.1 hr).1
   refine ⟨fun h => (by rw [h] at hr; cases hr),fun j hj => ?_⟩
   have hjn:j < n:=by
    rcases Nat.lt_or_ge j n with h | h
    · exact h
    · exact absurd hj (tail_waits hs hc hn inv _ i rfl hin hun j h)
   refine ⟨hjn,?_⟩
   by_cases hji:j = i
   · subst hji; exact hy.qOp hi H
   · have:=hdone _ _ H j (ready_mono hj hji)
     omega
 | succ f ih =>
   intro listed a inv hfree hr hy H
   have hun:=(mem_ready.1 hr).1
   refine ⟨fun h => (by rw [h] at hr; cases hr),fun j hj => ?_⟩
   have hjn:j < n:=by
    rcases Nat.lt_or_ge j n with h | h
    · exact h
    · exact absurd hj (tail_waits hs hc hn inv _ i rfl hin hun j h)
   refine ⟨hjn,?_⟩
   by_cases hji:j = i
   · subst hji; exact hy.qOp hi H
   · have h1:=(H.2 j (ready_mono hj hji)).2
     obtain ⟨hjun,oj,hoj,hall⟩:=mem_ready.1 hj
     have hnot:∀ e ∈ oj.after,Region.binds md e = true → e.on ≠ i:=fun e he hb heq => by
      have h1:=hall e he hb
      rw [heq,getD_both hun] at h1
      cases h1
     have h2:=qOp_put hoj (hfree j oj hoj hji hjun hnot) (fun cs b => hsel i oi cs b hi) (fun cs b => hsel j oj cs b hoj) hy h1
     have hfree':∀ k ok,ops[k]? = some ok → k ≠ i → (listed.setIfInBounds j true).getD k true = false →
      (∀ e ∈ ok.after,Region.binds md e = true → e.on ≠ i) → oi.apart ops ok = true:=fun k ok hk hki hun hno => by
      refine hfree k ok hk hki ?_ hno
      by_cases hjk:j = k
      · subst hjk; exact hjun
      · rw [getD_set_ne true hjk] at hun; exact hun
     refine qOp_mono (fun a' h3 => ih (listed.setIfInBounds j true) a' (inv.set hj hjn) hfree' (ready_mono hr (Ne.symm hji)) h3.1 ?_) h2
     rw [Array.setIfInBounds_comm _ _ hji]
     exact h3.2
theorem wpAnyQL_lex {n g:Nat} {Lq:Act → Prop} (hsel:Region.noSelect ops = true) (hs:Region.sinkB md ops n = true) (hc:Region.chainB md ops n = true) (hn:n < ops.size) :
 ∀ (l:List Oper) (k:Nat) (listed:Array Bool) (a:Act),(∀ j,j < l.length → l[j]? = ops[k + j]?) → k + l.length = n → HeadInv md ops n listed →
 Region.lexHead md ops g l.length k listed = true → wpQuiet P ops C Lq l a →
 wpAnyQL P md ops C n (fun listed' a' => Region.seqB md ops g n listed' = true ∧ Lq a') l.length listed a
 | [],k,listed,a,_,hk,_,hB,h => by
   have:k = n:=by simpa using hk
   subst this
   exact ⟨by simpa [Region.lexHead] using hB,h⟩
 | o :: l,k,listed,a,hl,hk,inv,hB,h => by
   have h0:ops[k]? = some o:=by simpa using (hl 0 (by simp)).symm
   simp only [List.length_cons,Region.lexHead,Bool.and_eq_true] at hB
   obtain ⟨⟨hr,hf⟩,hB'⟩:=hB
   have hkn:k < n:=by simp only [List.length_cons] at hk; omega
   have hr':k ∈ Region.ready md ops listed:=by simpa using hr
   have hst:qOp P ops C k (wpQuiet P ops C Lq l) a:=by unfold qOp; simp only [h0]; exact h
   obtain ⟨v,hy,hK⟩:=yieldsIn_of_qOp h0 hst
   exact wpAnyQL_first h0 (Region.noSelect_spec hsel) hs hc hn hkn (fun listed' a' hL => seqB_ready hL.1) l.length listed a inv (Region.free_spec h0 hf) hr' hy
    (wpAnyQL_lex hsel hs hc hn l (k + 1) _ _ (fun j hj => by have:=hl (j + 1) (by simp; omega); simpa [Nat.add_assoc,Nat.add_comm 1 j] using this) (by simp only [List.length_cons] at hk; omega) (inv.set hr' hkn) hB' hK)
theorem wp_region_quiet_tail {id:Nat} {Q:Exit → Act → World → Prop} {a:Act} {w:World} {l:List Oper} (n:Nat) (hm:P.follows .mixedOrders = true) (hB:Region.lexTailB .any l.toArray n = true) (hC:C { w with drawn:=w.drawn + 1 })
 (h:wpQuiet P l.toArray C (fun a' => ∀ w',C w' → wpList P l.toArray Q (l.drop n) a' w') (l.take n) a):(Code.region id l.toArray true).wp P Q a w:=by
 simp only [Region.lexTailB,Bool.and_eq_true,decide_eq_true_eq] at hB
 obtain ⟨⟨⟨⟨hsel,hn⟩,hs⟩,hc⟩,hlex⟩:=hB
 have hn':n < l.length:=by simpa using hn
 have htl:(l.take n).length = n:=by simp; omega
 have hdl:(l.drop n).length = l.toArray.size - n:=by simp
 have inv0:HeadInv .any l.toArray n (Array.replicate l.toArray.size false) :=
  ⟨by simp,fun j oj _ hl => (by rw [getD_replicate_false] at hl; cases hl),fun t _ ht => getD_in (by simpa using ht) (getD_replicate_false _ _)⟩
 have H:=wpAnyQL_lex (md:=.any) (g:=l.toArray.size - n) hsel hs hc hn (l.take n) 0 _ a (fun j hj => by
  have hj':j < n:=by rw [htl] at hj; exact hj
  simp [hj']) (by simpa using htl) inv0 (by rw [htl]; exact hlex) h
 refine wp_region_any hm ?_
 have:=wpAny_of_headQ (Q':=Q) (g:=l.toArray.size - n) (fun listed a' w' hw' hL => by
  have:=wpAny_of_seq (md:=.any) (Q':=Q) (l.drop n) n listed a' w' (fun j => by simp [List.getElem?_drop]) (by rw [hdl]; exact hL.1) (hL.2 w' hw')
  rwa [hdl] at this) _ _ _ _ hC H
 rw [htl,show n + (l.toArray.size - n) = l.toArray.size by omega] at this
 exact this
end
theorem wp_region_after_tail {P:Program} {V:World} {id:Nat} {Q:Exit → Act → World → Prop} {a:Act} {w:World} {l:List Oper} (n:Nat) (hm:P.follows .mixedOrders = true) (hB:Region.lexTailB .any l.toArray n = true) (g:Wider V w)
 (h:wpQuiet P l.toArray (fun w' => ∃ x:After V,w' = x.w) (fun a' => ∀ w',(∃ x:After V,w' = x.w) → wpList P l.toArray Q (l.drop n) a' w') (l.take n) a):(Code.region id l.toArray true).wp P Q a w :=
 wp_region_quiet_tail (C:=fun w' => ∃ x:After V,w' = x.w) n hm hB ⟨⟨w.drew,g.drew⟩,rfl⟩ h
end Go.Proofs.YtbnpelciceblfaaGreat
