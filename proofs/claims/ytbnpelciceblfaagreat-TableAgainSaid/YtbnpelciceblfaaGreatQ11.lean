/- UCodeF USetM UCodeG -/
import Derived.Test.YtbnpelciceblfaaGreatQ10
import Derived.Test.YtbnpelciceblfaaGreatQ07
namespace Go.Proofs.YtbnpelciceblfaaGreat
set_option linter.unusedVariables false
open Go.ChangeShapes Go.WideShapes Go.ChangeAt Go.RowKit Go.Joins Go.Maps Go.ChangeMaps
set_option maxHeartbeats 64000000
abbrev nilU:Value:=.slice none 0 0
theorem row_look {w:World} {g:GrpN} (h:GrpAt w g) (hk:KeysR g.rows) (k:ByteArray):∃ u,LookE (entR g.rows) k nilU u ∧ w.ownsRow 0 207 5 u (getR g.rows k).length (cellsP (getR g.rows k)):=by
 rcases row_or g.rows k with ⟨r,hr,rfl⟩ | hn
 · exact ⟨r.val,look_row hr _,by rw [(getR_some hk hr).1]; exact h.rows r hr⟩
 · exact ⟨nilU,look_none hn _,by rw [(getR_none hn).1]; exact World.ownsRow_nil _ _ _ _⟩
theorem Own.focus {V w:World} {R:List Thing} {g:GrpN} (H:Own V w (g.things ++ R)) (hk:KeysR g.rows) (k:ByteArray) :
 ∃ u,LookE (entR g.rows) k nilU u ∧ Own V w (rowP u (getR g.rows k).length (getR g.rows k) :: blkG g :: prT g :: umapT g.M (entR g.rows) :: ((dropR g.rows k).map rowThing ++ R)):=by
 rcases row_or g.rows k with ⟨r,hr,rfl⟩ | hn
 · refine ⟨r.val,look_row hr _,?_⟩
   rw [(getR_some hk hr).1]
   refine H.perm ?_
   have p:=(rows_at hk hr).append_right R
   refine ((p.cons _).cons _ |>.cons _).trans ?_
   exact ((List.Perm.swap _ _ _).cons _ |>.cons _).trans (((List.Perm.swap _ _ _).cons _).trans (List.Perm.swap _ _ _))
 · refine ⟨nilU,look_none hn _,?_⟩
   rw [(getR_none hn).1,(getR_none hn).2]
   exact H.row (Wider.refl w) (World.ownsRow_nil _ _ _ _)
theorem Own.third4 {V w:World} {a b c d:Thing} {L:List Thing} (h:Own V w (a :: b :: c :: d :: L)):Own V w (b :: c :: d :: a :: L) :=
 h.perm ((List.Perm.swap _ _ _).trans (((List.Perm.swap _ _ _).trans ((List.Perm.swap _ _ _).cons _)).cons _))
theorem Own.unfocus {V w:World} {R:List Thing} {g:GrpN} {k:ByteArray} {u v:Value} {pr:List Int} {ps:List PlN}
 (H:Own V w (rowP u ps.length ps :: blkT g.b #[.string g.mask,.map (some g.M),v] 204 :: rowT 3 1 v pr.length (intsU pr) :: umapT g.M (uputE (entR g.rows) k u) :: ((dropR g.rows k).map rowThing ++ R))) :
 Own V w (({ g with rows:=setR g.rows k u ps,prv:=v,pr:=pr } : GrpN).things ++ R):=by
 have h:=H.third4
 unfold GrpN.things
 show Own V w (_ :: _ :: umapT g.M (entR (setR g.rows k u ps)) :: (rowThing ⟨k,u,ps⟩ :: (dropR g.rows k).map rowThing) ++ R)
 rw [entR_set]
 exact h
theorem Own.unfocus_gone {V w:World} {R:List Thing} {g:GrpN} {k:ByteArray} {v:Value} {pr:List Int} {t:Thing}
 (H:Own V w (t :: blkT g.b #[.string g.mask,.map (some g.M),v] 204 :: rowT 3 1 v pr.length (intsU pr) :: umapT g.M (dropE (entR g.rows) k) :: ((dropR g.rows k).map rowThing ++ R))) :
 Own V w (({ g with rows:=dropR g.rows k,prv:=v,pr:=pr } : GrpN).things ++ R):=by
 have h:=H.drop
 unfold GrpN.things
 show Own V w (_ :: _ :: umapT g.M (entR (dropR g.rows k)) :: (dropR g.rows k).map rowThing ++ R)
 rw [entR_drop]
 exact h
theorem uputE_drop {E:EntU} {k:ByteArray} (u:Value):dropE (uputE E k u) k = dropE E k:=by
 unfold uputE dropE
 rw [List.filter_cons,if_neg (by simp),List.filter_filter]
 congr 1
 funext e
 simp
set_option maxRecDepth 20000 in
theorem ubs_c {w:World} {v:Value} {pr X Y:List Int} {n:Nat} (h:w.ownsRow 0 3 1 v n (intsU pr)) (hn:pr.length = n) (hl:n < 1000000) {q:Int} (ha:pr.Pairwise (· ≤ ·)) (e:pr = X ++ Y) (hX:∀ x ∈ X,x < q) (hY:∀ x ∈ Y,q ≤ x) :
 Calls Tryz.prog 152 #[v,.int .i64 q] w fun e w' => (∃ b,e = .returned (.tuple #[.int .i64 (X.length:Int),.bool b])) ∧ Wider w w':=by
 by_cases c:0 < n
 · obtain ⟨B,cap,rfl,hc⟩:=row_slice h c
   have z:=Tryz.slices_BinarySearch_int B 0 n cap pr q w (by omega) (by omega) (fun j hj => by
    rw [Nat.zero_add]
    refine hc j _ ?_
    unfold intsU
    rw [List.getElem?_map,List.getElem?_eq_getElem hj,List.getD_eq_getElem?_getD,List.getElem?_eq_getElem hj]
    rfl) (by rw [← hn,List.take_length]; exact ha)
   have t:pr.take n = X ++ Y:=by rw [← hn,List.take_length,e]
   have ct:(X ++ Y).countP (· < q) = X.length:=lower_count hX hY
   obtain ⟨b0,hb0⟩ : ∃ b0,(X ++ Y).contains q = b0:=⟨_,rfl⟩
   rw [t,ct,hb0] at z
   refine z.mono ?_
   rintro e w' ⟨h1,d,h2⟩
   exact ⟨⟨b0,h1⟩,by rw [h2]; exact (Wider.refl w).drewN d⟩
 · obtain rfl:n = 0:=by omega
   obtain rfl:pr = []:=List.eq_nil_of_length_eq_zero hn
   obtain ⟨rfl,rfl⟩ : X = [] ∧ Y = []:=List.append_eq_nil_iff.1 e.symm
   obtain ⟨B,cap,rfl⟩:=ownsRow_shape h
   refine (Tryz.slices_BinarySearch_int_empty B cap q w).mono ?_
   rintro e w' ⟨h1,h2⟩
   exact ⟨⟨false,h1⟩,by rw [h2]; exact Wider.refl w⟩
theorem uhas_nil (k:ByteArray) (q:Int) (w:World):Calls Tryz.prog 138 #[.pointer none,.string k,.int .i64 q] w fun e w' => e = .returned (.bool false) ∧ w = w':=by
 go_enter Tryz.func138,Tryz.ntmps138
 go_wp2
 go_ret
 exact ⟨rfl,rfl⟩
set_option maxRecDepth 20000 in
theorem uhas_c {w:World} {g:GrpN} (h:GrpAt w g) (hk:KeysR g.rows) {k:ByteArray} (hs:k.size < 1000000) (hl:(getR g.rows k).length < 1000000) {q:Int} {A B:List PlN} {had:Bool} (r:RankN (getR g.rows k) q A B had) :
 Calls Tryz.prog 138 #[ptrU g.b,.string k,.int .i64 q] w fun e w' => e = .returned (.bool had) ∧ Wider w w':=by
 obtain ⟨u,hu,ho⟩:=row_look h hk k
 have zr:=urank_c ho rfl hl q r
 have c1:=blk_cell h.blk 1 (v:=.map (some g.M)) rfl
 have lk:=look_u (t:=202) (e:=216) (z:=nilU) Tryz.underlying202 (Tryz.zeroValue216 w) h.map hs hu
 obtain ⟨b,hb⟩ : ∃ b,g.b = b:=⟨_,rfl⟩
 obtain ⟨M,hM⟩ : ∃ M,g.M = M:=⟨_,rfl⟩
 obtain ⟨n,hn⟩ : ∃ n,A.length = n:=⟨_,rfl⟩
 obtain ⟨B0,cap,rfl⟩:=ownsRow_shape ho
 obtain ⟨m,hm⟩ : ∃ m,(getR g.rows k).length = m:=⟨_,rfl⟩
 rw [hb,hM] at c1
 rw [hM,hm] at lk
 rw [hn,hm] at zr
 rw [hb]
 clear h hk hs hl r hu ho hb hM hn hm
 show Calls Tryz.prog 138 #[.pointer (some ⟨b,0,none⟩),.string k,.int .i64 q] w _
 go_enter Tryz.func138,Tryz.ntmps138
 go_wp2_with (first
  | (go_at_call 147; ((with_reducible refine zr.mono ?_); rintro e w1 ⟨rfl,H⟩)))
 go_ret
 exact ⟨rfl,H⟩
theorem store5 {V w:World} {L:List Thing} {B:Nat} {C:Array Value} {t:TypeId} (H:Own V w (blkT B C t :: L)) (a b c d e:Value) :
 Wider V (((((w.setCell ⟨B,0,none⟩ a).setCell ⟨B,1,none⟩ b).setCell ⟨B,2,none⟩ c).setCell ⟨B,3,none⟩ d).setCell ⟨B,4,none⟩ e) :=
 (((((H.store 0 a).store 1 b).store 2 c).store 3 d).store 4 e).wider
def zeroP:PlN:=⟨⟨⟨#[]⟩,⟨#[]⟩,0,0⟩,0⟩
def findG (g:GrpN) (key:ByteArray):Option PlN:=if key.size = g.mask.size then (getR g.rows (underB key g.mask)).head? else none
set_option maxRecDepth 20000 in
theorem ufind_c {w:World} {g:GrpN} (h:GrpAt w g) (hk:KeysR g.rows) {key:ByteArray} (hs:key.size < 1000000) {p:PlN} {is:Bool} (hf:(findG g key = some p ∧ is = true) ∨ (findG g key = none ∧ p = zeroP ∧ is = false)) :
 Calls Tryz.prog 156 #[ptrU g.b,.string key] w fun e w' => e = .returned (.tuple #[aggP p,.bool is]) ∧ Wider w w':=by
 have c0:=blk_cell h.blk 0 (v:=.string g.mask) rfl
 have c1:=blk_cell h.blk 1 (v:=.map (some g.M)) rfl
 obtain ⟨b,hb⟩ : ∃ b,g.b = b:=⟨_,rfl⟩
 have H:Own w (w.alloc (.cells #[.string ⟨#[]⟩,.string ⟨#[]⟩,.int .i64 0,.int .i64 0,.int .i64 0] 207)) [blkT w.heap.size #[.string ⟨#[]⟩,.string ⟨#[]⟩,.int .i64 0,.int .i64 0,.int .i64 0] 207]:=(Own.nil (Wider.refl w)).blk _ _
 obtain ⟨W0,hW0⟩ : ∃ W0,w.alloc (.cells #[.string ⟨#[]⟩,.string ⟨#[]⟩,.int .i64 0,.int .i64 0,.int .i64 0] 207) = W0:=⟨_,rfl⟩
 obtain ⟨B,hB⟩ : ∃ B,w.heap.size = B:=⟨_,rfl⟩
 have d0:=kalloc (o:=.cells #[.string ⟨#[]⟩,.string ⟨#[]⟩,.int .i64 0,.int .i64 0,.int .i64 0] 207) c0
 rw [hW0,hB] at H
 rw [hW0] at d0
 have d1:=wkeep H.wider c1
 rw [hb] at d0 d1 ⊢
 have HH:=Lib.hid h
 have fin:∀ k:ByteArray,k.size < 1000000 → ∃ u,(∀ W,Wider w W → (Instr.lookup 202 (.map (some g.M)) (.string k) false).run Tryz.prog W = .ok u W) ∧ w.ownsRow 0 207 5 u (getR g.rows k).length (cellsP (getR g.rows k)):=fun k hks => by
  obtain ⟨u,hu,ho⟩:=row_look h hk k
  exact ⟨u,fun W kw => look_u (t:=202) (e:=216) (z:=nilU) Tryz.underlying202 (Tryz.zeroValue216 W) (h.map.on kw) hks hu,ho⟩
 have FIN:=Lib.hid fin
 clear fin h hk c0 c1 hb
 show Calls Tryz.prog 156 #[.pointer (some ⟨b,0,none⟩),.string key] w _
 by_cases e:key.size = g.mask.size
 · have zu:=uunder_c key g.mask hs (.inl ⟨e,rfl,rfl⟩)
   obtain ⟨k,hkk⟩ : ∃ k,underB key g.mask = k:=⟨_,rfl⟩
   unfold findG at hf
   rw [if_pos e,hkk] at hf
   obtain ⟨u,lk,ho⟩:=FIN.out k (by rw [← hkk,underB_size]; exact hs)
   rw [hkk] at zu
   obtain ⟨B0,cap,rfl⟩:=ownsRow_shape ho
   obtain ⟨M,hM⟩ : ∃ M,g.M = M:=⟨_,rfl⟩
   obtain ⟨mask,hmask⟩ : ∃ mask,g.mask = mask:=⟨_,rfl⟩
   rw [hM] at lk d1
   rw [hmask] at zu d0
   cases hps:getR g.rows k with
   | nil =>
     rw [hps] at hf lk
     obtain ⟨rfl,rfl⟩ : p = zeroP ∧ is = false:=by
      rcases hf with ⟨q,_⟩ | ⟨_,q⟩
      · cases q
      · exact q
     simp only [List.length_nil] at lk
     clear hf hs e hkk ho hM hmask hps FIN HH
     show Calls _ _ _ _ fun e w' => e = .returned (.tuple #[.agg #[.string ⟨#[]⟩,.string ⟨#[]⟩,.int .i64 0,.int .i64 0,.int .i64 0],.bool false]) ∧ Wider w w'
     have LK:=Lib.hid lk
     clear lk
     go_enter Tryz.func156,Tryz.ntmps156
     try rw [hW0]
     try rw [hB]
     go_wp2_with (first
      | (go_at_call 144; ((with_reducible refine (zu _).mono ?_); rintro e w1 ⟨rfl,g1⟩; have H1:=H.quiet g1; have x1:=wkeep g1 d1; have lk:=LK.out _ H1.wider; have y0:=blk_cell H1.head 0 (v:=.string ⟨#[]⟩) rfl; have y1:=blk_cell H1.head 1 (v:=.string ⟨#[]⟩) rfl; have y2:=blk_cell H1.head 2 (v:=.int .i64 0) rfl; have y3:=blk_cell H1.head 3 (v:=.int .i64 0) rfl; have y4:=blk_cell H1.head 4 (v:=.int .i64 0) rfl; have f0:=blk_free H1.head 0; have f1:=blk_free H1.head 1; have f2:=blk_free H1.head 2; have f3:=blk_free H1.head 3; have f4:=blk_free H1.head 4; clear H g1)))
     simp [bodyPost,results,Tryz.results156,go_sem,y0,y1,y2,y3,y4]
     exact store5 H1 _ _ _ _ _
   | cons p0 ps =>
     rw [hps] at hf lk ho
     obtain ⟨rfl,rfl⟩ : p0 = p ∧ is = true:=by
      rcases hf with ⟨q,r⟩ | ⟨q,_⟩
      · exact ⟨by simpa using q,r⟩
      · cases q
     obtain ⟨B1,cap1,e1,hc⟩:=row_slice ho (by simp)
     injection e1 with e1 e2 e3
     subst e1
     obtain ⟨n,hn⟩ : ∃ n,(p0 :: ps).length = n:=⟨_,rfl⟩
     have n1:0 < n:=by rw [← hn]; simp
     have n2:((n:Int) == 0) = false:=by rw [beq_eq_false_iff_ne]; omega
     have n3:(0:Int) < (n:Int):=by omega
     rw [hn] at lk
     obtain ⟨k0,k1,k2,k3,k4⟩:=row_item hc (j:=0) (p:=p0) rfl
     simp only [Nat.zero_mul,Nat.zero_add] at k0 k1 k2 k3 k4
     clear hf hs e hkk ho hM hmask hps FIN HH hc hn
     obtain ⟨⟨key0,mask0,prio0,v0⟩,pl0⟩:=p0
     show Calls _ _ _ _ fun e w' => e = .returned (.tuple #[.agg #[.string key0,.string mask0,.int .i64 prio0,.int .i64 v0,.int .i64 (pl0:Int)],.bool true]) ∧ Wider w w'
     simp only at k0 k1 k2 k3 k4
     have LK:=Lib.hid lk
     have KK:=Lib.hid (And.intro k0 (And.intro k1 (And.intro k2 (And.intro k3 k4))))
     clear lk k0 k1 k2 k3 k4
     go_enter Tryz.func156,Tryz.ntmps156
     try rw [hW0]
     try rw [hB]
     go_wp2_with (first
      | (go_at_call 144; ((with_reducible refine (zu _).mono ?_); rintro e w1 ⟨rfl,g1⟩; have H1:=H.quiet g1; have x1:=wkeep g1 d1; have lk:=LK.out _ H1.wider; have k0:=wkeep H1.wider KK.out.1; have k1:=wkeep H1.wider KK.out.2.1; have k2:=wkeep H1.wider KK.out.2.2.1; have k3:=wkeep H1.wider KK.out.2.2.2.1; have k4:=wkeep H1.wider KK.out.2.2.2.2; have y0:=blk_cell H1.head 0 (v:=.string ⟨#[]⟩) rfl; have y1:=blk_cell H1.head 1 (v:=.string ⟨#[]⟩) rfl; have y2:=blk_cell H1.head 2 (v:=.int .i64 0) rfl; have y3:=blk_cell H1.head 3 (v:=.int .i64 0) rfl; have y4:=blk_cell H1.head 4 (v:=.int .i64 0) rfl; have f0:=blk_free H1.head 0; have f1:=blk_free H1.head 1; have f2:=blk_free H1.head 2; have f3:=blk_free H1.head 3; have f4:=blk_free H1.head 4; clear H g1)))
     simp [bodyPost,results,Tryz.results156,go_sem,y0,y1,y2,y3,y4]
     exact store5 H1 _ _ _ _ _
 · have zu:=uunder_c key g.mask hs (.inr ⟨e,rfl,rfl⟩)
   unfold findG at hf
   rw [if_neg e] at hf
   obtain ⟨u,lk,ho⟩:=FIN.out ⟨#[]⟩ (by decide)
   obtain ⟨B0,cap,rfl⟩:=ownsRow_shape ho
   obtain ⟨M,hM⟩ : ∃ M,g.M = M:=⟨_,rfl⟩
   obtain ⟨mask,hmask⟩ : ∃ mask,g.mask = mask:=⟨_,rfl⟩
   obtain ⟨n,hn⟩ : ∃ n,(getR g.rows ⟨#[]⟩).length = n:=⟨_,rfl⟩
   rw [hM] at lk d1
   rw [hn] at lk
   rw [hmask] at zu d0
   obtain ⟨rfl,rfl⟩ : p = zeroP ∧ is = false:=by
    rcases hf with ⟨q,_⟩ | ⟨_,q⟩
    · cases q
    · exact q
   clear hf hs e ho hM hmask hn FIN HH
   show Calls _ _ _ _ fun e w' => e = .returned (.tuple #[.agg #[.string ⟨#[]⟩,.string ⟨#[]⟩,.int .i64 0,.int .i64 0,.int .i64 0],.bool false]) ∧ Wider w w'
   have LK:=Lib.hid lk
   clear lk
   go_enter Tryz.func156,Tryz.ntmps156
   try rw [hW0]
   try rw [hB]
   go_wp2_with (first
    | (go_at_call 144; ((with_reducible refine (zu _).mono ?_); rintro e w1 ⟨rfl,g1⟩; have H1:=H.quiet g1; have x1:=wkeep g1 d1; have lk:=LK.out _ H1.wider; have y0:=blk_cell H1.head 0 (v:=.string ⟨#[]⟩) rfl; have y1:=blk_cell H1.head 1 (v:=.string ⟨#[]⟩) rfl; have y2:=blk_cell H1.head 2 (v:=.int .i64 0) rfl; have y3:=blk_cell H1.head 3 (v:=.int .i64 0) rfl; have y4:=blk_cell H1.head 4 (v:=.int .i64 0) rfl; have f0:=blk_free H1.head 0; have f1:=blk_free H1.head 1; have f2:=blk_free H1.head 2; have f3:=blk_free H1.head 3; have f4:=blk_free H1.head 4; clear H g1)))
   simp [bodyPost,results,Tryz.results156,go_sem,y0,y1,y2,y3,y4]
   exact store5 H1 _ _ _ _ _
end Go.Proofs.YtbnpelciceblfaaGreat
namespace Go.Proofs.YtbnpelciceblfaaGreat
set_option linter.unusedVariables false
open Go.ChangeShapes Go.WideShapes Go.ChangeAt Go.RowKit Go.Joins
set_option maxHeartbeats 64000000
theorem u8_or (a b:UInt8):a < b ∨ b < a ∨ a = b:=by
 rcases Nat.lt_trichotomy a.toNat b.toNat with h | h | h
 · exact .inl (UInt8.lt_iff_toNat_lt.2 h)
 · exact .inr (.inr (UInt8.toNat_inj.1 h))
 · exact .inr (.inl (UInt8.lt_iff_toNat_lt.2 h))
theorem u8_asymm {a b:UInt8} (h:a < b):¬ b < a:=fun k => by
 have h1:=UInt8.lt_iff_toNat_lt.1 h
 have h2:=UInt8.lt_iff_toNat_lt.1 k
 omega
theorem u8_trans {a b c:UInt8} (h:a < b) (k:b < c):a < c:=by
 have h1:=UInt8.lt_iff_toNat_lt.1 h
 have h2:=UInt8.lt_iff_toNat_lt.1 k
 exact UInt8.lt_iff_toNat_lt.2 (by omega)
theorem cb_cons (a b:UInt8) (l m:List UInt8):Lib.compareBytes (a :: l) (b :: m) = if a < b then -1 else if b < a then 1 else Lib.compareBytes l m:=rfl
theorem cb_total:∀ l m:List UInt8,Lib.compareBytes l m < 0 ∨ Lib.compareBytes m l < 0 ∨ l = m
 | [],[] => .inr (.inr rfl)
 | [],_ :: _ => .inl (show (-1:Int) < 0 by decide)
 | _ :: _,[] => .inr (.inl (show (-1:Int) < 0 by decide))
 | a :: l,b :: m => by
   rw [cb_cons,cb_cons]
   rcases u8_or a b with h | h | rfl
   · refine .inl ?_; rw [if_pos h]; decide
   · refine .inr (.inl ?_); rw [if_pos h]; decide
   · rw [if_neg (UInt8.lt_irrefl a),if_neg (UInt8.lt_irrefl a),if_neg (UInt8.lt_irrefl a),if_neg (UInt8.lt_irrefl a)]
     rcases cb_total l m with h | h | rfl
     · exact .inl h
     · exact .inr (.inl h)
     · exact .inr (.inr rfl)
theorem cb_asymm:∀ l m:List UInt8,Lib.compareBytes l m < 0 → ¬ Lib.compareBytes m l < 0
 | [],[] => by decide
 | [],_ :: _ => fun _ => by unfold Lib.compareBytes; decide
 | _ :: _,[] => fun h => absurd h (by unfold Lib.compareBytes; decide)
 | a :: l,b :: m => by
   rw [cb_cons,cb_cons]
   rcases u8_or a b with h | h | rfl
   · intro _ q; rw [if_neg (u8_asymm h),if_pos h] at q; exact absurd q (by decide)
   · intro q; rw [if_neg (u8_asymm h),if_pos h] at q; exact absurd q (by decide)
   · rw [if_neg (UInt8.lt_irrefl a),if_neg (UInt8.lt_irrefl a),if_neg (UInt8.lt_irrefl a),if_neg (UInt8.lt_irrefl a)]
     exact cb_asymm l m
theorem cb_trans:∀ l m n:List UInt8,Lib.compareBytes l m < 0 → Lib.compareBytes m n < 0 → Lib.compareBytes l n < 0
 | [],_,[] => fun h k => by
   rename_i m
   cases m with
   | nil => exact h
   | cons b m => exact absurd k (by unfold Lib.compareBytes; decide)
 | [],_,_ :: _ => fun _ _ => by unfold Lib.compareBytes; decide
 | _ :: _,[],_ => fun h => absurd h (by unfold Lib.compareBytes; decide)
 | _ :: _,_ :: _,[] => fun _ k => absurd k (by unfold Lib.compareBytes; decide)
 | a :: l,b :: m,c :: n => by
   rw [cb_cons,cb_cons,cb_cons]
   intro h k
   rcases u8_or a b with p | p | rfl
   · rcases u8_or b c with q | q | rfl
     · rw [if_pos (u8_trans p q)]; decide
     · rw [if_neg (u8_asymm q),if_pos q] at k; exact absurd k (by decide)
     · rw [if_pos p]; decide
   · rw [if_neg (u8_asymm p),if_pos p] at h; exact absurd h (by decide)
   · rw [if_neg (UInt8.lt_irrefl a),if_neg (UInt8.lt_irrefl a)] at h
     rcases u8_or a c with q | q | rfl
     · rw [if_pos q]; decide
     · rw [if_neg (u8_asymm q),if_pos q] at k; exact absurd k (by decide)
     · rw [if_neg (UInt8.lt_irrefl a),if_neg (UInt8.lt_irrefl a)] at k ⊢
       exact cb_trans l m n h k
theorem ahead_lt (g h:GrpN):aheadN g h < 0 ↔ h.top < g.top ∨ (g.top = h.top ∧ Lib.compareBytes g.mask.data.toList h.mask.data.toList < 0):=by
 unfold aheadN
 split
 · rename_i c
   rw [compareInt_lt]
   have:¬ h.top = g.top:=fun e => c ((compareInt_zero _ _).2 e)
   constructor
   · exact fun q => .inl q
   · rintro (q | ⟨q,_⟩)
     · exact q
     · exact absurd q.symm this
 · rename_i c
   have e:h.top = g.top:=by
    by_cases e:h.top = g.top
    · exact e
    · exact absurd (fun q => e ((compareInt_zero _ _).1 q)) c
   rw [e]
   simp
theorem ahead_trans {a b c:GrpN} (h:aheadN a b < 0) (k:aheadN b c < 0):aheadN a c < 0:=by
 rw [ahead_lt] at h k ⊢
 rcases h with h | ⟨h,h2⟩
 · rcases k with k | ⟨k,_⟩
   · exact .inl (by omega)
   · exact .inl (by omega)
 · rcases k with k | ⟨k,k2⟩
   · exact .inl (by omega)
   · exact .inr ⟨by omega,cb_trans _ _ _ h2 k2⟩
theorem ahead_asymm {a b:GrpN} (h:aheadN a b < 0):¬ aheadN b a < 0:=by
 rw [ahead_lt] at h ⊢
 rintro (k | ⟨k,k2⟩)
 · rcases h with h | ⟨h,_⟩ <;> omega
 · rcases h with h | ⟨_,h2⟩
   · omega
   · exact cb_asymm _ _ h2 k2
theorem ahead_self (a:GrpN):¬ aheadN a a < 0:=fun h => ahead_asymm h h
theorem ahead_total {a b:GrpN} (ne:a.mask ≠ b.mask):aheadN a b < 0 ∨ aheadN b a < 0:=by
 rw [ahead_lt,ahead_lt]
 rcases Int.lt_trichotomy a.top b.top with h | h | h
 · exact .inr (.inl h)
 · rcases cb_total a.mask.data.toList b.mask.data.toList with k | k | k
   · exact .inl (.inr ⟨h,k⟩)
   · exact .inr (.inr ⟨h.symm,k⟩)
   · exact absurd (ba_ext k) ne
 · exact .inl (.inl h)
def OrdS (gs:List GrpN):Prop:=gs.Pairwise fun a b => aheadN a b < 0
def MasksS (gs:List GrpN):Prop:=gs.Pairwise fun a b => a.mask ≠ b.mask
theorem ord_at {A B:List GrpN} {g:GrpN} (h:OrdS (A ++ g :: B)):(∀ x ∈ A,aheadN x g < 0) ∧ ∀ x ∈ g :: B,¬ aheadN x g < 0:=by
 obtain ⟨h1,h2,h3⟩:=List.pairwise_append.1 h
 refine ⟨fun x hx => h3 x hx g (.head _),fun x hx => ?_⟩
 rcases List.mem_cons.1 hx with rfl | hx
 · exact ahead_self _
 · exact ahead_asymm ((List.pairwise_cons.1 h2).1 x hx)
theorem ord_less {A B:List GrpN} {g:GrpN} (h:OrdS (A ++ g :: B)):OrdS (A ++ B):=List.Pairwise.sublist (List.Sublist.append_left (List.sublist_cons_self _ _) _) h
theorem masks_less {A B:List GrpN} {g:GrpN} (h:MasksS (A ++ g :: B)):MasksS (A ++ B) ∧ ∀ x ∈ A ++ B,x.mask ≠ g.mask:=by
 have p:MasksS (g :: (A ++ B)):=pairwise_perm (fun _ _ => Ne.symm) List.perm_middle h
 exact ⟨(List.pairwise_cons.1 p).2,fun x hx => ((List.pairwise_cons.1 p).1 x hx).symm⟩
theorem masks_more {A B:List GrpN} {g:GrpN} (h:MasksS (A ++ B)) (k:∀ x ∈ A ++ B,x.mask ≠ g.mask):MasksS (A ++ g :: B) :=
 pairwise_perm (fun _ _ => Ne.symm) List.perm_middle.symm (List.pairwise_cons.2 ⟨fun x hx => (k x hx).symm,h⟩)
theorem ord_more {gs:List GrpN} (h:OrdS gs) (g:GrpN):∃ A B,gs = A ++ B ∧ (∀ x ∈ A,aheadN x g < 0) ∧ ∀ x ∈ B,¬ aheadN x g < 0 :=
 split_mono (fun x:GrpN => aheadN x g < 0) (fun a b r hb => ahead_trans r hb) gs h
theorem ord_put {A B:List GrpN} {g:GrpN} (h:OrdS (A ++ B)) (hA:∀ x ∈ A,aheadN x g < 0) (hB:∀ x ∈ B,¬ aheadN x g < 0) (k:∀ x ∈ A ++ B,x.mask ≠ g.mask):OrdS (A ++ g :: B):=by
 obtain ⟨h1,h2,h3⟩:=List.pairwise_append.1 h
 refine List.pairwise_append.2 ⟨h1,List.pairwise_cons.2 ⟨fun x hx => ?_,h2⟩,fun a ha b hb => ?_⟩
 · rcases ahead_total (a:=x) (b:=g) (k x (List.mem_append_right _ hx)) with q | q
   · exact absurd q (hB x hx)
   · exact q
 · rcases List.mem_cons.1 hb with rfl | hb
   · exact hA a ha
   · exact h3 a ha b hb
structure SetN where
 A:Nat
 gm:Option Nat
 ov:Value
 gs:List GrpN
 items:Nat
 last:Nat
def flatS (gs:List GrpN):List PlN:=gs.flatMap GrpN.flat
def FormN (x:ItN):Prop:=MatchN x x.key
structure GoodS (s:SetN):Prop where
 good:∀ g ∈ s.gs,GoodG g ∧ g.rows ≠ []
 masks:MasksS s.gs
 ord:OrdS s.gs
 items:s.items = (flatS s.gs).length
 places:(flatS s.gs).Pairwise fun p q => p.pl ≠ q.pl
 last:∀ p ∈ flatS s.gs,p.pl ≤ s.last
 form:∀ p ∈ flatS s.gs,FormN p.x
 gm:s.gm = none → s.gs = []
def SameN (x y:ItN):Prop:=x.key = y.key ∧ x.mask = y.mask ∧ x.prio = y.prio
instance (x y:ItN):Decidable (SameN x y):=by unfold SameN; infer_instance
def IsAll (s:SetN) (L:List ItN):Prop:=∃ Ps:List PlN,Ps.Perm (flatS s.gs) ∧ (Ps.Pairwise fun p q => p.pl < q.pl) ∧ Ps.map (·.x) = L
def butL (L:List ItN) (x:ItN):List ItN:=L.filter fun y => decide (¬ SameN y x)
def butP (P:List PlN) (x:ItN):List PlN:=P.filter fun y => decide (¬ SameN y.x x)
theorem butL_map (P:List PlN) (x:ItN):(butP P x).map (·.x) = butL (P.map (·.x)) x:=by
 unfold butP butL
 rw [List.filter_map]
 rfl
theorem flatS_append (A B:List GrpN):flatS (A ++ B) = flatS A ++ flatS B:=List.flatMap_append
theorem flatS_mid (A B:List GrpN) (g:GrpN):(flatS (A ++ g :: B)).Perm (g.flat ++ flatS (A ++ B)):=by
 rw [flatS_append,flatS_append]
 show (flatS A ++ (g.flat ++ flatS B)).Perm _
 rw [← List.append_assoc,← List.append_assoc]
 exact List.perm_append_comm.append_right _
theorem mask_of {gs:List GrpN} (h:∀ g ∈ gs,GoodG g ∧ g.rows ≠ []) {p:PlN} (hp:p ∈ flatS gs):∃ g ∈ gs,p ∈ g.flat ∧ p.x.mask = g.mask:=by
 obtain ⟨g,hg,hpg⟩:=List.mem_flatMap.1 hp
 exact ⟨g,hg,hpg,((h g hg).1.mem_get hpg).2⟩
theorem butP_mid {A B:List GrpN} {g:GrpN} (h:∀ y ∈ A ++ g :: B,GoodG y ∧ y.rows ≠ []) (k:∀ y ∈ A ++ B,y.mask ≠ g.mask) (hg:GoodG g) (x:ItN) (hx:x.mask = g.mask):(butP (flatS (A ++ g :: B)) x).Perm (butN g.flat x.key x.prio ++ flatS (A ++ B)):=by
 refine ((flatS_mid A B g).filter _).trans ?_
 rw [List.filter_append]
 have e1:g.flat.filter (fun y => decide (¬ SameN y.x x)) = butN g.flat x.key x.prio:=by
  unfold butN
  refine List.filter_congr fun y hy => ?_
  have:=(hg.mem_get hy).2
  unfold SameN
  simp [this,hx]
 have e2:(flatS (A ++ B)).filter (fun y => decide (¬ SameN y.x x)) = flatS (A ++ B):=by
  refine List.filter_eq_self.2 fun y hy => decide_eq_true fun c => ?_
  obtain ⟨z,hz,_,e⟩:=mask_of (gs:=A ++ B) (fun z hz => h z (by
   rcases List.mem_append.1 hz with q | q
   · exact List.mem_append_left _ q
   · exact List.mem_append_right _ (.tail _ q))) hy
  exact k z hz (e.symm.trans (c.2.1.trans hx))
 rw [e1,e2]
theorem butP_none {gs:List GrpN} (h:∀ y ∈ gs,GoodG y ∧ y.rows ≠ []) (x:ItN) (k:∀ y ∈ gs,y.mask ≠ x.mask):butP (flatS gs) x = flatS gs:=by
 refine List.filter_eq_self.2 fun y hy => decide_eq_true fun c => ?_
 obtain ⟨z,hz,_,e⟩:=mask_of h hy
 exact k z hz (e.symm.trans c.2.1)
theorem pairwise_ne_of {P Q:List PlN} (p:P.Perm Q) (h:P.Pairwise fun a b => a.pl ≠ b.pl):Q.Pairwise fun a b => a.pl ≠ b.pl:=pairwise_perm (fun _ _ => Ne.symm) p h
theorem all_put {s t:SetN} {L:List ItN} (h:IsAll s L) (hl:∀ p ∈ flatS s.gs,p.pl ≤ s.last) {x:ItN} {n:Nat} (hn:s.last < n) (p:(flatS t.gs).Perm (⟨x,n⟩ :: butP (flatS s.gs) x)):IsAll t (butL L x ++ [x]):=by
 obtain ⟨Ps,p1,p2,rfl⟩:=h
 refine ⟨butP Ps x ++ [⟨x,n⟩],?_,?_,?_⟩
 · refine List.Perm.trans ?_ p.symm
   exact List.perm_append_comm.trans ((p1.filter _).cons _)
 · refine List.pairwise_append.2 ⟨p2.filter _,List.pairwise_singleton _ _,fun a ha b hb => ?_⟩
   obtain rfl:b = ⟨x,n⟩:=by simpa using hb
   have:=hl a (p1.mem_iff.1 (List.mem_filter.1 ha).1)
   show a.pl < n
   omega
 · rw [List.map_append,butL_map]; rfl
theorem all_del {s t:SetN} {L:List ItN} (h:IsAll s L) {x:ItN} (p:(flatS t.gs).Perm (butP (flatS s.gs) x)):IsAll t (butL L x):=by
 obtain ⟨Ps,p1,p2,rfl⟩:=h
 exact ⟨butP Ps x,(p1.filter _).trans p.symm,p2.filter _,butL_map Ps x⟩
end Go.Proofs.YtbnpelciceblfaaGreat
namespace Go.Proofs.YtbnpelciceblfaaGreat
set_option linter.unusedVariables false
open Go.ChangeShapes Go.WideShapes Go.ChangeAt Go.RowKit Go.Joins Go.Maps Go.ChangeMaps
set_option maxHeartbeats 64000000
theorem cells_less {A B:List PlN} (p:PlN):(cellsP (A ++ p :: B)).take (A.length * 5) ++ (cellsP (A ++ p :: B)).drop ((A.length + 1) * 5) = cellsP (A ++ B):=by
 rw [(cellsP_take A (p :: B)).1,cellsP_append A B]
 congr 1
 have e:A ++ p :: B = (A ++ [p]) ++ B:=by simp
 rw [e]
 have:=(cellsP_take (A ++ [p]) B).2
 simpa using this
theorem cells_more {A B:List PlN} (p:PlN):(cellsP (A ++ B)).take (A.length * 5) ++ cellsU p ++ (cellsP (A ++ B)).drop (A.length * 5) = cellsP (A ++ p :: B):=by
 rw [(cellsP_take A B).1,(cellsP_take A B).2]
 show _ = cellsP (A ++ ([p] ++ B))
 rw [cellsP_append,cellsP_append,← List.append_assoc]
 congr 2
theorem ints_less {X Y:List Int} (q:Int):(intsU (X ++ q :: Y)).take X.length ++ (intsU (X ++ q :: Y)).drop (X.length + 1) = intsU (X ++ Y):=by
 unfold intsU
 rw [List.map_append,List.map_append,List.take_left' (by simp),List.map_cons]
 congr 1
 rw [show X.length + 1 = (X.map (Value.int .i64)).length + 1 by simp,List.drop_append]
 simp
theorem ints_more {X Y:List Int} (q:Int):(intsU (X ++ Y)).take X.length ++ [Value.int .i64 q] ++ (intsU (X ++ Y)).drop X.length = intsU (X ++ q :: Y):=by
 unfold intsU
 rw [List.map_append,List.take_left' (by simp),List.drop_left' (by simp)]
 simp
set_option maxRecDepth 20000 in
theorem ugdel_1 {V w:World} {R:List Thing} {g:GrpN} (H:Own V w (g.things ++ R)) (hg:GoodG g) {k:ByteArray} (hs:k.size < 1000000) (hl:(getR g.rows k).length < 1000000) (hp:g.pr.length < 1000000) (hr:g.rows.length < 1000000)
 {q:Int} {A B:List PlN} {X Y:List Int} (r:RankN (getR g.rows k) q A B true) (hXY:g.pr = X ++ q :: Y) (hX:∀ x ∈ X,x < q) (hY:∀ x ∈ Y,q ≤ x) :
 Calls Tryz.prog 140 #[ptrU g.b,.string k,.int .i64 q] w fun e w' => ∃ v u,e = .returned (.tuple #[]) ∧ Own V w' (({ g with rows:=delRows g.rows k v (A ++ B),prv:=u,pr:=X ++ Y } : GrpN).things ++ R):=by
 obtain ⟨u0,hu,H0⟩:=H.focus hg.keys k
 have H0:Own V w (rowP u0 (getR g.rows k).length (getR g.rows k) :: blkT g.b #[.string g.mask,.map (some g.M),g.prv] 204 :: rowT 3 1 g.prv g.pr.length (intsU g.pr) :: umapT g.M (entR g.rows) :: ((dropR g.rows k).map rowThing ++ R)):=H0
 obtain ⟨p0,_,eps⟩ : ∃ p:PlN,p.x.prio = q ∧ getR g.rows k = A ++ p :: B:=by
  rcases r.perm with ⟨_,p,h1,h2⟩ | ⟨h,_⟩
  · exact ⟨p,h1,h2⟩
  · cases h
 obtain ⟨ps,hps⟩ : ∃ ps,getR g.rows k = ps:=⟨_,rfl⟩
 rw [hps] at H0 r hl eps
 obtain ⟨n,hn⟩ : ∃ n,ps.length = n:=⟨_,rfl⟩
 rw [hn] at H0 hl
 obtain ⟨A0,c0,rfl⟩:=ownsRow_shape H0.head
 obtain ⟨i,hi⟩ : ∃ i,A.length = i:=⟨_,rfl⟩
 have hin:i < n:=by rw [← hi,← hn,eps]; simp
 have zr:=fun (W:World) (kw:Wider w W) => urank_c (ownsRow_wider H0.head kw) hn hl q r
 rw [hi] at zr
 have zd:=fun {R':List Thing} (W:World) (HW:Own V W (rowP (.slice A0 n c0) n ps :: R')) => udelP_1 HW (cellsP_one ps) hin hl
 have ecl:(cellsP ps).take (i * 5) ++ (cellsP ps).drop ((i + 1) * 5) = cellsP (A ++ B):=by rw [eps,← hi]; exact cells_less p0
 simp only [ecl] at zd
 have lk:=look_u (t:=202) (e:=216) (z:=nilU) Tryz.underlying202 (Tryz.zeroValue216 w) H0.drop.drop.second hs hu
 have hel:(entR g.rows).length < 1000000:=by unfold entR; rw [List.length_map]; exact hr
 obtain ⟨P0,cp,hpv⟩:=ownsRow_shape H0.drop.second
 have hAB:(A ++ B).length = n - 1:=by
  have:=congrArg List.length eps
  rw [hn,List.length_append,List.length_cons] at this
  rw [List.length_append]; omega
 obtain ⟨m,hm⟩ : ∃ m,g.pr.length = m:=⟨_,rfl⟩
 obtain ⟨x,hx⟩ : ∃ x,X.length = x:=⟨_,rfl⟩
 have hxm:x < m:=by rw [← hx,← hm,hXY]; simp
 have zb:=fun (W:World) (ow:W.ownsRow 0 3 1 (.slice P0 m cp) m (intsU g.pr)) => ubs_c (q:=q) ow hm (by omega) hg.asc hXY hX (fun y hy => by
  rcases List.mem_cons.1 hy with rfl | hy
  · exact Int.le_refl _
  · exact hY y hy)
 rw [hx] at zb
 have eil:(intsU g.pr).take x ++ (intsU g.pr).drop (x + 1) = intsU (X ++ Y):=by rw [hXY,← hx]; exact ints_less q
 have hXYl:(X ++ Y).length = m - 1:=by
  have:=congrArg List.length hXY
  rw [hm,List.length_append,List.length_cons] at this
  rw [List.length_append]; omega
 have zi:=fun {R':List Thing} (W:World) (HW:Own V W (rowT 3 1 (.slice P0 m cp) m (intsU g.pr) :: R')) => udelI_1 HW (intsU_one g.pr) hxm (by omega)
 simp only [eil] at zi
 obtain ⟨b,hb⟩ : ∃ b,g.b = b:=⟨_,rfl⟩
 obtain ⟨M,hM⟩ : ∃ M,g.M = M:=⟨_,rfl⟩
 have hpv2:g.prv = .slice P0 m cp:=by rw [hpv,hm]
 rw [hb,hM,hpv2,hm] at H0
 have c1:=blk_cell H0.second 1 (v:=.map (some M)) rfl
 rw [hM] at lk
 have HH:=Lib.hid H0
 have HI:=Lib.hid (And.intro hb (And.intro hM (And.intro hpv2 (And.intro hm (And.intro hAB hXYl)))))
 have HEL:=Lib.hid hel
 have HKS:=Lib.hid hs
 have gw:Wider w w:=Wider.refl w
 have ib:i ≤ 999999:=by omega
 have xb:x ≤ 999999:=by omega
 obtain ⟨n1,hn1⟩ : ∃ n1,n - 1 = n1:=⟨_,rfl⟩
 rw [hn1] at zd
 have HN1:=Lib.hid hn1
 rw [hb]
 clear H hg hs hl hp hr r hXY hX hY hu eps hps hn hi ecl hel hpv hAB hm hx eil hXYl hb hM hn1 hpv2
 show Calls Tryz.prog 140 #[.pointer (some ⟨b,0,none⟩),.string k,.int .i64 q] w _
 by_cases z:n1 = 0
 · subst z
   go_enter Tryz.func140,Tryz.ntmps140
   go_wp2_with (first
    | (go_at_call 147; ((with_reducible refine (zr _ gw).mono ?_); rintro e w1 ⟨rfl,g1⟩; have H1:=HH.out.quiet g1; clear g1 zr lk H0 HH c1))
    | (go_at_call 151; ((with_reducible refine (zd _ H1).mono ?_); rintro e w2 ⟨rfl,H2⟩; have H3:=H2.fourth; have c1:=blk_cell H2.second 1 (v:=.map (some M)) rfl; clear zd H1 H2))
    | (at_mapUpdate; refine wpList_store_u _ rfl (.tmp 29) (.tmp 30) (.tmp 31) 202 216 rfl Tryz.underlying202 H3 HEL.out HKS.out (.slice A0 0 c0) rfl rfl rfl ?_; intro w3 H4; have c1b:=blk_cell H4.drop.second 1 (v:=.map (some M)) rfl; have c2:=blk_cell H4.drop.second 2 (v:=.slice P0 m cp) rfl; have H5:=H4; clear H3 c1)
    | (at_delete; refine wpList_drop_u _ rfl (.tmp 38) (.tmp 39) 202 216 rfl Tryz.underlying202 H4 HKS.out rfl rfl ?_; intro w4 H5b; clear H5 c2; have H5:=H5b; have c2:=blk_cell H5.drop.second 2 (v:=.slice P0 m cp) rfl; clear H5b H4 c1b)
    | (go_at_call 152; ((with_reducible refine (zb _ H5.fourth.head).mono ?_); rintro e w5 ⟨⟨bb,rfl⟩,g5⟩; have H6:=(H5.quiet g5).fourth; have c2b:=wkeep g5 c2; clear zb H5 c2 g5))
    | (go_at_call 153; ((with_reducible refine (zi _ H6).mono ?_); rintro e w6 ⟨rfl,H6b⟩; have H6c:=H6b.fourth; have f2:=blk_free H6c.head 2; have c2c:=blk_cell H6c.head 2 (v:=.slice P0 m cp) rfl; have H7:=(H6c.store 2 (.slice P0 (m - 1) cp)).fourth; clear H6 H6b H6c c2b zi)))
   simp [bodyPost,results,Tryz.results140,go_sem]
   obtain ⟨hb,hM,hpv,hm,hAB,hXYl⟩:=HI.out
   subst hb hM
   have e0:A ++ B = []:=List.eq_nil_of_length_eq_zero (hAB.trans HN1.out)
   refine ⟨nilU,.slice P0 (m - 1) cp,?_⟩
   have e1:delRows g.rows k nilU (A ++ B) = dropR g.rows k:=by unfold delRows; rw [if_pos e0]
   rw [e1]
   refine Own.unfocus_gone (g:=g) (t:=rowP (.slice A0 0 c0) 0 (A ++ B)) ?_
   rw [hXYl,← uputE_drop (.slice A0 0 c0)]
   exact H7
 · have z1:((n1:Int) == 0) = false:=by rw [beq_eq_false_iff_ne]; omega
   go_enter Tryz.func140,Tryz.ntmps140
   go_wp2_with (first
    | (go_at_call 147; ((with_reducible refine (zr _ gw).mono ?_); rintro e w1 ⟨rfl,g1⟩; have H1:=HH.out.quiet g1; clear g1 zr lk H0 HH c1))
    | (go_at_call 151; ((with_reducible refine (zd _ H1).mono ?_); rintro e w2 ⟨rfl,H2⟩; have H3:=H2.fourth; have c1:=blk_cell H2.second 1 (v:=.map (some M)) rfl; clear zd H1 H2))
    | (at_mapUpdate; refine wpList_store_u _ rfl (.tmp 29) (.tmp 30) (.tmp 31) 202 216 rfl Tryz.underlying202 H3 HEL.out HKS.out (.slice A0 n1 c0) rfl rfl rfl ?_; intro w3 H4; have c1b:=blk_cell H4.drop.second 1 (v:=.map (some M)) rfl; have c2:=blk_cell H4.drop.second 2 (v:=.slice P0 m cp) rfl; have H5:=H4; clear H3 c1)
    | (at_delete; refine wpList_drop_u _ rfl (.tmp 38) (.tmp 39) 202 216 rfl Tryz.underlying202 H4 HKS.out rfl rfl ?_; intro w4 H5b; clear H5 c2; have H5:=H5b; have c2:=blk_cell H5.drop.second 2 (v:=.slice P0 m cp) rfl; clear H5b H4 c1b)
    | (go_at_call 152; ((with_reducible refine (zb _ H5.fourth.head).mono ?_); rintro e w5 ⟨⟨bb,rfl⟩,g5⟩; have H6:=(H5.quiet g5).fourth; have c2b:=wkeep g5 c2; clear zb H5 c2 g5))
    | (go_at_call 153; ((with_reducible refine (zi _ H6).mono ?_); rintro e w6 ⟨rfl,H6b⟩; have H6c:=H6b.fourth; have f2:=blk_free H6c.head 2; have c2c:=blk_cell H6c.head 2 (v:=.slice P0 m cp) rfl; have H7:=(H6c.store 2 (.slice P0 (m - 1) cp)).fourth; clear H6 H6b H6c c2b zi)))
   simp [bodyPost,results,Tryz.results140,go_sem]
   obtain ⟨hb,hM,hpv,hm,hAB,hXYl⟩:=HI.out
   subst hb hM
   have e0:A ++ B ≠ []:=fun e => z (by rw [← HN1.out,← hAB,e]; rfl)
   refine ⟨.slice A0 n1 c0,.slice P0 (m - 1) cp,?_⟩
   have e1:delRows g.rows k (.slice A0 n1 c0) (A ++ B) = setR g.rows k (.slice A0 n1 c0) (A ++ B):=by unfold delRows; rw [if_neg e0]
   rw [e1]
   refine Own.unfocus (g:=g) ?_
   rw [hXYl,hAB,HN1.out]
   exact H7
end Go.Proofs.YtbnpelciceblfaaGreat
