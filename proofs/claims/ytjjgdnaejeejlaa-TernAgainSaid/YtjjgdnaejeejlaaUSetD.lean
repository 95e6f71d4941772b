/- Package tern: a group is put into a set: by a walk of its code. -/
import Derived.Test.YtjjgdnaejeejlaaUSetC
namespace Go.Proofs.Ytjjgdnaejeejlaa
set_option linter.unusedVariables false
open Go.ChangeShapes Go.WideShapes Go.ChangeAt Go.RowKit Go.Joins Go.Maps Go.ChangeMaps

set_option maxRecDepth 20000 in
set_option maxHeartbeats 4000000 in
theorem uenter_some {V w : World} {R : List Thing} {S M items last : Nat} {ov : Value} {gs : List GrpN} {g : GrpN} (H : Own V w ((⟨S, some M, ov, gs, items, last⟩ : SetN).things ++ (g.things ++ R))) (hO : OrdS gs) (hk : ∀ x ∈ gs, x.mask ≠ g.mask) (hf : ∀ y ∈ gs, FewG y) (fg : FewG g) (hn : gs.length < 999999) (hm : g.mask.size < 1000000)
    {A B : List GrpN} (e : gs = A ++ B) (hA : ∀ x ∈ A, aheadN x g < 0) (hB : ∀ x ∈ B, ¬ aheadN x g < 0) :
    Calls Try.prog 31 #[ptrU S, ptrU g.b] w fun e w' => ∃ M u, e = .returned (.tuple #[]) ∧ Own V w' ((⟨S, some M, u, A ++ g :: B, items, last⟩ : SetN).things ++ R) := by
  have H : Own V w (blkS S (some M) ov items last :: ordT ov gs :: gmT (some M) (entG gs) :: (grpsT gs ++ (g.things ++ R))) := H
  obtain ⟨n, hn1⟩ : ∃ n, gs.length = n := ⟨_, rfl⟩
  rw [hn1] at hn
  obtain ⟨i, hi⟩ : ∃ i, A.length = i := ⟨_, rfl⟩
  have hin : i ≤ n := by rw [← hi, ← hn1, e]; simp
  have hp2 : (putE (entG gs) g.mask (ptrU g.b)).Perm (entG (A ++ g :: B)) := by rw [e]; exact entG_put (by rw [← e]; exact hk)
  have HO : w.ownsRow 0 58 1 ov n (ptrsU gs) := by have q := H.second; unfold ordT at q; rw [hn1] at q; exact q
  obtain ⟨O0, c1, rfl⟩ := ownsRow_shape HO
  have zb := fun {R' : List Thing} {E : EntU} (W : World) (HW : Own V W (mapT M E :: blkS S (some M) (.slice O0 n c1) items last :: rowT 58 1 (.slice O0 n c1) n (ptrsU gs) :: (grpsT gs ++ (g.things ++ R')))) =>
    usearchG_c (t := g) HW.drop.second hn1 (by omega) (fun y hy => ⟨grps_at (fun t ht => HW.holds t (.tail _ (.tail _ (.tail _ (List.mem_append_left _ ht))))) hy, (hf y hy).pr0, (hf y hy).pr1⟩) ⟨grp_of (fun t ht => HW.holds t (.tail _ (.tail _ (.tail _ (List.mem_append_right _ (List.mem_append_left _ ht)))))), fg.pr0, fg.pr1⟩ e hA hB
  rw [hi] at zb
  have zi := fun {R' : List Thing} {b : Nat} (W : World) (HW : Own V W (rowT 58 1 (.slice O0 n c1) n (ptrsU gs) :: blkT b [ptrU g.b].toArray 58 :: R')) => uinsG_1 HW rfl (ptrsU_one gs) (by intro u hu; simp at hu; subst hu; rfl) hin (by omega)
  have ecl : (ptrsU gs).take i ++ [ptrU g.b] ++ (ptrsU gs).drop i = ptrsU (A ++ g :: B) := by
    unfold ptrsU
    rw [e, ← hi, List.map_append, List.map_append, List.map_cons, List.take_left' (by simp), List.drop_left' (by simp)]
    simp
  simp only [ecl] at zi
  have hAB : (A ++ g :: B).length = n + 1 := by
    have := congrArg List.length e
    rw [hn1, List.length_append] at this
    rw [List.length_append, List.length_cons]; omega
  have HR := Lib.hid (And.intro hAB (And.intro e hp2))
  have hel : (entG gs).length < 1000000 := by unfold entG; rw [List.length_map, hn1]; omega
  have HM := Lib.hid (And.intro hm hel)
  have ib : i ≤ 999999 := by omega
  obtain ⟨gb, hgb⟩ : ∃ gb, g.b = gb := ⟨_, rfl⟩
  obtain ⟨mask, hmk⟩ : ∃ mask, g.mask = mask := ⟨_, rfl⟩
  have cg := blk_cell (H.holds (blkG g) (.tail _ (.tail _ (.tail _ (List.mem_append_right _ (List.mem_append_left _ (.head _))))))) 0 (v := .string g.mask) rfl
  have c0 := blk_cell H.head 0 (v := .map (some M)) rfl
  obtain ⟨H1, _⟩ : Own V w (mapT M (entG gs) :: blkS S (some M) (.slice O0 n c1) items last :: rowT 58 1 (.slice O0 n c1) n (ptrsU gs) :: (grpsT gs ++ (g.things ++ R))) ∧ True := ⟨by have q := H.third; unfold ordT at q; rw [hn1] at q; exact q, trivial⟩
  rw [hgb] at zb zi cg ⊢
  rw [hmk] at cg HM
  have HMK := Lib.hid (And.intro hmk hgb)
  unfold ptrU at zb zi
  clear H hO hk hf fg hm hn1 HO hi hp2 hA hB ecl hAB hel e hgb hmk
  show Calls Try.prog 31 #[.pointer (some ⟨S, 0, none⟩), .pointer (some ⟨gb, 0, none⟩)] w _
  have heq := fun w => run_eql_map_nil (P := Try.prog) w 54 9 58 (some M) Try.underlying54
  go_enter Try.func31, Try.ntmps31
  go_upto_region 2 with (fail)

  go_still_tail 9, (by kernel_rfl)
  change wpList _ _ _ _ _ (World.drew _)
  have H2 := H1.quiet (Wider.refl _).drew
  clear H1 c0 cg
  go_wp2_with (first
    | (at_mapUpdate; refine wpList_store_u _ rfl (.tmp 18) (.tmp 22) (.tmp 23) 54 58 rfl Try.underlying54 H2 HM.out.2 HM.out.1 (.pointer (some ⟨gb, 0, none⟩)) rfl rfl rfl ?_; intro w1 H3a; rw [← HMK.out.1, ← HMK.out.2] at H3a; have H3 := H3a.map_perm HR.out.2.2; have d1 := blk_cell H3.second 1 (v := .slice O0 n c1) rfl; clear H2 H3a)
    | (go_at_call 40; ((with_reducible refine (zb _ H3).mono ?_); rintro e w2 ⟨⟨bb, rfl⟩, g2⟩; have H4 := (((H3.quiet g2).third).blk [Value.pointer (some ⟨gb, 0, none⟩)].toArray 58).swap; have d2 := wkeep g2 d1; clear zb H3 d1 g2))
    | (go_at_call 47; ((with_reducible refine (zi _ H4).mono ?_); rintro e w3 ⟨B2, c3, rfl, H5⟩; have H6 := H5.third; have d3 := blk_cell H6.head 1 (v := .slice O0 n c1) rfl; have f3 := blk_free H6.head 1; have H7 := H6.store 1 (.slice B2 (n + 1) c3); clear zi H4 H5 H6 d2)))
  simp [bodyPost, results, Try.results31, go_sem]
  refine ⟨M, .slice B2 (n + 1) c3, ?_⟩
  obtain ⟨hAB, e, _⟩ := HR.out
  have H8 : Own V (w3.setCell ⟨S, 1, none⟩ (.slice B2 (n + 1) c3)) (blkS S (some M) (.slice B2 (n + 1) c3) items last :: rowT 58 1 (.slice B2 (n + 1) c3) (n + 1) (ptrsU (A ++ g :: B)) :: mapT M (entG (A ++ g :: B)) :: (grpsT gs ++ (g.things ++ R))) := H7
  rw [← hAB] at H8 ⊢
  refine H8.perm (((List.Perm.cons _ (List.Perm.cons _ (List.Perm.cons _ ?_)))))
  rw [e]
  refine (perm_mid _ _ _).trans ?_
  rw [← List.append_assoc]
  exact (grpsT_mid A B g).symm.append_right R

set_option maxRecDepth 20000 in
set_option maxHeartbeats 4000000 in
theorem uenter_none {V w : World} {R : List Thing} {S items last : Nat} {ov : Value} {gs : List GrpN} {g : GrpN} (H : Own V w ((⟨S, none, ov, gs, items, last⟩ : SetN).things ++ (g.things ++ R))) (hO : OrdS gs) (hk : ∀ x ∈ gs, x.mask ≠ g.mask) (hf : ∀ y ∈ gs, FewG y) (fg : FewG g) (hn : gs.length < 999999) (hm : g.mask.size < 1000000)
    {A B : List GrpN} (e : gs = A ++ B) (hA : ∀ x ∈ A, aheadN x g < 0) (hB : ∀ x ∈ B, ¬ aheadN x g < 0) (hnil : gs = []) :
    Calls Try.prog 31 #[ptrU S, ptrU g.b] w fun e w' => ∃ M u, e = .returned (.tuple #[]) ∧ Own V w' ((⟨S, some M, u, A ++ g :: B, items, last⟩ : SetN).things ++ R) := by
  have H : Own V w (blkS S (none) ov items last :: ordT ov gs :: gmT (none) (entG gs) :: (grpsT gs ++ (g.things ++ R))) := H
  obtain ⟨M, hM⟩ : ∃ M, w.heap.size = M := ⟨_, rfl⟩
  obtain ⟨n, hn1⟩ : ∃ n, gs.length = n := ⟨_, rfl⟩
  rw [hn1] at hn
  obtain ⟨i, hi⟩ : ∃ i, A.length = i := ⟨_, rfl⟩
  have hin : i ≤ n := by rw [← hi, ← hn1, e]; simp
  have hp2 : (putE (entG gs) g.mask (ptrU g.b)).Perm (entG (A ++ g :: B)) := by rw [e]; exact entG_put (by rw [← e]; exact hk)
  have HO : w.ownsRow 0 58 1 ov n (ptrsU gs) := by have q := H.second; unfold ordT at q; rw [hn1] at q; exact q
  obtain ⟨O0, c1, rfl⟩ := ownsRow_shape HO
  have zb := fun {R' : List Thing} {E : EntU} (W : World) (HW : Own V W (mapT M E :: blkS S (some M) (.slice O0 n c1) items last :: rowT 58 1 (.slice O0 n c1) n (ptrsU gs) :: (grpsT gs ++ (g.things ++ R')))) =>
    usearchG_c (t := g) HW.drop.second hn1 (by omega) (fun y hy => ⟨grps_at (fun t ht => HW.holds t (.tail _ (.tail _ (.tail _ (List.mem_append_left _ ht))))) hy, (hf y hy).pr0, (hf y hy).pr1⟩) ⟨grp_of (fun t ht => HW.holds t (.tail _ (.tail _ (.tail _ (List.mem_append_right _ (List.mem_append_left _ ht)))))), fg.pr0, fg.pr1⟩ e hA hB
  rw [hi] at zb
  have zi := fun {R' : List Thing} {b : Nat} (W : World) (HW : Own V W (rowT 58 1 (.slice O0 n c1) n (ptrsU gs) :: blkT b [ptrU g.b].toArray 58 :: R')) => uinsG_1 HW rfl (ptrsU_one gs) (by intro u hu; simp at hu; subst hu; rfl) hin (by omega)
  have ecl : (ptrsU gs).take i ++ [ptrU g.b] ++ (ptrsU gs).drop i = ptrsU (A ++ g :: B) := by
    unfold ptrsU
    rw [e, ← hi, List.map_append, List.map_append, List.map_cons, List.take_left' (by simp), List.drop_left' (by simp)]
    simp
  simp only [ecl] at zi
  have hAB : (A ++ g :: B).length = n + 1 := by
    have := congrArg List.length e
    rw [hn1, List.length_append] at this
    rw [List.length_append, List.length_cons]; omega
  have HR := Lib.hid (And.intro hAB (And.intro e hp2))
  have hel : (entG gs).length < 1000000 := by unfold entG; rw [List.length_map, hn1]; omega
  have HM := Lib.hid (And.intro hm hel)
  have ib : i ≤ 999999 := by omega
  obtain ⟨gb, hgb⟩ : ∃ gb, g.b = gb := ⟨_, rfl⟩
  obtain ⟨mask, hmk⟩ : ∃ mask, g.mask = mask := ⟨_, rfl⟩
  have cg := blk_cell (H.holds (blkG g) (.tail _ (.tail _ (.tail _ (List.mem_append_right _ (List.mem_append_left _ (.head _))))))) 0 (v := .string g.mask) rfl
  have c0 := blk_cell H.head 0 (v := .map none) rfl
  have f0 := blk_free H.head 0
  obtain ⟨H1, _⟩ : Own V ((w.alloc (.map #[] 0)).setCell ⟨S, 0, none⟩ (.map (some M))) (mapT M (entG gs) :: blkS S (some M) (.slice O0 n c1) items last :: rowT 58 1 (.slice O0 n c1) n (ptrsU gs) :: (grpsT gs ++ (g.things ++ R))) ∧ True := by
    have q := H.third.drop
    unfold ordT at q
    rw [hn1] at q
    have q2 := ((q.map_made).swap.store 0 (.map (some M))).swap
    rw [hM] at q2
    rw [hnil]
    exact ⟨by rw [hnil] at q2; exact q2, trivial⟩
  have cg1 := kalloc (o := .map #[] 0) cg
  have c01 := kalloc (o := .map #[] 0) c0
  have f01 : (w.alloc (.map #[] 0)).frozen? ⟨S, 0, none⟩ = false := blk_free (H.quiet ((Wider.refl w).alloc (.map #[] 0))).head 0
  have hmm := @run_makeMap Try.prog
  rw [hgb] at zb zi cg ⊢
  rw [hmk] at cg HM
  have HMK := Lib.hid (And.intro hmk hgb)
  unfold ptrU at zb zi
  clear H hO hk hf fg hm hn1 HO hi hp2 hA hB ecl hAB hel e hgb hmk
  show Calls Try.prog 31 #[.pointer (some ⟨S, 0, none⟩), .pointer (some ⟨gb, 0, none⟩)] w _
  have heq := fun w => run_eql_map_nil (P := Try.prog) w 54 9 58 none Try.underlying54
  go_enter Try.func31, Try.ntmps31
  go_upto_region 2 with (fail)
  obtain ⟨W0, hW0⟩ : ∃ W0, ((w.alloc (.map #[] 0)).setCell ⟨S, 0, none⟩ (.map (some M))) = W0 := ⟨_, rfl⟩
  rw [hW0] at H1
  try rw [hM]
  try rw [hW0]
  have c0 := blk_cell H1.second 0 (v := .map (some M)) rfl
  have cg := blk_cell (H1.holds (blkG g) (.tail _ (.tail _ (.tail _ (List.mem_append_right _ (List.mem_append_left _ (.head _))))))) 0 (v := .string g.mask) rfl
  rw [HMK.out.1, HMK.out.2] at cg
  clear hW0 hM cg1 c01 f01 f0 hmm
  go_still_tail 9, (by kernel_rfl)
  change wpList _ _ _ _ _ (World.drew _)
  have H2 := H1.quiet (Wider.refl _).drew
  clear H1 c0 cg
  go_wp2_with (first
    | (at_mapUpdate; refine wpList_store_u _ rfl (.tmp 18) (.tmp 22) (.tmp 23) 54 58 rfl Try.underlying54 H2 HM.out.2 HM.out.1 (.pointer (some ⟨gb, 0, none⟩)) rfl rfl rfl ?_; intro w1 H3a; rw [← HMK.out.1, ← HMK.out.2] at H3a; have H3 := H3a.map_perm HR.out.2.2; have d1 := blk_cell H3.second 1 (v := .slice O0 n c1) rfl; clear H2 H3a)
    | (go_at_call 40; ((with_reducible refine (zb _ H3).mono ?_); rintro e w2 ⟨⟨bb, rfl⟩, g2⟩; have H4 := (((H3.quiet g2).third).blk [Value.pointer (some ⟨gb, 0, none⟩)].toArray 58).swap; have d2 := wkeep g2 d1; clear zb H3 d1 g2))
    | (go_at_call 47; ((with_reducible refine (zi _ H4).mono ?_); rintro e w3 ⟨B2, c3, rfl, H5⟩; have H6 := H5.third; have d3 := blk_cell H6.head 1 (v := .slice O0 n c1) rfl; have f3 := blk_free H6.head 1; have H7 := H6.store 1 (.slice B2 (n + 1) c3); clear zi H4 H5 H6 d2)))
  simp [bodyPost, results, Try.results31, go_sem]
  refine ⟨M, .slice B2 (n + 1) c3, ?_⟩
  obtain ⟨hAB, e, _⟩ := HR.out
  have H8 : Own V (w3.setCell ⟨S, 1, none⟩ (.slice B2 (n + 1) c3)) (blkS S (some M) (.slice B2 (n + 1) c3) items last :: rowT 58 1 (.slice B2 (n + 1) c3) (n + 1) (ptrsU (A ++ g :: B)) :: mapT M (entG (A ++ g :: B)) :: (grpsT gs ++ (g.things ++ R))) := H7
  rw [← hAB] at H8 ⊢
  refine H8.perm (((List.Perm.cons _ (List.Perm.cons _ (List.Perm.cons _ ?_)))))
  rw [e]
  refine (perm_mid _ _ _).trans ?_
  rw [← List.append_assoc]
  exact (grpsT_mid A B g).symm.append_right R

end Go.Proofs.Ytjjgdnaejeejlaa
