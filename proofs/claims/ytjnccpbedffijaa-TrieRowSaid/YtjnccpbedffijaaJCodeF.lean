/- Package trie: All, twin, Copy: by walks of its code. -/
import Derived.Test.YtjnccpbedffijaaJCodeE
namespace Go.Proofs.Ytjnccpbedffijaa
set_option linter.unusedVariables false
open Go.ChangeShapes Go.WideShapes Go.ChangeAt Go.RowKit Go.Joins

theorem jall_c {A : Nat} {t : Tr} {T : TB} (ht : IsTrie A t T) (hcn : t.count < 1000000) {V w : World} {R : List Thing} (h : T.At w) (H : Own V w R) :
    Calls Try.prog 14 #[.pointer (some ⟨A, 0, none⟩)] w fun e w' => ∃ A' n' c', e = .returned (.slice A' n' c') ∧ t.count = n' ∧ (t.all []).length = n' ∧ Own V w' (rowI (.slice A' n' c') n' (t.all []) :: R) := by
  have e1 : T.tr.all [] = t.all [] := Tr.all_same T.tr t [] ht.get
  have e2 : T.tr.count = t.count := Tr.count_same T.tr t ht.get
  have zl := jlist_c T (by obtain ⟨v, l, r, rfl⟩ := ht.root; simp) [] 257 (V := w) (w := w) (R := []) [] none 0 0 h ht.lim (by simp) rfl (by omega) ((Own.nil (Wider.refl w)).row0 _ _) 0 rfl
  rw [List.nil_append, e1, ht.ptr, ← (isKey_nil).eq] at zl
  have HL : Hid ((t.all []).length = t.count) := Lib.hid (Tr.all_length t [])
  clear h ht hcn e1 e2
  go_enter Try.func14, Try.ntmps14
  go_wp2_with (first
    | (go_at_call 29; ((with_reducible refine zl.mono ?_); rintro e w4 ⟨A3, n3, c3, rfl, hl3, H3⟩; have HL3 := Lib.hid hl3; clear hl3)))
  go_ret
  exact ⟨A3, n3, c3, rfl, HL.out.symm.trans HL3.out, HL3.out, H.beside H3⟩
theorem jall_nil {V w : World} {R : List Thing} (H : Own V w R) : Calls Try.prog 14 #[.pointer none] w fun e w' => e = .returned (.slice none 0 0) ∧ Wider w w' := by
  go_enter Try.func14, Try.ntmps14
  go_wp2
  go_ret
  exact ⟨rfl, Wider.refl w⟩

/-! ### twin, Copy -/
theorem twin_nil {w : World} : Calls Try.prog 30 #[.pointer none] w fun e w' => e = .returned (.pointer none) ∧ Wider w w' := by
  go_enter Try.func30, Try.ntmps30
  go_wp2
  go_ret
  exact ⟨rfl, Wider.refl w⟩
/-- What twin does from a node on. -/
def TwinsJ (s : TB) : Prop := ∀ (V w : World) (R : List Thing), s.At V → Own V w R → Calls Try.prog 30 #[s.ptr] w fun e w' => ∃ s' q, e = .returned (.pointer q) ∧ Own V w' (treeT s' :: R) ∧ s'.ptr = .pointer q ∧ s'.tr = s.tr
set_option maxRecDepth 20000 in
set_option maxHeartbeats 4000000 in
theorem jtwin_c : ∀ s : TB, TwinsJ s
  | .nil => fun V w R _ H => twin_nil.mono fun e w' ⟨he, g⟩ => ⟨.nil, none, he, (H.quiet g).noTree, rfl, rfl⟩
  | .node B cn v l r => by
    have il := Lib.hid (jtwin_c l)
    have ir := Lib.hid (jtwin_c r)
    intro V w R hat H
    have e0 : (TB.node B cn v l r).ptr = .pointer (some ⟨B, 0, none⟩) := rfl
    rw [e0]
    have hB := (wheap H.wider ((Array.getElem?_eq_some_iff.1 hat.1).1)).trans hat.1
    have c2 := blk_cell hB 2 (cellsJ_2 cn v l.ptr r.ptr)
    have c3 := blk_cell hB 3 (cellsJ_3 cn v l.ptr r.ptr)
    obtain ⟨pl, hpl⟩ : ∃ pl, l.ptr = pl := ⟨_, rfl⟩
    obtain ⟨pr, hpr⟩ : ∃ pr, r.ptr = pr := ⟨_, rfl⟩
    have HL := Lib.hid hat.2.1
    have HR := Lib.hid hat.2.2
    have HLT := Lib.hid (Array.getElem?_eq_some_iff.1 hat.1).1
    have HBB := Lib.hid hat.1
    have HPL := Lib.hid hpl
    have HPR := Lib.hid hpr
    obtain ⟨x, hx⟩ : ∃ x, v.getD 0 = x := ⟨_, rfl⟩
    obtain ⟨b, hb⟩ : ∃ b, v.isSome = b := ⟨_, rfl⟩
    rw [hx] at c2
    rw [hb] at c3
    have H0 : Own V (w.alloc (.cells #[.pointer none, .pointer none, .int .i64 x, .bool b] 27)).drew (nodeT w.heap.size none v (.pointer none) (.pointer none) :: treeT .nil :: treeT .nil :: R) := by
      have q := ((H.blk (cellsJ none v (.pointer none) (.pointer none)) 27).noTree.noTree.third).quiet (Wider.refl _).drew
      have e : cellsJ none v (.pointer none) (.pointer none) = #[.pointer none, .pointer none, .int .i64 x, .bool b] := by rw [← hx, ← hb]; rfl
      have q : Own V (w.alloc (.cells (cellsJ none v (.pointer none) (.pointer none)) 27)).drew (nodeT w.heap.size none v (.pointer none) (.pointer none) :: treeT .nil :: treeT .nil :: R) := q
      rw [e] at q
      exact q
    obtain ⟨W, hW⟩ : ∃ W, (w.alloc (.cells #[.pointer none, .pointer none, .int .i64 x, .bool b] 27)).drew = W := ⟨_, rfl⟩
    obtain ⟨N, hN⟩ : ∃ N, w.heap.size = N := ⟨_, rfl⟩
    rw [hW, hN] at H0
    have hB2 := (wheap H0.wider HLT.out).trans HBB.out
    have d0 := blk_cell hB2 0 (cellsJ_0 cn v l.ptr r.ptr)
    have d1 := blk_cell hB2 1 (cellsJ_1 cn v l.ptr r.ptr)
    rw [hpl] at d0
    rw [hpr] at d1
    have HIN : Hid (nodeT w.heap.size none v (.pointer none) (.pointer none) = nodeT N none v (.pointer none) (.pointer none)) := Lib.hid (by rw [hN])
    clear hat hB hB2 e0 hpl hpr hx hb H HIN
    go_enter Try.func30, Try.ntmps30
    go_upto_region 3 with (fail)
    go_region_law (fail)
    all_goals
      try rw [hW]
      try rw [hN]
      go_wp2
      go_loopw [22] (fun i wr => ∃ (l' r' : TB) (ql qr : Option Addr), Own V wr (nodeT N none v (.pointer ql) (.pointer qr) :: treeT l' :: treeT r' :: R) ∧ l'.ptr = .pointer ql ∧ r'.ptr = .pointer qr ∧ (i = .int .i64 0 ∧ l' = .nil ∧ r' = .nil ∨ i = .int .i64 1 ∧ l'.tr = l.tr ∧ r' = .nil ∨ i = .int .i64 2 ∧ l'.tr = l.tr ∧ r'.tr = r.tr)) (fun i _ => 2 - (intOf i).toNat)
      case atStart => exact ⟨.nil, .nil, none, none, H0, rfl, rfl, .inl ⟨rfl, rfl, rfl⟩⟩
      case round =>
        clear H0 d0 d1
        obtain ⟨l', r', ql, qr, H1, hql, hqr, ⟨rfl, hst⟩ | ⟨rfl, hst⟩ | ⟨rfl, hst⟩⟩ := hrel
        · obtain ⟨hl0, rfl⟩ := hst
          obtain rfl := hl0
          have zi := fun w1 R1 (K : Own V w1 R1) => il.out V w1 R1 HL.out K
          rw [HPL.out] at zi
          have ZI := Lib.hid zi
          have K1 := (H1.swap.drop).quiet (Wider.refl wr).drew
          clear zi H1
          go_upto_region 7 with (first
            | (with_reducible refine wpList_index rfl 25 (.tmp 21) (.tmp 22) rfl (vx := .agg #[pl, pr]) (vi := .int .i64 0) rfl rfl (run_index0 _ _ _) ?_))
          go_region_law (first
            | (go_simp; go_at_call 30; ((with_reducible refine (ZI.out _ _ K1).mono ?_); rintro e w4 ⟨s2, q, rfl, H2, hsp, hst2⟩; have d0 := blk_cell H2.second 0 (cellsJ_0 none v _ _); have f0 := blk_free H2.second 0)))
          all_goals
            have H3 := (H2.swap.store 0 (.pointer q))
            rw [cellsJ_set0] at H3
            have HSP := Lib.hid hsp
            have HST := Lib.hid hst2
            clear d0 f0 H2 hsp hst2
            go_wp2
            go_roundw
            case rel => have hsp := HSP.out; have hst2 := HST.out; exact ⟨s2, .nil, q, qr, H3, hsp, hqr, .inr (.inl ⟨rfl, hst2, rfl⟩)⟩
            case measure => simp [intOf]
        · obtain ⟨hl0, rfl⟩ := hst
          have HTL := Lib.hid hl0
          clear hl0
          have zi := fun w1 R1 (K : Own V w1 R1) => ir.out V w1 R1 HR.out K
          rw [HPR.out] at zi
          have ZI := Lib.hid zi
          have K1 := ((H1.swap2.swap).drop).quiet (Wider.refl wr).drew
          clear zi H1
          go_upto_region 7 with (first
            | (with_reducible refine wpList_index rfl 25 (.tmp 21) (.tmp 22) rfl (vx := .agg #[pl, pr]) (vi := .int .i64 1) rfl rfl (run_index1 _ _ _) ?_))
          go_region_law (first
            | (go_simp; go_at_call 30; ((with_reducible refine (ZI.out _ _ K1).mono ?_); rintro e w4 ⟨s2, q, rfl, H2, hsp, hst2⟩; have d0 := blk_cell H2.second 1 (cellsJ_1 none v _ _); have f0 := blk_free H2.second 1)))
          all_goals
            have H3 := (H2.swap.store 1 (.pointer q)).swap2
            rw [cellsJ_set1] at H3
            have HSP := Lib.hid hsp
            have HST := Lib.hid hst2
            clear d0 f0 H2 hsp hst2
            go_wp2
            go_roundw
            case rel => have hsp := HSP.out; have hst2 := HST.out; exact ⟨l', s2, ql, q, H3, hql, hsp, .inr (.inr ⟨rfl, HTL.out, hst2⟩)⟩
            case measure => simp [intOf]
        · have HTL := Lib.hid hst
          have H2 := H1.treeShut hql hqr
          clear hst H1 hql hqr
          go_wp2
          go_ret
          exact ⟨_, _, rfl, H2, rfl, by show Tr.node v l'.tr r'.tr = Tr.node v l.tr r.tr; rw [HTL.out.1, HTL.out.2]⟩
theorem tr_node {s : TB} {v : Option Int} {l r : Tr} (h : s.tr = .node v l r) : ∃ N c l2 r2, s = .node N c v l2 r2 ∧ l2.tr = l ∧ r2.tr = r := by
  cases s with
  | nil => cases h
  | node N c v2 l2 r2 =>
    have h : Tr.node v2 l2.tr r2.tr = .node v l r := h
    injection h with h1 h2 h3
    subst h1
    exact ⟨N, c, l2, r2, rfl, h2, h3⟩
theorem ptr_is (s : TB) : ∃ q, s.ptr = .pointer q := by cases s <;> exact ⟨_, rfl⟩
/-- What Copy's call of twin leaves: the new root's cells. -/
theorem twin_root {V w : World} {R : List Thing} {s : TB} {q : Option Addr} {A : Nat} {c' : Option Int} {v : Option Int} {l r : TB} (H : Own V w (treeT s :: R)) (hq : s.ptr = .pointer q) (ht : s.tr = (TB.node A c' v l r).tr) :
    ∃ (N : Nat) (ql qr : Option Addr) (l2 r2 : TB), q = some ⟨N, 0, none⟩ ∧ w.cell? ⟨N, 0, none⟩ = some (.pointer ql) ∧ w.cell? ⟨N, 1, none⟩ = some (.pointer qr) ∧ w.cell? ⟨N, 2, none⟩ = some (.int .i64 (v.getD 0)) ∧ w.cell? ⟨N, 3, none⟩ = some (.bool v.isSome) ∧
      Hid (Own V w (treeT l2 :: treeT r2 :: R)) ∧ Hid (l2.ptr = .pointer ql ∧ r2.ptr = .pointer qr ∧ l2.tr = l.tr ∧ r2.tr = r.tr) := by
  obtain ⟨N, c2, l2, r2, rfl, e1, e2⟩ := tr_node ht
  obtain ⟨ql, hql⟩ := ptr_is l2
  obtain ⟨qr, hqr⟩ := ptr_is r2
  have hq : Value.pointer (some ⟨N, 0, none⟩) = .pointer q := hq
  injection hq with hq
  have H1 := H.treeOpen
  have b := H1.head
  refine ⟨N, ql, qr, l2, r2, hq.symm, ?_, ?_, blk_cell b 2 (cellsJ_2 _ _ _ _), blk_cell b 3 (cellsJ_3 _ _ _ _), Lib.hid H1.drop, Lib.hid ⟨hql, hqr, e1, e2⟩⟩
  · rw [← hql]; exact blk_cell b 0 (cellsJ_0 _ _ _ _)
  · rw [← hqr]; exact blk_cell b 1 (cellsJ_1 _ _ _ _)
theorem copy_done {A B : Nat} {t : Tr} {v : Option Int} {l r l2 r2 : TB} {c : Int} (ht : IsTrie A t (.node A (some c) v l r)) (hc : (t.count : Int) = c) (e1 : l2.tr = l.tr) (e2 : r2.tr = r.tr) : IsTrie B t (.node B (some c) v l2 r2) := by
  have e : (TB.node B (some c) v l2 r2).tr = (TB.node A (some c) v l r).tr := by show Tr.node v l2.tr r2.tr = Tr.node v l.tr r.tr; rw [e1, e2]
  exact ⟨⟨v, l2, r2, by rw [hc]⟩, fun bs => by rw [e]; exact ht.get bs, by rw [e]; exact ht.lim⟩
set_option maxHeartbeats 4000000 in
theorem jcopy_c {A : Nat} {t : Tr} {T : TB} (ht : IsTrie A t T) {V w : World} {R : List Thing} (h : T.At V) (H : Own V w R) :
    Calls Try.prog 15 #[.pointer (some ⟨A, 0, none⟩)] w fun e w' => ∃ B T', e = .returned (.pointer (some ⟨B, 0, none⟩)) ∧ IsTrie B t T' ∧ Own V w' (treeT T' :: R) := by
  obtain ⟨v, l, r, eT⟩ := ht.root
  obtain ⟨c, hc⟩ : ∃ c : Int, (t.count : Int) = c := ⟨_, rfl⟩
  rw [hc] at eT
  subst eT
  have zt := fun w1 (K : Own V w1 R) => jtwin_c _ V w1 R h K
  have e0 : (TB.node A (some c) v l r).ptr = .pointer (some ⟨A, 0, none⟩) := rfl
  rw [e0] at zt
  have ZT := Lib.hid zt
  have HV := Lib.hid h.1
  have HLT := Lib.hid (Array.getElem?_eq_some_iff.1 h.1).1
  have HT := Lib.hid ht
  have HC := Lib.hid hc
  have c4 := blk_cell ((wheap H.wider HLT.out).trans HV.out) 4 (cellsJ_4 c v l.ptr r.ptr)
  obtain ⟨x, hx⟩ : ∃ x, v.getD 0 = x := ⟨_, rfl⟩
  obtain ⟨b, hb⟩ : ∃ b, v.isSome = b := ⟨_, rfl⟩
  have HXB : Hid (∀ p q : Value, cellsJ (some c) v p q = #[p, q, .int .i64 x, .bool b, .int .i64 c]) := Lib.hid fun p q => by rw [← hx, ← hb]; rfl
  have HX := Lib.hid hx
  have HB := Lib.hid hb
  have K1 := H.quiet (Wider.refl w).drew
  clear zt h ht H hc e0 hx hb
  go_enter Try.func15, Try.ntmps15
  go_upto_region 3 with (fail)
  go_region_law (first
    | (go_simp; go_at_call 30; ((with_reducible refine (ZT.out _ K1).mono ?_); rintro e w4 ⟨s2, q, rfl, H2, hsp, hst2⟩; (have d4 := blk_cell ((wheap H2.wider HLT.out).trans HV.out) 4 (cellsJ_4 c v l.ptr r.ptr)); obtain ⟨N, ql, qr, l2, r2, rfl, d0, d1, d2, d3, H3, H4⟩ := twin_root H2 hsp hst2; (rw [HX.out] at d2); (rw [HB.out] at d3); clear H2 hsp hst2)))
  all_goals
    have H5 := (H3.out.blk (cellsJ (some c) v (.pointer ql) (.pointer qr)) 29).treeShut (c := some c) (v := v) H4.out.1 H4.out.2.1
    rw [HXB.out] at H5
    go_wp2
    go_ret
    exact ⟨_, _, rfl, copy_done HT.out HC.out H4.out.2.2.1 H4.out.2.2.2, H5⟩
theorem jcopy_nil {w : World} : Calls Try.prog 15 #[.pointer none] w fun e w' => e = .returned (.pointer none) ∧ Wider w w' := by
  go_enter Try.func15, Try.ntmps15
  go_wp2
  go_ret
  exact ⟨rfl, Wider.refl w⟩
end Go.Proofs.Ytjnccpbedffijaa
