/- The law TernAgain's helpers: plain, and the document's Same: by walks of their code. -/
import Derived.Test.YtjjgdnaejeejlaaUBits
import Derived.Test.YtjjgdnaejeejlaaRowV
import Derived.StillTailTactics
import Derived.Deep.QuietTactic
namespace Go.Proofs.Ytjjgdnaejeejlaa
set_option linter.unusedVariables false
open Go.ChangeShapes Go.WideShapes Go.ChangeAt Go.RowKit Go.Joins

theorem lies4 (w : World) (u v x z : Value) (t : TypeId) (hu : u.oneCell' = true) (hv : v.oneCell' = true) (hx : x.oneCell' = true) (hz : z.oneCell' = true) :
    (∀ (j : Nat) (y : Value), ([u, v, x, z] : List Value)[j]? = some y → (w.alloc (.cells #[u, v, x, z] t)).cell? ((⟨w.heap.size, 0, none⟩ : Addr).add j) = some y) ∧ (∀ y ∈ ([u, v, x, z] : List Value), y.oneCell' = true) := by
  refine ⟨fun j y hj => ?_, fun y hy => ?_⟩
  · match j, hj with
    | 0, hj => simp at hj; subst hj; simp [Addr.add, go_sem]
    | 1, hj => simp at hj; subst hj; simp [Addr.add, go_sem]
    | 2, hj => simp at hj; subst hj; simp [Addr.add, go_sem]
    | 3, hj => simp at hj; subst hj; simp [Addr.add, go_sem]
    | j + 4, hj => simp at hj
  · simp only [List.mem_cons, List.not_mem_nil, or_false] at hy
    rcases hy with rfl | rfl | rfl | rfl <;> assumption
theorem cellsI_append (a b : List ItN) : cellsI (a ++ b) = cellsI a ++ cellsI b := List.flatMap_append
theorem cellsI_take : ∀ (l : List ItN) (k : Nat), (cellsI l).take (k * 4) = cellsI (l.take k)
  | l, 0 => by simp [cellsI]
  | [], k + 1 => by simp [cellsI]
  | x :: l, k + 1 => by
    rw [cellsI_cons, List.take_succ_cons, cellsI_cons, show (k + 1) * 4 = k * 4 + 1 + 1 + 1 + 1 by omega]
    simp only [List.take_succ_cons]
    rw [cellsI_take l k]
theorem cellsI_drop : ∀ (l : List ItN) (k : Nat), (cellsI l).drop (k * 4) = cellsI (l.drop k)
  | l, 0 => by simp
  | [], k + 1 => by simp [cellsI]
  | x :: l, k + 1 => by
    rw [cellsI_cons, List.drop_succ_cons, show (k + 1) * 4 = k * 4 + 1 + 1 + 1 + 1 by omega]
    simp only [List.drop_succ_cons]
    exact cellsI_drop l k
abbrev rowJ (v : Value) (n : Nat) (l : List ItN) : Thing := rowT 23 4 v n (cellsI l)
theorem infoJ12 : (Try.prog.info? 23).map (fun i => (i.zero, i.size, i.bytes)) = some (some (.agg #[.string ⟨#[]⟩, .string ⟨#[]⟩, .int .i64 0, .int .i64 0]), 4, 48) := by kernel_rfl
theorem takeL_next {L : List ItN} {j : Nat} {x : ItN} (h : L[j]? = some x) : L.take (j + 1) = L.take j ++ [x] := by
  obtain ⟨hk, rfl⟩ := List.getElem?_eq_some_iff.1 h
  rw [List.take_succ_eq_append_getElem hk]
theorem set4_keep {cur : List Value} {j : Nat} {a b c d : Value} {q : Nat} (hq : (j + 1) * 4 ≤ q) : ((((cur.set (j * 4) a).set (j * 4 + 1) b).set (j * 4 + 2) c).set (j * 4 + 3) d)[q]? = cur[q]? := by
  rw [List.getElem?_set, if_neg (by omega), List.getElem?_set, if_neg (by omega), List.getElem?_set, if_neg (by omega), List.getElem?_set, if_neg (by omega)]
set_option maxRecDepth 20000 in
set_option maxHeartbeats 4000000 in
theorem uplain_c {V w : World} {R : List Thing} {A : Option Addr} {n c : Nat} {L : List ItN} (H : Own V w (rowI (.slice A n c) n L :: R)) (hn : L.length = n) (hl : n < 100000) :
    Calls Try.prog 25 #[.slice A n c] w fun e w' => ∃ B c', e = .returned (.slice B n c') ∧ Own V w' (rowJ (.slice B n c') n L :: R) := by
  obtain ⟨i0, hi, hz0, hz1, hz2⟩ := info_parts infoJ12
  have HN := Lib.hid hn
  by_cases z : n = 0
  · subst z
    have HH : Own V w (rowJ (.slice none 0 0) 0 [] :: R) := H.drop.row (Wider.refl _) (World.ownsRow_nil _ _ 23 4)
    obtain rfl : L = [] := List.eq_nil_of_length_eq_zero hn
    clear H hn HN
    go_enter Try.func25, Try.ntmps25
    go_wp2
    refine wp_loop_rounds 1 ?_
    rw [rounds_succ]
    go_wp2
    go_ret
    exact ⟨_, _, rfl, HH⟩
  · obtain ⟨g, cur, rfl, h1, h2, h3, h4, H1⟩ := H.rowOpen (by omega)
    have H2 : Own V w (rowJ (.slice none 0 0) 0 (L.take 0) :: blkT g cur.toArray 26 :: R) := H1.row (Wider.refl _) (World.ownsRow_nil _ _ 23 4)
    have HC := Lib.hid (show ∀ (j : Nat) (x : ItN), L[j]? = some x → cur[j * 4]? = some (.string x.key) ∧ cur[j * 4 + 1]? = some (.string x.mask) ∧ cur[j * 4 + 2]? = some (.int .i64 x.prio) ∧ cur[j * 4 + 3]? = some (.int .i64 x.v) from fun j x hx => by
      obtain ⟨a0, a1, a2, a3⟩ := cellsI_at L j x hx
      rw [← h4] at a0 a1 a2 a3
      rw [List.getElem?_take] at a0 a1 a2 a3
      have hj := (List.getElem?_eq_some_iff.1 hx).1
      rw [if_pos (by omega)] at a0 a1 a2 a3
      exact ⟨a0, a1, a2, a3⟩)
    clear H H1 hn h1 h2 h3 h4
    go_enter Try.func25, Try.ntmps25
    go_wp2
    go_loopw [3, 4] (fun a b wr => ∃ (j : Nat) (v : Value) (cu : List Value), j ≤ n ∧ a = v ∧ b = .int .i64 (j : Int) ∧ Hid (∀ q, j * 4 ≤ q → cu[q]? = cur[q]?) ∧ Own V wr (rowJ v j (L.take j) :: blkT g cu.toArray 26 :: R)) (fun _ b _ => n - (intOf b).toNat)
    case atStart => exact ⟨0, _, cur, Nat.zero_le _, rfl, rfl, Lib.hid fun _ _ => rfl, H2⟩
    case round =>
      clear H2
      obtain ⟨j, v, cu, hj, rfl, rfl, HQ, H⟩ := hrel
      have j0 : (0 : Int) ≤ (j : Int) := by omega
      by_cases d : j < n
      · have j1 : (j : Int) < (n : Int) := by omega
        obtain ⟨x, hx⟩ : ∃ x, L[j]? = some x := ⟨L[j]'(by rw [HN.out]; exact d), List.getElem?_eq_getElem _⟩
        obtain ⟨c0, c1, c2, c3⟩ := HC.out j x hx
        rw [← HQ.out _ (by omega)] at c0 c1 c2 c3
        have HNX := Lib.hid (takeL_next hx)
        obtain ⟨k0, m0, p0, v0⟩ := x
        have c0 : cu[j * 4]? = some (.string k0) := c0
        have c1 : cu[j * 4 + 1]? = some (.string m0) := c1
        have c2 : cu[j * 4 + 2]? = some (.int .i64 p0) := c2
        have c3 : cu[j * 4 + 3]? = some (.int .i64 v0) := c3
        have hb := H.second
        have x0 := blk_cell hb (j * 4) (v := .string k0) (by rw [List.getElem?_toArray]; exact c0)
        have x1 := blk_cell hb (j * 4 + 1) (v := .string m0) (by rw [List.getElem?_toArray]; exact c1)
        have x2 := blk_cell hb (j * 4 + 2) (v := .int .i64 p0) (by rw [List.getElem?_toArray]; exact c2)
        have x3 := blk_cell hb (j * 4 + 3) (v := .int .i64 v0) (by rw [List.getElem?_toArray]; exact c3)
        have HCU := Lib.hid (show cu[j * 4]? = some (.string k0) ∧ cu[j * 4 + 1]? = some (.string m0) ∧ cu[j * 4 + 2]? = some (.int .i64 p0) ∧ cu[j * 4 + 3]? = some (.int .i64 v0) from ⟨c0, c1, c2, c3⟩)
        have SIDE := Lib.hid (lies4 wr (.string k0) (.string m0) (.int .i64 p0) (.int .i64 v0) 23 rfl rfl rfl rfl)
        have HA := Lib.hid (H.quiet ((Wider.refl wr).alloc (.cells #[.string k0, .string m0, .int .i64 p0, .int .i64 v0] 23)))
        have S3 : Hid (j + 1 ≤ maxLen) := Lib.hid (by unfold maxLen; omega)
        have S4 : Hid ((j + 1) * 48 ≤ 140737488355328) := Lib.hid (by omega)
        have SN : Hid (cellsI (L.take j) ++ [.string k0, .string m0, .int .i64 p0, .int .i64 v0] = cellsI (L.take (j + 1))) := Lib.hid (by rw [HNX.out, cellsI_append]; rfl)
        clear c0 c1 c2 c3 hx hb H
        go_wp2_with (first
          | (at_builtin; refine wpList_append_thing rfl (.tmp 11) (.tmp 16) 48 rfl 23 i0 (.agg #[.string ⟨#[]⟩, .string ⟨#[]⟩, .int .i64 0, .int .i64 0]) 4 48 Try.underlying48 hi hz0 hz1 hz2 rfl (by decide) u3 j (cellsI (L.take j)) rfl HA.out (some ⟨wr.heap.size, 0, none⟩) 1 1 [.string k0, .string m0, .int .i64 p0, .int .i64 v0] rfl rfl (fun e => by cases e) (fun a e => by cases e; exact SIDE.out.1) SIDE.out.2 S3.out S4.out rfl SN.out ?_; intro B3 c3 w5 H5; have y0 := blk_cell H5.second (j * 4) (v := .string k0) (by rw [List.getElem?_toArray]; exact HCU.out.1); have y1 := blk_cell H5.second (j * 4 + 1) (v := .string m0) (by rw [List.getElem?_toArray]; exact HCU.out.2.1); have y2 := blk_cell H5.second (j * 4 + 2) (v := .int .i64 p0) (by rw [List.getElem?_toArray]; exact HCU.out.2.2.1); have y3 := blk_cell H5.second (j * 4 + 3) (v := .int .i64 v0) (by rw [List.getElem?_toArray]; exact HCU.out.2.2.2); have f0 := blk_free H5.second (j * 4); have f1 := blk_free H5.second (j * 4 + 1); have f2 := blk_free H5.second (j * 4 + 2); have f3 := blk_free H5.second (j * 4 + 3)))
        have H6 := ((((H5.swap.store (j * 4) (.string ⟨#[115, 112, 111, 105, 108, 116]⟩)).store (j * 4 + 1) (.string ⟨#[]⟩)).store (j * 4 + 2) (.int .i64 0)).store (j * 4 + 3) (.int .i64 0)).swap
        simp only [List.setIfInBounds_toArray] at H6
        have H7 := Lib.hid H6
        clear H6
        go_roundw
        case rel => exact ⟨j + 1, _, _, by omega, rfl, by go_num, Lib.hid (fun q hq => (set4_keep hq).trans (HQ.out q (by omega))), H7.out⟩
        case measure => simp [intOf]; omega
      · obtain rfl : j = n := by omega
        have j1 : ¬ (j : Int) < (j : Int) := by omega
        have HT : Hid (L.take j = L) := Lib.hid (List.take_of_length_le (by rw [HN.out]; exact Nat.le_refl _))
        obtain ⟨B, c', rfl⟩ := ownsRow_shape H.head
        rw [HT.out] at H
        go_wp2
        go_ret
        exact ⟨_, _, rfl, H.swap.drop⟩
set_option maxRecDepth 20000 in
set_option maxHeartbeats 4000000 in
theorem usame_c {V w : World} {Ls : List Thing} {A B : Option Addr} {n c d : Nat} {L : List ItN} (H : Own V w Ls) (ha : rowJ (.slice A n c) n L ∈ Ls) (hb : rowJ (.slice B n d) n L ∈ Ls) (hn : L.length = n) (hl : n < 100000) :
    Calls Try.prog 24 #[.slice A n c, .slice B n d] w fun e w' => e = .returned (.bool true) ∧ Own V w' Ls := by
  have HN := Lib.hid hn
  have HA := Lib.hid ha
  have HB := Lib.hid hb
  have e0 : ((n : Int) != (n : Int)) = false := by simp
  clear hn ha hb
  go_enter Try.func24, Try.ntmps24
  go_wp2
  go_loopw [5] (fun b wr => ∃ j : Nat, j ≤ n ∧ b = .int .i64 (j : Int) ∧ Own V wr Ls) (fun b _ => n - (intOf b).toNat)
  case atStart => exact ⟨0, Nat.zero_le _, rfl, H⟩
  case round =>
    clear H
    obtain ⟨j, hj, rfl, H⟩ := hrel
    have j0 : (0 : Int) ≤ (j : Int) := by omega
    by_cases d1 : j < n
    · have j1 : (j : Int) < (n : Int) := by omega
      obtain ⟨x, hx⟩ : ∃ x, L[j]? = some x := ⟨L[j]'(by rw [HN.out]; exact d1), List.getElem?_eq_getElem _⟩
      obtain ⟨A1, c3, e, hc⟩ := row_slice (H.holds _ HA.out) (by omega)
      injection e with e1 e2 e3
      subst e1 e3
      obtain ⟨B1, c4, e, hd⟩ := row_slice (H.holds _ HB.out) (by omega)
      injection e with e1 e2 e3
      subst e1 e3
      obtain ⟨a0, a1, a2, a3⟩ := cellsI_at L j x hx
      obtain ⟨k0, m0, p0, v0⟩ := x
      have x0 := hc _ _ a0
      have x1 := hc _ _ a1
      have x2 := hc _ _ a2
      have x3 := hc _ _ a3
      have y0 := hd _ _ a0
      have y1 := hd _ _ a1
      have y2 := hd _ _ a2
      have y3 := hd _ _ a3
      clear a0 a1 a2 a3 hc hd hx
      go_upto_region 6 with (fail)
      go_quiet (fail)
      have H2 := H.quiet ((Wider.refl wr).drewN nq)
      clear H x0 x1 x2 x3 y0 y1 y2 y3
      go_wp2
      go_roundw
      case rel => exact ⟨j + 1, by omega, by go_num, H2⟩
      case measure => simp [intOf]; omega
    · obtain rfl : j = n := by omega
      have j1 : ¬ (j : Int) < (j : Int) := by omega
      go_wp2
      go_ret
      exact ⟨rfl, H⟩

end Go.Proofs.Ytjjgdnaejeejlaa
