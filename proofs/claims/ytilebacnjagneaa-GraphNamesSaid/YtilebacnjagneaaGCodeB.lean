/- Package graph: where a node goes on: by walks of its code, and of the document's. -/
import Derived.Test.YtilebacnjagneaaGCodeA
namespace Go.Proofs.Ytilebacnjagneaa
set_option linter.unusedVariables false
open Go.ChangeShapes Go.WideShapes Go.ChangeAt Go.RowKit Go.Joins

def madeG (n : Nat) : Array Value := madeCells (Value.int .i64 0).cells n
theorem madeG_list (n : Nat) : (madeG n).toList = List.replicate n (.int .i64 0) := by
  unfold madeG
  have e : (Value.int IntKind.i64 0).cells = #[Value.int .i64 0] := rfl
  rw [e]
  apply List.ext_getElem?
  intro j
  have m : j % 1 = 0 := by omega
  rw [Array.getElem?_toList]
  by_cases h : j < n
  · simp [madeCells, h, m]
  · rw [Array.getElem?_eq_none (by simp [madeCells]; omega), List.getElem?_eq_none (by simp; omega)]
theorem gmake (k n : Nat) (hk : k ≤ n) (hn : n < 1000000) (w : World) : (Instr.makeSlice 42 (.int .i64 (k : Int)) (.int .i64 (n : Int))).run Try.prog w = .ok (.slice (some ⟨w.heap.size, 0, none⟩) k n) (w.alloc (.cells (madeG n) 3)) := by
  obtain ⟨i0, hi, hz0, hz1, hz2⟩ := info_parts ginfoI
  have h := run_make (P := Try.prog) (w := w) 42 3 i0 (.int .i64 0) Try.underlying42 hi hz0 .i64 .i64 (k : Int) (n : Int) (by omega) (by omega) (by rw [hz2]; omega) (by omega)
  rw [hz1, Int.toNat_natCast, Int.toNat_natCast, Nat.mul_one] at h
  exact h
theorem gmade_row {V w : World} {R : List Thing} (H : Own V w R) (k n : Nat) (hk : k ≤ n) (hn : n < 1000000) : Own V (w.alloc (.cells (madeG n) 3)) (rowT 3 1 (.slice (some ⟨w.heap.size, 0, none⟩) k n) k (intsG (List.replicate k 0)) :: R) := by
  refine H.row ((Wider.refl w).alloc _) ⟨?_, .inr ⟨w.heap.size, n, madeG n, rfl, Nat.le_refl _, ?_, hk, ?_, ?_, ?_⟩⟩
  · rw [intsG_length, List.length_replicate, Nat.mul_one]
  · exact ((Own.nil (Wider.refl w)).blk (madeG n) 3).head
  · unfold maxLen; omega
  · rw [← Array.length_toList, madeG_list, List.length_replicate, Nat.mul_one]
  · rw [madeG_list, Nat.mul_one, List.take_replicate, Nat.min_eq_left hk]
    simp [intsG]
theorem Own.back {V W w : World} {R : List Thing} (h : Own W w R) (g : Wider V W) : Own V w R :=
  ⟨h.holds, fun r m i hi => ⟨Nat.le_trans g.2 (h.new r m i hi).1, (h.new r m i hi).2⟩, h.apart, h.stable, g.trans h.wider⟩
set_option maxRecDepth 20000 in
set_option maxHeartbeats 4000000 in
theorem gsuccO_c {w : World} (x : NodV) {A : Option Addr} {n c : Nat} (hA : ArmsAt w A x.arms) (hn : x.arms.length = n) (hl : n < 100000) :
    Calls Try.prog 32 #[nodA x A n c] w fun e w' => ∃ B c', e = .returned (.slice B (n + 1) c') ∧ Own w w' [rowT 3 1 (.slice B (n + 1) c') (n + 1) (intsG x.goes)] := by
  obtain ⟨id, size, lo, lw, lu, so, sw, arms, oth⟩ := x
  show Calls Try.prog 32 #[.agg #[.int .i64 id, .int .i64 size, .int .i64 lo, .int .i64 lw, .int .i64 lu, .int .i64 so, .int .i64 sw, .slice A n c, .int .i64 oth]] w _
  have hn : arms.length = n := hn
  obtain ⟨-, -, -, -, -, -, -, d7, d8⟩ := NodeB.new w ⟨id, size, lo, lw, lu, so, sw, arms, oth⟩ A n c
  have G := (Wider.refl w).alloc (.cells #[.int .i64 id, .int .i64 size, .int .i64 lo, .int .i64 lw, .int .i64 lu, .int .i64 so, .int .i64 sw, .slice A n c, .int .i64 oth] 28)
  have hA1 : ArmsAt _ A arms := hA.on G
  have e1 : IntKind.i64.wrap ((n : Int) + 1) = (n : Int) + 1 := by simp [IntKind.wrap, IntKind.bits, IntKind.signed]; omega
  have mk : ∀ W : World, (Instr.makeSlice 42 (.int .i64 0) (.int .i64 ((n : Int) + 1))).run Try.prog W = .ok (.slice (some ⟨W.heap.size, 0, none⟩) 0 (n + 1)) (W.alloc (.cells (madeG (n + 1)) 3)) := fun W => gmake 0 (n + 1) (Nat.zero_le _) (by omega) W
  obtain ⟨Wb, hWb⟩ : ∃ W, w.alloc (.cells #[.int .i64 id, .int .i64 size, .int .i64 lo, .int .i64 lw, .int .i64 lu, .int .i64 so, .int .i64 sw, .slice A n c, .int .i64 oth] 28) = W := ⟨_, rfl⟩
  have hz : Wb.heap.size = w.heap.size + 1 := by rw [← hWb]; simp
  have H0 := gmade_row (Own.nil (Wider.refl Wb)) 0 (n + 1) (Nat.zero_le _) (by omega)
  rw [hz] at H0
  have d7' := wkeep H0.wider (hWb ▸ d7)
  have d8' := wkeep H0.wider (hWb ▸ d8)
  rw [hWb] at G hA1
  have HN := Lib.hid hn
  have HA := Lib.hid hA1
  have HD7 : Hid (Wb.cell? ⟨w.heap.size, 7, none⟩ = _) := Lib.hid (hWb ▸ d7)
  have HD8 : Hid (Wb.cell? ⟨w.heap.size, 8, none⟩ = _) := Lib.hid (hWb ▸ d8)
  have HW := Lib.hid hWb
  clear hn hA1 hA hz hWb
  go_enter Try.func32, Try.ntmps32
  go_wp2
  rw [HW.out]
  clear d7' d8' d7 d8
  go_loopw [3, 14] (fun o a wr => ∃ i : Nat, i ≤ n ∧ a = .int .i64 (i : Int) ∧ ∃ B c', o = .slice B i c' ∧ Own Wb wr [rowT 3 1 (.slice B i c') i (intsG ((arms.take i).map Prod.snd))]) (fun _ a _ => n - (intOf a).toNat)
  case atStart => exact ⟨0, Nat.zero_le _, rfl, _, _, rfl, H0⟩
  case round =>
    clear H0 HW mk e1
    obtain ⟨i, hi0, rfl, B, c', rfl, H⟩ := hrel
    have q0 : (0 : Int) ≤ (i : Int) := by omega
    by_cases q : i < n
    · have q1 : (i : Int) < (n : Int) := by omega
      obtain ⟨a, v, z, rfl, hz, x0, x1⟩ := HA.out.at (j := i) (by rw [HN.out]; exact q)
      have x0 := wkeep H.wider x0
      have x1 := wkeep H.wider x1
      have HZ := Lib.hid hz
      have H1 := Lib.hid (H.quiet (((Wider.refl wr).alloc (.cells #[.int .u32 v, .int .i64 z] 26)).alloc (.cells #[.int .i64 z] 3)))
      have N1 : Hid (((wr.alloc (.cells #[.int .u32 v, .int .i64 z] 26)).alloc (.cells #[.int .i64 z] 3)).cell? ⟨wr.heap.size + 1, 0, none⟩ = some (.int .i64 z)) := Lib.hid (by simp [go_sem])
      have S1 : Hid (i < 1000000) := Lib.hid (by omega)
      clear hz H
      go_wp2_with (first
        | (at_builtin; refine wpList_snoc_int rfl (.tmp 18) (.tmp 21) rfl rfl H1.out rfl N1.out S1.out ?_; intro B3 c3 w5 H5))
      go_roundw
      case measure => simp [intOf]; omega
      case rel =>
        refine ⟨i + 1, by omega, by go_num, B3, c3, rfl, ?_⟩
        rw [take_next arms i _ HZ.out, List.map_append]
        exact H5
    · have e : i = n := by omega
      subst e
      have q1 : ¬ ((i : Int) < (i : Int)) := by omega
      have d8 := wkeep H.wider HD8.out
      have H1 := Lib.hid (H.quiet ((Wider.refl wr).alloc (.cells #[.int .i64 oth] 3)))
      have N1 : Hid ((wr.alloc (.cells #[.int .i64 oth] 3)).cell? ⟨wr.heap.size, 0, none⟩ = some (.int .i64 oth)) := Lib.hid (by simp [go_sem])
      have S1 : Hid (i < 1000000) := Lib.hid (by omega)
      clear H
      go_wp2_with (first
        | (at_builtin; refine wpList_snoc_int rfl (.tmp 24) (.tmp 27) rfl rfl H1.out rfl N1.out S1.out ?_; intro B3 c3 w5 H5))
      go_ret
      have e2 : arms.take i = arms := List.take_of_length_le (by rw [HN.out]; exact Nat.le_refl _)
      rw [e2] at H5
      exact ⟨B3, c3, rfl, H5.back G⟩
theorem gsucc_c {w : World} (x : NodV) {A : Option Addr} {n c : Nat} (hA : ArmsAt w A x.arms) (hn : x.arms.length = n) (hl : n < 100000) :
    Calls Try.prog 32 #[nodA x A n c] w fun e w' => ∃ B c', e = .returned (.slice B (n + 1) c') ∧ Wider w w' ∧ IntsAt w' B x.goes := by
  refine (gsuccO_c (c := c) x hA hn hl).mono ?_
  rintro e w' ⟨B, c', rfl, H⟩
  exact ⟨B, c', rfl, H.wider, IntsAt.row H.head (by unfold NodV.goes; rw [List.length_append, List.length_map, hn]; rfl)⟩
set_option maxRecDepth 20000 in
set_option maxHeartbeats 4000000 in
/-- The document's Goes. -/
theorem ggoes_c {w : World} (x : NodV) {A : Option Addr} {n c : Nat} (hA : ArmsAt w A x.arms) (hn : x.arms.length = n) (hl : n < 100000) :
    Calls Try.prog 19 #[nodA x A n c] w fun e w' => ∃ B c', e = .returned (.slice B (n + 1) c') ∧ Wider w w' ∧ IntsAt w' B x.goes := by
  obtain ⟨id, size, lo, lw, lu, so, sw, arms, oth⟩ := x
  show Calls Try.prog 19 #[.agg #[.int .i64 id, .int .i64 size, .int .i64 lo, .int .i64 lw, .int .i64 lu, .int .i64 so, .int .i64 sw, .slice A n c, .int .i64 oth]] w _
  have hn : arms.length = n := hn
  obtain ⟨-, -, -, -, -, -, -, d7, d8⟩ := NodeB.new w ⟨id, size, lo, lw, lu, so, sw, arms, oth⟩ A n c
  have G := (Wider.refl w).alloc (.cells #[.int .i64 id, .int .i64 size, .int .i64 lo, .int .i64 lw, .int .i64 lu, .int .i64 so, .int .i64 sw, .slice A n c, .int .i64 oth] 28)
  have hA1 : ArmsAt _ A arms := hA.on G
  obtain ⟨Wb, hWb⟩ : ∃ W, w.alloc (.cells #[.int .i64 id, .int .i64 size, .int .i64 lo, .int .i64 lw, .int .i64 lu, .int .i64 so, .int .i64 sw, .slice A n c, .int .i64 oth] 28) = W := ⟨_, rfl⟩
  have H0 : Own Wb Wb [rowT 3 1 (.slice none 0 0) 0 (intsG [])] := (Own.nil (Wider.refl Wb)).row (Wider.refl _) (World.ownsRow_nil _ _ 3 1)
  rw [hWb] at G hA1
  have HN := Lib.hid hn
  have HA := Lib.hid hA1
  have HD7 : Hid (Wb.cell? ⟨w.heap.size, 7, none⟩ = _) := Lib.hid (hWb ▸ d7)
  have HD8 : Hid (Wb.cell? ⟨w.heap.size, 8, none⟩ = _) := Lib.hid (hWb ▸ d8)
  have HW := Lib.hid hWb
  clear hn hA1 hA hWb
  go_enter Try.func19, Try.ntmps19
  go_wp2
  rw [HW.out]
  clear d7 d8
  go_loopw [3, 4] (fun o a wr => ∃ i : Nat, i ≤ n ∧ a = .int .i64 (i : Int) ∧ ∃ B c', o = .slice B i c' ∧ Own Wb wr [rowT 3 1 (.slice B i c') i (intsG ((arms.take i).map Prod.snd))]) (fun _ a _ => n - (intOf a).toNat)
  case atStart => exact ⟨0, Nat.zero_le _, rfl, _, _, rfl, H0⟩
  case round =>
    clear H0 HW
    obtain ⟨i, hi0, rfl, B, c', rfl, H⟩ := hrel
    have q0 : (0 : Int) ≤ (i : Int) := by omega
    have d7 := wkeep H.wider HD7.out
    by_cases q : i < n
    · have q1 : (i : Int) < (n : Int) := by omega
      obtain ⟨a, v, z, rfl, hz, x0, x1⟩ := HA.out.at (j := i) (by rw [HN.out]; exact q)
      have x0 := wkeep H.wider x0
      have x1 := wkeep H.wider x1
      have HZ := Lib.hid hz
      have H1 := Lib.hid (H.quiet ((Wider.refl wr).alloc (.cells #[.int .i64 z] 3)))
      have N1 : Hid ((wr.alloc (.cells #[.int .i64 z] 3)).cell? ⟨wr.heap.size, 0, none⟩ = some (.int .i64 z)) := Lib.hid (by simp [go_sem])
      have S1 : Hid (i < 1000000) := Lib.hid (by omega)
      clear hz H
      go_wp2_with (first
        | (at_builtin; refine wpList_snoc_int rfl (.tmp 12) (.tmp 19) rfl rfl H1.out rfl N1.out S1.out ?_; intro B3 c3 w5 H5))
      go_roundw
      case measure => simp [intOf]; omega
      case rel =>
        refine ⟨i + 1, by omega, by go_num, B3, c3, rfl, ?_⟩
        rw [take_next arms i _ HZ.out, List.map_append]
        exact H5
    · have e : i = n := by omega
      subst e
      have q1 : ¬ ((i : Int) < (i : Int)) := by omega
      have d8 := wkeep H.wider HD8.out
      have H1 := Lib.hid (H.quiet ((Wider.refl wr).alloc (.cells #[.int .i64 oth] 3)))
      have N1 : Hid ((wr.alloc (.cells #[.int .i64 oth] 3)).cell? ⟨wr.heap.size, 0, none⟩ = some (.int .i64 oth)) := Lib.hid (by simp [go_sem])
      have S1 : Hid (i < 1000000) := Lib.hid (by omega)
      clear H
      go_wp2_with (first
        | (at_builtin; refine wpList_snoc_int rfl (.tmp 21) (.tmp 24) rfl rfl H1.out rfl N1.out S1.out ?_; intro B3 c3 w5 H5))
      go_ret
      refine ⟨B3, ⟨c3, rfl⟩, G.trans H5.wider, ?_⟩
      have e2 : arms.take i = arms := List.take_of_length_le (by rw [HN.out]; exact Nat.le_refl _)
      rw [e2] at H5
      exact IntsAt.row (l := arms.map Prod.snd ++ [oth]) H5.head (by rw [List.length_append, List.length_map, HN.out]; rfl)

end Go.Proofs.Ytilebacnjagneaa
