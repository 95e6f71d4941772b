/- What the document's answers Left, Right, Mask of layer 1 do: bit by bit. -/
import Derived.Test.YtjhfkmjaobleiaaRefK
import Derived.Lib.Hide
import Derived.RegionTactic
import Derived.BigRegion
import Derived.Deep.RegionHeld3
namespace Go.Proofs.Ytjhfkmjaobleiaa
set_option linter.unusedVariables false
open Go.RowKit

theorem bits_shl (x : BitVec 128) (m j : Nat) (h : j < 128) : bitW (x <<< m) j = if j + m < 128 then bitW x (j + m) else 0 := by
  rw [bitW_lsb _ _ h, BitVec.getLsbD_shiftLeft]
  by_cases e : j + m < 128
  · rw [if_pos e, bitW_lsb _ _ e]
    have a : 127 - j < 128 := by omega
    have b : ¬ 127 - j < m := by omega
    have c : 127 - j - m = 127 - (j + m) := by omega
    simp only [a, b, c, decide_true, decide_false, Bool.true_and, Bool.not_false]
  · rw [if_neg e]
    have b : 127 - j < m := by omega
    simp [b]
theorem bits_shr (x : BitVec 128) (m j : Nat) (h : j < 128) : bitW (x >>> m) j = if m ≤ j then bitW x (j - m) else 0 := by
  rw [bitW_lsb _ _ h, BitVec.getLsbD_ushiftRight]
  by_cases e : m ≤ j
  · rw [if_pos e, bitW_lsb _ _ (by omega)]
    have c : m + (127 - j) = 127 - (j - m) := by omega
    rw [c]
  · rw [if_neg e, BitVec.getLsbD_of_ge _ _ (by omega)]; rfl
theorem bits_mask (m j : Nat) (h : j < 128) : bitW (mask m) (127 - j) = if j < m then 1 else 0 := by
  rw [bitW_lsb _ _ (by omega), mask_bit _ _ (by omega), show 127 - (127 - j) = j by omega]
  by_cases e : j < m <;> simp [e]

set_option maxRecDepth 100000 in
set_option maxHeartbeats 2000000 in
theorem rleft_neg {ah al rh rl : Int} (x : BitVec 128) (n : Int) (n0 : -9223372036854775808 ≤ n) (n1 : n < 0) (hx : IsW ah al x) (hr : IsW rh rl (x)) (w : World) :
    Calls Try.prog 37 #[.agg #[.int .u64 ah, .int .u64 al], .int .i64 n] w fun e w' => e = .returned (.agg #[.int .u64 rh, .int .u64 rl]) ∧ Grown w w' := by
  have hmk := make128
  have k0 : ((w.alloc (.cells #[.int .u64 ah, .int .u64 al] 24)).alloc (.cells #[.int .u64 0, .int .u64 0] 24)).cell? ⟨w.heap.size + 1, 0, none⟩ = some (.int .u64 0) := by simp [go_sem]
  have f0 : ((w.alloc (.cells #[.int .u64 ah, .int .u64 al] 24)).alloc (.cells #[.int .u64 0, .int .u64 0] 24)).frozen? ⟨w.heap.size + 1, 0, none⟩ = false := by simp [go_sem]
  have k1 : ((w.alloc (.cells #[.int .u64 ah, .int .u64 al] 24)).alloc (.cells #[.int .u64 0, .int .u64 0] 24)).cell? ⟨w.heap.size + 1, 1, none⟩ = some (.int .u64 0) := by simp [go_sem]
  have f1 : ((w.alloc (.cells #[.int .u64 ah, .int .u64 al] 24)).alloc (.cells #[.int .u64 0, .int .u64 0] 24)).frozen? ⟨w.heap.size + 1, 1, none⟩ = false := by simp [go_sem]
  have G : Grown w ((w.alloc (.cells #[.int .u64 ah, .int .u64 al] 24)).alloc (.cells #[.int .u64 0, .int .u64 0] 24)) := ((Grown.refl _).alloc _ _).alloc _ _
  go_enter Try.func37, Try.ntmps37
  go_wp2_with (go_at_call 48; ((with_reducible refine (bits_c x hx _).mono ?_); rintro e w' ⟨⟨BA, rfl, hA0, hA1, RA⟩, g'⟩; have hL := Lx.start (w := w) (R := w.heap.size + 1) RA RA hA1 hA1 (gkeep g' k0) (gkeep g' k1) (gfree g' f0) (gfree g' f1) (G.trans3 g') (by omega)))
  clear hmk k0 k1 f0 f1
  generalize (w'.alloc (.cells zeros128 5)) = V at *
  generalize w'.heap.size = O at *
  go_loopw [7] (fun i wr => ∃ k : Nat, k ≤ 128 ∧ i = .int .i64 (k : Int) ∧ Lx w (w.heap.size + 1) BA BA O x x (fun j => if j < k then bitW (x) j else 0) wr) (fun i _ => 128 - (intOf i).toNat)
  case atStart => exact ⟨0, by omega, by simp, hL.congr (fun j hj => by rw [if_neg (by omega)])⟩
  case round =>
    obtain ⟨k, hk, rfl, hL⟩ := hrel
    by_cases hlt : k < 128
    · have hi : (k : Int) < 128 := by omega
      have hi0 : (0 : Int) ≤ (k : Int) := by omega
      have d2 := hL.ro.cell k (by omega)
      have f2 := hL.ro.free k
      have fin : ∀ u : Int, bitW (x) k = u → Lx w (w.heap.size + 1) BA BA O x x (fun j => if j < k + 1 then bitW (x) j else 0) (wr.setCell ⟨O, k, none⟩ (.int .u8 u)) := by
        intro u hu
        refine hL.put hlt (fun j hj => ?_)
        by_cases e : j = k
        · subst e; rw [if_pos (by omega), if_pos rfl, hu]
        · rw [if_neg e]
          by_cases e3 : j < k
          · rw [if_pos e3, if_pos (by omega)]
          · rw [if_neg e3, if_neg (by omega)]
      have FIN := Lib.hid fin
      clear fin
      have d0 := hL.ra.cell k (by omega)
      go_wp2
      go_roundw
      case rel => exact ⟨k + 1, by omega, by go_num, FIN.out _ (rfl)⟩
      case measure => simp [intOf]; omega
    · obtain rfl : k = 128 := by omega
      have hv : ∀ j, j < 128 → 0 ≤ (if j < 128 then bitW (x) j else 0) ∧ (if j < 128 then bitW (x) j else 0) ≤ 1 := by
        intro j hj; rw [if_pos hj]; exact bitW_01 _ _
      have hw : IsW rh rl (BitVec.ofNat 128 (numB (fun j => if j < 128 then bitW (x) j else 0) 128)) := by
        rw [word_of_bits (x) (fun j hj => by rw [if_pos hj])]; exact hr
      have r0 := hL.r0
      have r1 := hL.r1
      have s0 := hL.s0
      have s1 := hL.s1
      go_wp2_with (go_at_call 49; ((with_reducible refine (word_c _ 128 128 _ _ hL.lt (by decide) hL.ro hv hw).mono ?_); rintro e w9 ⟨rfl, g9⟩; replace r0 := gkeep g9 r0; replace r1 := gkeep g9 r1; replace s0 := gfree g9 s0; replace s1 := gfree g9 s1))
      simp [bodyPost, results, Try.results37, go_sem, r0, r1]
      exact ((hL.grown.trans3 g9).setCell hL.hR _).setCell hL.hR _

set_option maxRecDepth 100000 in
set_option maxHeartbeats 2000000 in
theorem rleft_pos {ah al rh rl : Int} (x : BitVec 128) (N : Nat) (n1 : (N : Int) ≤ 9223372036854775807) (hx : IsW ah al x) (hr : IsW rh rl (x <<< N)) (w : World) :
    Calls Try.prog 37 #[.agg #[.int .u64 ah, .int .u64 al], .int .i64 (N : Int)] w fun e w' => e = .returned (.agg #[.int .u64 rh, .int .u64 rl]) ∧ Grown w w' := by
  have n0 : (0 : Int) ≤ (N : Int) := by omega
  have N1 := Lib.hid n1
  clear n1
  have hmk := make128
  have k0 : ((w.alloc (.cells #[.int .u64 ah, .int .u64 al] 24)).alloc (.cells #[.int .u64 0, .int .u64 0] 24)).cell? ⟨w.heap.size + 1, 0, none⟩ = some (.int .u64 0) := by simp [go_sem]
  have f0 : ((w.alloc (.cells #[.int .u64 ah, .int .u64 al] 24)).alloc (.cells #[.int .u64 0, .int .u64 0] 24)).frozen? ⟨w.heap.size + 1, 0, none⟩ = false := by simp [go_sem]
  have k1 : ((w.alloc (.cells #[.int .u64 ah, .int .u64 al] 24)).alloc (.cells #[.int .u64 0, .int .u64 0] 24)).cell? ⟨w.heap.size + 1, 1, none⟩ = some (.int .u64 0) := by simp [go_sem]
  have f1 : ((w.alloc (.cells #[.int .u64 ah, .int .u64 al] 24)).alloc (.cells #[.int .u64 0, .int .u64 0] 24)).frozen? ⟨w.heap.size + 1, 1, none⟩ = false := by simp [go_sem]
  have G : Grown w ((w.alloc (.cells #[.int .u64 ah, .int .u64 al] 24)).alloc (.cells #[.int .u64 0, .int .u64 0] 24)) := ((Grown.refl _).alloc _ _).alloc _ _
  go_enter Try.func37, Try.ntmps37
  go_wp2_with (go_at_call 48; ((with_reducible refine (bits_c x hx _).mono ?_); rintro e w' ⟨⟨BA, rfl, hA0, hA1, RA⟩, g'⟩; have hL := Lx.start (w := w) (R := w.heap.size + 1) RA RA hA1 hA1 (gkeep g' k0) (gkeep g' k1) (gfree g' f0) (gfree g' f1) (G.trans3 g') (by omega)))
  clear hmk k0 k1 f0 f1
  generalize (w'.alloc (.cells zeros128 5)) = V at *
  generalize w'.heap.size = O at *
  go_loopw [7] (fun i wr => ∃ k : Nat, k ≤ 128 ∧ i = .int .i64 (k : Int) ∧ Lx w (w.heap.size + 1) BA BA O x x (fun j => if j < k then bitW (x <<< N) j else 0) wr) (fun i _ => 128 - (intOf i).toNat)
  case atStart => exact ⟨0, by omega, by simp, hL.congr (fun j hj => by rw [if_neg (by omega)])⟩
  case round =>
    obtain ⟨k, hk, rfl, hL⟩ := hrel
    by_cases hlt : k < 128
    · have hi : (k : Int) < 128 := by omega
      have hi0 : (0 : Int) ≤ (k : Int) := by omega
      have d2 := hL.ro.cell k (by omega)
      have f2 := hL.ro.free k
      have fin : ∀ u : Int, bitW (x <<< N) k = u → Lx w (w.heap.size + 1) BA BA O x x (fun j => if j < k + 1 then bitW (x <<< N) j else 0) (wr.setCell ⟨O, k, none⟩ (.int .u8 u)) := by
        intro u hu
        refine hL.put hlt (fun j hj => ?_)
        by_cases e : j = k
        · subst e; rw [if_pos (by omega), if_pos rfl, hu]
        · rw [if_neg e]
          by_cases e3 : j < k
          · rw [if_pos e3, if_pos (by omega)]
          · rw [if_neg e3, if_neg (by omega)]
      have FIN := Lib.hid fin
      clear fin
      by_cases e : k + N < 128
      · have d0 := hL.ra.cell (k + N) (by omega)
        have e' : (N : Int) < 128 - (k : Int) := by omega
        have E : Hid (bitW (x <<< N) k = bitW x (k + N)) := by show _ = _; rw [bits_shl x N k hlt, if_pos (by omega)]
        have E2 := Lib.hid e
        clear e
        go_wp2
        go_roundw
        case rel => exact ⟨k + 1, by omega, by go_num, FIN.out _ (E.out)⟩
        case measure => simp [intOf]; omega
      · have e' : ¬ (N : Int) < 128 - (k : Int) := by omega
        have same : Lx w (w.heap.size + 1) BA BA O x x (fun j => if j < k + 1 then bitW (x <<< N) j else 0) wr := by
          refine hL.congr (fun j hj => ?_)
          by_cases q : j < k
          · rw [if_pos q, if_pos (by omega)]
          · rw [if_neg q]
            by_cases q2 : j < k + 1
            · obtain rfl : j = k := by omega
              rw [if_pos q2, bits_shl x N _ hlt, if_neg (by omega)]
            · rw [if_neg q2]
        clear e
        go_wp2
        go_roundw
        case rel => exact ⟨k + 1, by omega, by go_num, same⟩
        case measure => simp [intOf]; omega
    · obtain rfl : k = 128 := by omega
      have hv : ∀ j, j < 128 → 0 ≤ (if j < 128 then bitW (x <<< N) j else 0) ∧ (if j < 128 then bitW (x <<< N) j else 0) ≤ 1 := by
        intro j hj; rw [if_pos hj]; exact bitW_01 _ _
      have hw : IsW rh rl (BitVec.ofNat 128 (numB (fun j => if j < 128 then bitW (x <<< N) j else 0) 128)) := by
        rw [word_of_bits (x <<< N) (fun j hj => by rw [if_pos hj])]; exact hr
      have r0 := hL.r0
      have r1 := hL.r1
      have s0 := hL.s0
      have s1 := hL.s1
      go_wp2_with (go_at_call 49; ((with_reducible refine (word_c _ 128 128 _ _ hL.lt (by decide) hL.ro hv hw).mono ?_); rintro e w9 ⟨rfl, g9⟩; replace r0 := gkeep g9 r0; replace r1 := gkeep g9 r1; replace s0 := gfree g9 s0; replace s1 := gfree g9 s1))
      simp [bodyPost, results, Try.results37, go_sem, r0, r1]
      exact ((hL.grown.trans3 g9).setCell hL.hR _).setCell hL.hR _

set_option maxRecDepth 100000 in
set_option maxHeartbeats 2000000 in
theorem rright_neg {ah al rh rl : Int} (x : BitVec 128) (n : Int) (n0 : -9223372036854775808 ≤ n) (n1 : n < 0) (hx : IsW ah al x) (hr : IsW rh rl (x)) (w : World) :
    Calls Try.prog 38 #[.agg #[.int .u64 ah, .int .u64 al], .int .i64 n] w fun e w' => e = .returned (.agg #[.int .u64 rh, .int .u64 rl]) ∧ Grown w w' := by
  have hmk := make128
  have k0 : ((w.alloc (.cells #[.int .u64 ah, .int .u64 al] 24)).alloc (.cells #[.int .u64 0, .int .u64 0] 24)).cell? ⟨w.heap.size + 1, 0, none⟩ = some (.int .u64 0) := by simp [go_sem]
  have f0 : ((w.alloc (.cells #[.int .u64 ah, .int .u64 al] 24)).alloc (.cells #[.int .u64 0, .int .u64 0] 24)).frozen? ⟨w.heap.size + 1, 0, none⟩ = false := by simp [go_sem]
  have k1 : ((w.alloc (.cells #[.int .u64 ah, .int .u64 al] 24)).alloc (.cells #[.int .u64 0, .int .u64 0] 24)).cell? ⟨w.heap.size + 1, 1, none⟩ = some (.int .u64 0) := by simp [go_sem]
  have f1 : ((w.alloc (.cells #[.int .u64 ah, .int .u64 al] 24)).alloc (.cells #[.int .u64 0, .int .u64 0] 24)).frozen? ⟨w.heap.size + 1, 1, none⟩ = false := by simp [go_sem]
  have G : Grown w ((w.alloc (.cells #[.int .u64 ah, .int .u64 al] 24)).alloc (.cells #[.int .u64 0, .int .u64 0] 24)) := ((Grown.refl _).alloc _ _).alloc _ _
  go_enter Try.func38, Try.ntmps38
  go_wp2_with (go_at_call 48; ((with_reducible refine (bits_c x hx _).mono ?_); rintro e w' ⟨⟨BA, rfl, hA0, hA1, RA⟩, g'⟩; have hL := Lx.start (w := w) (R := w.heap.size + 1) RA RA hA1 hA1 (gkeep g' k0) (gkeep g' k1) (gfree g' f0) (gfree g' f1) (G.trans3 g') (by omega)))
  clear hmk k0 k1 f0 f1
  generalize (w'.alloc (.cells zeros128 5)) = V at *
  generalize w'.heap.size = O at *
  go_loopw [7] (fun i wr => ∃ k : Nat, k ≤ 128 ∧ i = .int .i64 (k : Int) ∧ Lx w (w.heap.size + 1) BA BA O x x (fun j => if j < k then bitW (x) j else 0) wr) (fun i _ => 128 - (intOf i).toNat)
  case atStart => exact ⟨0, by omega, by simp, hL.congr (fun j hj => by rw [if_neg (by omega)])⟩
  case round =>
    obtain ⟨k, hk, rfl, hL⟩ := hrel
    by_cases hlt : k < 128
    · have hi : (k : Int) < 128 := by omega
      have hi0 : (0 : Int) ≤ (k : Int) := by omega
      have d2 := hL.ro.cell k (by omega)
      have f2 := hL.ro.free k
      have fin : ∀ u : Int, bitW (x) k = u → Lx w (w.heap.size + 1) BA BA O x x (fun j => if j < k + 1 then bitW (x) j else 0) (wr.setCell ⟨O, k, none⟩ (.int .u8 u)) := by
        intro u hu
        refine hL.put hlt (fun j hj => ?_)
        by_cases e : j = k
        · subst e; rw [if_pos (by omega), if_pos rfl, hu]
        · rw [if_neg e]
          by_cases e3 : j < k
          · rw [if_pos e3, if_pos (by omega)]
          · rw [if_neg e3, if_neg (by omega)]
      have FIN := Lib.hid fin
      clear fin
      have d0 := hL.ra.cell k (by omega)
      go_wp2
      go_roundw
      case rel => exact ⟨k + 1, by omega, by go_num, FIN.out _ (rfl)⟩
      case measure => simp [intOf]; omega
    · obtain rfl : k = 128 := by omega
      have hv : ∀ j, j < 128 → 0 ≤ (if j < 128 then bitW (x) j else 0) ∧ (if j < 128 then bitW (x) j else 0) ≤ 1 := by
        intro j hj; rw [if_pos hj]; exact bitW_01 _ _
      have hw : IsW rh rl (BitVec.ofNat 128 (numB (fun j => if j < 128 then bitW (x) j else 0) 128)) := by
        rw [word_of_bits (x) (fun j hj => by rw [if_pos hj])]; exact hr
      have r0 := hL.r0
      have r1 := hL.r1
      have s0 := hL.s0
      have s1 := hL.s1
      go_wp2_with (go_at_call 49; ((with_reducible refine (word_c _ 128 128 _ _ hL.lt (by decide) hL.ro hv hw).mono ?_); rintro e w9 ⟨rfl, g9⟩; replace r0 := gkeep g9 r0; replace r1 := gkeep g9 r1; replace s0 := gfree g9 s0; replace s1 := gfree g9 s1))
      simp [bodyPost, results, Try.results38, go_sem, r0, r1]
      exact ((hL.grown.trans3 g9).setCell hL.hR _).setCell hL.hR _

set_option maxRecDepth 100000 in
set_option maxHeartbeats 2000000 in
theorem rright_pos {ah al rh rl : Int} (x : BitVec 128) (N : Nat) (n1 : (N : Int) ≤ 9223372036854775807) (hx : IsW ah al x) (hr : IsW rh rl (x >>> N)) (w : World) :
    Calls Try.prog 38 #[.agg #[.int .u64 ah, .int .u64 al], .int .i64 (N : Int)] w fun e w' => e = .returned (.agg #[.int .u64 rh, .int .u64 rl]) ∧ Grown w w' := by
  have n0 : (0 : Int) ≤ (N : Int) := by omega
  have N1 := Lib.hid n1
  clear n1
  have hmk := make128
  have k0 : ((w.alloc (.cells #[.int .u64 ah, .int .u64 al] 24)).alloc (.cells #[.int .u64 0, .int .u64 0] 24)).cell? ⟨w.heap.size + 1, 0, none⟩ = some (.int .u64 0) := by simp [go_sem]
  have f0 : ((w.alloc (.cells #[.int .u64 ah, .int .u64 al] 24)).alloc (.cells #[.int .u64 0, .int .u64 0] 24)).frozen? ⟨w.heap.size + 1, 0, none⟩ = false := by simp [go_sem]
  have k1 : ((w.alloc (.cells #[.int .u64 ah, .int .u64 al] 24)).alloc (.cells #[.int .u64 0, .int .u64 0] 24)).cell? ⟨w.heap.size + 1, 1, none⟩ = some (.int .u64 0) := by simp [go_sem]
  have f1 : ((w.alloc (.cells #[.int .u64 ah, .int .u64 al] 24)).alloc (.cells #[.int .u64 0, .int .u64 0] 24)).frozen? ⟨w.heap.size + 1, 1, none⟩ = false := by simp [go_sem]
  have G : Grown w ((w.alloc (.cells #[.int .u64 ah, .int .u64 al] 24)).alloc (.cells #[.int .u64 0, .int .u64 0] 24)) := ((Grown.refl _).alloc _ _).alloc _ _
  go_enter Try.func38, Try.ntmps38
  go_wp2_with (go_at_call 48; ((with_reducible refine (bits_c x hx _).mono ?_); rintro e w' ⟨⟨BA, rfl, hA0, hA1, RA⟩, g'⟩; have hL := Lx.start (w := w) (R := w.heap.size + 1) RA RA hA1 hA1 (gkeep g' k0) (gkeep g' k1) (gfree g' f0) (gfree g' f1) (G.trans3 g') (by omega)))
  clear hmk k0 k1 f0 f1
  generalize (w'.alloc (.cells zeros128 5)) = V at *
  generalize w'.heap.size = O at *
  go_loopw [7] (fun i wr => ∃ k : Nat, k ≤ 128 ∧ i = .int .i64 (k : Int) ∧ Lx w (w.heap.size + 1) BA BA O x x (fun j => if j < k then bitW (x >>> N) j else 0) wr) (fun i _ => 128 - (intOf i).toNat)
  case atStart => exact ⟨0, by omega, by simp, hL.congr (fun j hj => by rw [if_neg (by omega)])⟩
  case round =>
    obtain ⟨k, hk, rfl, hL⟩ := hrel
    by_cases hlt : k < 128
    · have hi : (k : Int) < 128 := by omega
      have hi0 : (0 : Int) ≤ (k : Int) := by omega
      have d2 := hL.ro.cell k (by omega)
      have f2 := hL.ro.free k
      have fin : ∀ u : Int, bitW (x >>> N) k = u → Lx w (w.heap.size + 1) BA BA O x x (fun j => if j < k + 1 then bitW (x >>> N) j else 0) (wr.setCell ⟨O, k, none⟩ (.int .u8 u)) := by
        intro u hu
        refine hL.put hlt (fun j hj => ?_)
        by_cases e : j = k
        · subst e; rw [if_pos (by omega), if_pos rfl, hu]
        · rw [if_neg e]
          by_cases e3 : j < k
          · rw [if_pos e3, if_pos (by omega)]
          · rw [if_neg e3, if_neg (by omega)]
      have FIN := Lib.hid fin
      clear fin
      by_cases e : N ≤ k
      · have d0 := hL.ra.cell (k - N) (by omega)
        have e' : (N : Int) ≤ (k : Int) := by omega
        have E : Hid (bitW (x >>> N) k = bitW x (k - N)) := by show _ = _; rw [bits_shr x N k hlt, if_pos (by omega)]
        have E2 := Lib.hid e
        clear e
        go_wp2
        go_roundw
        case rel => exact ⟨k + 1, by omega, by go_num, FIN.out _ (E.out)⟩
        case measure => simp [intOf]; omega
      · have e' : ¬ (N : Int) ≤ (k : Int) := by omega
        have same : Lx w (w.heap.size + 1) BA BA O x x (fun j => if j < k + 1 then bitW (x >>> N) j else 0) wr := by
          refine hL.congr (fun j hj => ?_)
          by_cases q : j < k
          · rw [if_pos q, if_pos (by omega)]
          · rw [if_neg q]
            by_cases q2 : j < k + 1
            · obtain rfl : j = k := by omega
              rw [if_pos q2, bits_shr x N _ hlt, if_neg (by omega)]
            · rw [if_neg q2]
        clear e
        go_wp2
        go_roundw
        case rel => exact ⟨k + 1, by omega, by go_num, same⟩
        case measure => simp [intOf]; omega
    · obtain rfl : k = 128 := by omega
      have hv : ∀ j, j < 128 → 0 ≤ (if j < 128 then bitW (x >>> N) j else 0) ∧ (if j < 128 then bitW (x >>> N) j else 0) ≤ 1 := by
        intro j hj; rw [if_pos hj]; exact bitW_01 _ _
      have hw : IsW rh rl (BitVec.ofNat 128 (numB (fun j => if j < 128 then bitW (x >>> N) j else 0) 128)) := by
        rw [word_of_bits (x >>> N) (fun j hj => by rw [if_pos hj])]; exact hr
      have r0 := hL.r0
      have r1 := hL.r1
      have s0 := hL.s0
      have s1 := hL.s1
      go_wp2_with (go_at_call 49; ((with_reducible refine (word_c _ 128 128 _ _ hL.lt (by decide) hL.ro hv hw).mono ?_); rintro e w9 ⟨rfl, g9⟩; replace r0 := gkeep g9 r0; replace r1 := gkeep g9 r1; replace s0 := gfree g9 s0; replace s1 := gfree g9 s1))
      simp [bodyPost, results, Try.results38, go_sem, r0, r1]
      exact ((hL.grown.trans3 g9).setCell hL.hR _).setCell hL.hR _

theorem rleft_c {ah al rh rl : Int} (x : BitVec 128) (n : Int) (n0 : -9223372036854775808 ≤ n) (n1 : n ≤ 9223372036854775807) (hx : IsW ah al x) (hr : IsW rh rl (x <<< n.toNat)) (w : World) :
    Calls Try.prog 37 #[.agg #[.int .u64 ah, .int .u64 al], .int .i64 n] w fun e w' => e = .returned (.agg #[.int .u64 rh, .int .u64 rl]) ∧ Grown w w' := by
  rcases Int.lt_or_le n 0 with h | h
  · have e : n.toNat = 0 := by omega
    rw [e] at hr
    exact rleft_neg x n n0 h hx (by simpa using hr) w
  · obtain ⟨N, rfl⟩ := Int.eq_ofNat_of_zero_le h
    exact rleft_pos x N n1 hx (by rw [Int.toNat_natCast] at hr; exact hr) w

theorem rright_c {ah al rh rl : Int} (x : BitVec 128) (n : Int) (n0 : -9223372036854775808 ≤ n) (n1 : n ≤ 9223372036854775807) (hx : IsW ah al x) (hr : IsW rh rl (x >>> n.toNat)) (w : World) :
    Calls Try.prog 38 #[.agg #[.int .u64 ah, .int .u64 al], .int .i64 n] w fun e w' => e = .returned (.agg #[.int .u64 rh, .int .u64 rl]) ∧ Grown w w' := by
  rcases Int.lt_or_le n 0 with h | h
  · have e : n.toNat = 0 := by omega
    rw [e] at hr
    exact rright_neg x n n0 h hx (by simpa using hr) w
  · obtain ⟨N, rfl⟩ := Int.eq_ofNat_of_zero_le h
    exact rright_pos x N n1 hx (by rw [Int.toNat_natCast] at hr; exact hr) w

set_option maxHeartbeats 2000000 in
theorem rmask_c {rh rl : Int} (n : Int) (n0 : -9223372036854775808 ≤ n) (n1 : n ≤ 9223372036854775807) (hr : IsW rh rl (mask n.toNat)) (w : World) :
    Calls Try.prog 40 #[.int .i64 n] w fun e w' => e = .returned (.agg #[.int .u64 rh, .int .u64 rl]) ∧ Grown w w' := by
  have hmk := make128
  have hL : Row ((w.alloc (.cells #[.int .u64 0, .int .u64 0] 24)).alloc (.cells zeros128 5)) (w.heap.size + 1) 128 (fun _ => 0) := by
    have h := Row.made (w.alloc (.cells #[.int .u64 0, .int .u64 0] 24))
    simp only [World.size_alloc] at h
    exact h
  go_enter Try.func40, Try.ntmps40
  go_wp2
  clear hmk
  go_loopw [4] (fun i wr => ∃ k : Nat, k ≤ 128 ∧ i = .int .i64 (k : Int) ∧ Row wr (w.heap.size + 1) 128 (fun j => if 128 ≤ j + k then bitW (mask n.toNat) j else 0) ∧
      wr.cell? ⟨w.heap.size, 0, none⟩ = some (.int .u64 0) ∧ wr.cell? ⟨w.heap.size, 1, none⟩ = some (.int .u64 0) ∧ wr.frozen? ⟨w.heap.size, 0, none⟩ = false ∧ wr.frozen? ⟨w.heap.size, 1, none⟩ = false ∧ Grown w wr ∧ w.heap.size + 1 < wr.heap.size) (fun i _ => 128 - (intOf i).toNat)
  case atStart => exact ⟨0, by omega, by simp, hL.congr (fun j hj => by rw [if_neg (by omega)]), by simp [go_sem], by simp [go_sem], by simp [go_sem], by simp [go_sem], ((Grown.refl _).alloc _ _).alloc _ _, by simp⟩
  case round =>
    obtain ⟨k, hk, rfl, hR, r0, r1, s0, s1, hG, hS⟩ := hrel
    by_cases hlt : k < 128
    · have hi : (k : Int) < 128 := by omega
      have hi0 : (0 : Int) ≤ (k : Int) := by omega
      have d2 := hR.cell (127 - k) (by omega)
      have f2 := hR.free (127 - k)
      have hb := bits_mask n.toNat k hlt
      by_cases e : (k : Int) < n
      · rw [if_pos (by omega)] at hb
        have HB := Lib.hid hb
        clear hb
        go_wp2
        go_roundw
        case rel =>
          refine ⟨k + 1, by omega, by go_num, hR.put (by omega) (fun j hj => ?_), ?_, ?_, (World.frozen?_setCell _ _ _ _).trans s0, (World.frozen?_setCell _ _ _ _).trans s1, hG.setCell (Nat.le_succ _) _, by simpa [World.setCell] using hS⟩
          · by_cases q : j = 127 - k
            · subst q; rw [if_pos (by omega), if_pos rfl, HB.out]
            · rw [if_neg q]
              by_cases q2 : 128 ≤ j + k
              · rw [if_pos q2, if_pos (by omega)]
              · rw [if_neg q2, if_neg (by omega)]
          · rw [cother (by intro r; injection r; omega)]; exact r0
          · rw [cother (by intro r; injection r; omega)]; exact r1
        case measure => simp [intOf]; omega
      · rw [if_neg (by omega)] at hb
        have HB := Lib.hid hb
        clear hb
        have same : Row wr (w.heap.size + 1) 128 (fun j => if 128 ≤ j + (k + 1) then bitW (mask n.toNat) j else 0) := by
          refine hR.congr (fun j hj => ?_)
          by_cases q2 : 128 ≤ j + k
          · rw [if_pos q2, if_pos (by omega)]
          · rw [if_neg q2]
            by_cases q : j = 127 - k
            · subst q; rw [if_pos (by omega), HB.out]
            · rw [if_neg (by omega)]
        go_wp2
        go_roundw
        case rel => exact ⟨k + 1, by omega, by go_num, same, r0, r1, s0, s1, hG, hS⟩
        case measure => simp [intOf]; omega
    · obtain rfl : k = 128 := by omega
      have hv : ∀ j, j < 128 → 0 ≤ (if 128 ≤ j + 128 then bitW (mask n.toNat) j else 0) ∧ (if 128 ≤ j + 128 then bitW (mask n.toNat) j else 0) ≤ 1 := by
        intro j hj; rw [if_pos (by omega)]; exact bitW_01 _ _
      have hw : IsW rh rl (BitVec.ofNat 128 (numB (fun j => if 128 ≤ j + 128 then bitW (mask n.toNat) j else 0) 128)) := by
        rw [word_of_bits (mask n.toNat) (fun j hj => by rw [if_pos (by omega)])]; exact hr
      go_wp2_with (go_at_call 49; ((with_reducible refine (word_c _ 128 128 _ _ hS (by decide) hR hv hw).mono ?_); rintro e w9 ⟨rfl, g9⟩; replace r0 := gkeep g9 r0; replace r1 := gkeep g9 r1; replace s0 := gfree g9 s0; replace s1 := gfree g9 s1))
      simp [bodyPost, results, Try.results40, go_sem, r0, r1]
      exact ((hG.trans3 g9).setCell (Nat.le_refl _) _).setCell (Nat.le_refl _) _


end Go.Proofs.Ytjhfkmjaobleiaa
