/- What the document's answers inverse, Back and Of of layer 4 do, and the helper large of its statements. -/
import Derived.Test.YtkffoamdlgfcgaaHRef
namespace Go.Proofs.Ytkffoamdlgfcgaa
set_option linter.unusedVariables false
open Go.RowKit

/-- How inverse goes on: j bits are settled. -/
def invX (n : Nat) : Nat → Nat
  | 0 => 1
  | j + 1 => if (n * invX n j % 4294967296) &&& 2 ^ (j + 1) ≠ 0 then invX n j ||| 2 ^ (j + 1) else invX n j
theorem invX_lt (n : Nat) : ∀ j, j ≤ 31 → invX n j < 4294967296 := by
  intro j
  induction j with
  | zero => intro _; show 1 < _; decide
  | succ j ih =>
    intro h
    unfold invX
    have a := ih (by omega)
    split
    · have p : 2 ^ (j + 1) < 2 ^ 32 := Nat.pow_lt_pow_right (by decide) (by omega)
      exact Nat.or_lt_two_pow (n := 32) a p
    · exact a
theorem inv_a : invX 3266489909 31 = 0x7ED1B41D := by decide +kernel
theorem inv_b : invX 2246822507 31 = 0xA5CB9243 := by decide +kernel
theorem and_u32 (a b : Nat) (ha : a < 4294967296) (hb : b < 4294967296) : bits .and .u32 (a : Int) (b : Int) = ((a &&& b : Nat) : Int) := by
  have hx : a &&& b < 2 ^ 32 := Nat.and_lt_two_pow _ (by omega)
  have h1 : (BitVec.ofInt 32 (a : Int)).toNat = a := by
    rw [BitVec.ofInt_natCast, BitVec.toNat_ofNat]; exact Nat.mod_eq_of_lt (by omega)
  have h2 : (BitVec.ofInt 32 (b : Int)).toNat = b := by
    rw [BitVec.ofInt_natCast, BitVec.toNat_ofNat]; exact Nat.mod_eq_of_lt (by omega)
  show IntKind.u32.wrap ((BitVec.ofInt 32 (a : Int) &&& BitVec.ofInt 32 (b : Int)).toNat : Int) = _
  rw [BitVec.toNat_and, h1, h2, IntKind.wrap_u32]
  omega
theorem or_u32 (a b : Nat) (ha : a < 4294967296) (hb : b < 4294967296) : bits .or .u32 (a : Int) (b : Int) = ((a ||| b : Nat) : Int) := by
  have hx : a ||| b < 2 ^ 32 := Nat.or_lt_two_pow (by omega) (by omega)
  have h1 : (BitVec.ofInt 32 (a : Int)).toNat = a := by
    rw [BitVec.ofInt_natCast, BitVec.toNat_ofNat]; exact Nat.mod_eq_of_lt (by omega)
  have h2 : (BitVec.ofInt 32 (b : Int)).toNat = b := by
    rw [BitVec.ofInt_natCast, BitVec.toNat_ofNat]; exact Nat.mod_eq_of_lt (by omega)
  show IntKind.u32.wrap ((BitVec.ofInt 32 (a : Int) ||| BitVec.ofInt 32 (b : Int)).toNat : Int) = _
  rw [BitVec.toNat_or, h1, h2, IntKind.wrap_u32]
  omega

set_option maxHeartbeats 2000000 in
theorem inverse_c (n : Nat) {r : Nat} (hn : n < 4294967296) (hr : invX n 31 = r) (w : World) :
    Calls Try.prog 22 #[.int .u32 (n : Int)] w fun e w' => e = .returned (.int .u32 (r : Int)) ∧ w' = w := by
  have HR := Lib.hid hr
  clear hr
  go_enter Try.func22, Try.ntmps22
  go_wp2
  go_loop [3, 4] (fun x b => ∃ j : Nat, j ≤ 31 ∧ (∃ V : Nat, x = .int .u32 (V : Int) ∧ invX n j = V) ∧ (∃ B : Nat, b = .int .u32 (B : Int) ∧ 2 ^ (j + 1) % 4294967296 = B)) (fun _ b => if intOf b = 0 then 0 else 4294967296 - (intOf b).toNat)
  case atStart => exact ⟨0, by omega, ⟨1, by simp, rfl⟩, ⟨2, by simp, by decide⟩⟩
  case round =>
    obtain ⟨j, hj, ⟨V, rfl, hV⟩, ⟨B, rfl, hB⟩⟩ := hrel
    have lV : V < 4294967296 := by rw [← hV]; exact invX_lt n j hj
    have HV := Lib.hid hV
    clear hV
    by_cases d : j < 31
    · have p1 : 2 ^ (j + 1) < 4294967296 := by
        have q : 2 ^ (j + 1) < 2 ^ 32 := Nat.pow_lt_pow_right (by decide) (by omega)
        simpa using q
      have p0 : 0 < 2 ^ (j + 1) := Nat.two_pow_pos _
      have hB2 : 2 ^ (j + 1) = B := by rw [← hB, Nat.mod_eq_of_lt p1]
      have lB : B < 4294967296 := by omega
      have lB0 : B ≠ 0 := by omega
      have hB3 : B * 2 % 4294967296 = 2 ^ (j + 1 + 1) % 4294967296 := by rw [← hB2, ← Nat.pow_succ]
      have hnx : invX n (j + 1) = if (n * V % 4294967296) &&& B ≠ 0 then V ||| B else V := by
        show (if (n * invX n j % 4294967296) &&& 2 ^ (j + 1) ≠ 0 then invX n j ||| 2 ^ (j + 1) else invX n j) = _
        rw [HV.out, hB2]
      obtain ⟨M, hM⟩ : ∃ M, n * V % 4294967296 = M := ⟨_, rfl⟩
      have lM : M < 4294967296 := by omega
      have hM1 : (n : Int) * (V : Int) % 4294967296 = (M : Int) := by rw [← hM, ← Int.natCast_mul]; omega
      have hM2 : IntKind.u32.wrap ((n : Int) * (V : Int)) = (M : Int) := by rw [IntKind.wrap_u32]; exact hM1
      have ha := and_u32 M B lM lB
      have ho := or_u32 V B lV lB
      have lo : V ||| B < 4294967296 := Nat.or_lt_two_pow (n := 32) lV lB
      rw [hM] at hnx
      have e0 : ((B : Int) != 0) = true := by simpa using lB0
      obtain ⟨B2, hB4⟩ : ∃ B2, 2 ^ (j + 1 + 1) % 4294967296 = B2 := ⟨_, rfl⟩
      rw [hB4] at hB3
      have hB5 : (B : Int) * 2 % 4294967296 = (B2 : Int) := by omega
      have hB6 : IntKind.u32.wrap ((B : Int) * 2) = (B2 : Int) := by rw [IntKind.wrap_u32]; exact hB5
      have hms : (if (B2 : Int) = 0 then 0 else 4294967296 - B2) < 4294967296 - B := by
        split
        · omega
        · rename_i h0
          have : B * 2 < 4294967296 := by
            rcases Nat.lt_or_ge (j + 2) 32 with l | l
            · have p : 2 ^ (j + 1 + 1) < 4294967296 := by
                have q : 2 ^ (j + 1 + 1) < 2 ^ 32 := Nat.pow_lt_pow_right (by decide) (by omega)
                simpa using q
              rw [Nat.pow_succ, hB2] at p; exact p
            · exfalso
              obtain rfl : j = 30 := by omega
              have : B2 = 0 := by rw [← hB4]
              omega
          omega
      have HB4 := Lib.hid hB4
      have HMS := Lib.hid hms
      by_cases c : (M &&& B) = 0
      · have e1 : (((M &&& B : Nat) : Int) != 0) = false := by simpa using c
        rw [if_neg (by simpa using c)] at hnx
        have HN := Lib.hid hnx
        clear hnx hM hB hB2 hB3 hB4 hms c p0 p1
        go_wp2
        go_round
        case rel => exact ⟨j + 1, by omega, ⟨V, rfl, HN.out⟩, ⟨B2, rfl, HB4.out⟩⟩
        case measure =>
          have := HMS.out
          simp [intOf, lB0]
          simpa using this
      · have e1 : (((M &&& B : Nat) : Int) != 0) = true := by simpa using c
        rw [if_pos c] at hnx
        have HN := Lib.hid hnx
        clear hnx hM hB hB2 hB3 hB4 hms c p0 p1
        go_wp2
        go_round
        case rel => exact ⟨j + 1, by omega, ⟨V ||| B, rfl, HN.out⟩, ⟨B2, rfl, HB4.out⟩⟩
        case measure =>
          have := HMS.out
          simp [intOf, lB0]
          simpa using this
    · obtain rfl : j = 31 := by omega
      obtain rfl : B = 0 := by rw [← hB]
      have e := HV.out
      rw [HR.out] at e
      subst e
      go_wp2
      go_ret
      exact ⟨rfl, rfl⟩

end Go.Proofs.Ytkffoamdlgfcgaa
