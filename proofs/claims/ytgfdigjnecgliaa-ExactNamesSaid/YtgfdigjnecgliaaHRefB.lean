/- What the document's answers inverse, Back and Of of layer 4 do, and the helper large of its statements. -/
import Derived.Test.YtgfdigjnecgliaaHRef
namespace Go.Proofs.Ytgfdigjnecgliaa
set_option linter.unusedVariables false
open Go.RowKit

/-- How inverse goes on: j bits are settled. -/
def invX (n : Nat) : Nat → Nat
  | 0 => 1
  | j + 1 => if (n * invX n j % 4294967296) &&& 2 ^ (j + 1) ≠ 0 then invX n j ||| 2 ^ (j + 1) else invX n j
theorem invX_lt (n : Nat) : ∀ j, j ≤ 31 → invX n j < 4294967296 := by
  intro j
  induction j with
  | zero => intro _; show 1 < _; decide
  | succ j ih =>
    intro h
    unfold invX
    have a := ih (by omega)
    split
    · have p : 2 ^ (j + 1) < 2 ^ 32 := Nat.pow_lt_pow_right (by decide) (by omega)
      exact Nat.or_lt_two_pow (n := 32) a p
    · exact a
theorem inv_a : invX 3266489909 31 = 0x7ED1B41D := by decide +kernel
theorem inv_b : invX 2246822507 31 = 0xA5CB9243 := by decide +kernel
theorem and_u32 (a b : Nat) (ha : a < 4294967296) (hb : b < 4294967296) : bits .and .u32 (a : Int) (b : Int) = ((a &&& b : Nat) : Int) := by
  have hx : a &&& b < 2 ^ 32 := Nat.and_lt_two_pow _ (by omega)
  have h1 : (BitVec.ofInt 32 (a : Int)).toNat = a := by
    rw [BitVec.ofInt_natCast, BitVec.toNat_ofNat]; exact Nat.mod_eq_of_lt (by omega)
  have h2 : (BitVec.ofInt 32 (b : Int)).toNat = b := by
    rw [BitVec.ofInt_natCast, BitVec.toNat_ofNat]; exact Nat.mod_eq_of_lt (by omega)
  show IntKind.u32.wrap ((BitVec.ofInt 32 (a : Int) &&& BitVec.ofInt 32 (b : Int)).toNat : Int) = _
  rw [BitVec.toNat_and, h1, h2, IntKind.wrap_u32]
  omega
theorem or_u32 (a b : Nat) (ha : a < 4294967296) (hb : b < 4294967296) : bits .or .u32 (a : Int) (b : Int) = ((a ||| b : Nat) : Int) := by
  have hx : a ||| b < 2 ^ 32 := Nat.or_lt_two_pow (by omega) (by omega)
  have h1 : (BitVec.ofInt 32 (a : Int)).toNat = a := by
    rw [BitVec.ofInt_natCast, BitVec.toNat_ofNat]; exact Nat.mod_eq_of_lt (by omega)
  have h2 : (BitVec.ofInt 32 (b : Int)).toNat = b := by
    rw [BitVec.ofInt_natCast, BitVec.toNat_ofNat]; exact Nat.mod_eq_of_lt (by omega)
  show IntKind.u32.wrap ((BitVec.ofInt 32 (a : Int) ||| BitVec.ofInt 32 (b : Int)).toNat : Int) = _
  rw [BitVec.toNat_or, h1, h2, IntKind.wrap_u32]
  omega

end Go.Proofs.Ytgfdigjnecgliaa
