/- What the document's answers of layer 4 do. -/
import Derived.Test.YtgfdigjnecgliaaStrs
import Derived.Test.YtgfdigjnecgliaaHMath
import Derived.Test.YtgfdigjnecgliaaOpen
import Derived.WalkLawsBesides
import Derived.BigQuiet
import Derived.BigRegion
import Derived.LoopTactic
import Derived.Deep.LoopGhost
import Derived.Deep.DeepCutAuto
import Derived.IntWalk
import Derived.Laws.BytesArg
import Derived.Laws.Bits64b
namespace Go.Proofs.Ytgfdigjnecgliaa
set_option linter.unusedVariables false
open Go.RowKit

theorem xor_u32 (a b : Nat) (ha : a < 4294967296) (hb : b < 4294967296) : bits .xor .u32 (a : Int) (b : Int) = ((a ^^^ b : Nat) : Int) := by
  have hx : a ^^^ b < 2 ^ 32 := Nat.xor_lt_two_pow (by omega) (by omega)
  have h1 : (BitVec.ofInt 32 (a : Int)).toNat = a := by
    rw [BitVec.ofInt_natCast, BitVec.toNat_ofNat]; exact Nat.mod_eq_of_lt (by omega)
  have h2 : (BitVec.ofInt 32 (b : Int)).toNat = b := by
    rw [BitVec.ofInt_natCast, BitVec.toNat_ofNat]; exact Nat.mod_eq_of_lt (by omega)
  show IntKind.u32.wrap ((BitVec.ofInt 32 (a : Int) ^^^ BitVec.ofInt 32 (b : Int)).toNat : Int) = _
  rw [BitVec.toNat_xor, h1, h2, IntKind.wrap_u32]
  omega
theorem lt32 (x : BitVec 32) : x.toNat < 4294967296 := x.isLt
theorem xor_b (x y : BitVec 32) : bits .xor .u32 (x.toNat : Int) (y.toNat : Int) = ((x ^^^ y).toNat : Int) := by
  rw [xor_u32 _ _ (lt32 x) (lt32 y), BitVec.toNat_xor]
theorem mul_b (x y : BitVec 32) : IntKind.u32.wrap ((x.toNat : Int) * (y.toNat : Int)) = ((x * y).toNat : Int) := by
  rw [IntKind.wrap_u32, BitVec.toNat_mul, ← Int.natCast_mul]; omega
theorem shr_b (x : BitVec 32) (k : Nat) : ((x >>> k).toNat : Int) = (x.toNat : Int) / ((2 ^ k : Nat) : Int) := by
  rw [BitVec.toNat_ushiftRight, Nat.shiftRight_eq_div_pow, Int.natCast_ediv]

theorem hbtake (s : ByteArray) (k : Nat) (h : k < s.size) : s.data.toList.take (k + 1) = s.data.toList.take k ++ [s[k]] := by
  rw [List.take_succ_eq_append_getElem (by simpa using h)]; rfl
theorem step_b (x : BitVec 32) (c : UInt8) {b : Nat} (hb : (x ^^^ BitVec.ofNat 32 c.toNat).toNat = b) : bits .xor .u32 (x.toNat : Int) (c.toNat : Int) = (b : Int) ∧ IntKind.u32.wrap ((b : Int) * 16777619) = ((stepH x c).toNat : Int) := by
  have hc := c.toNat_lt
  have e : ((c.toNat : Nat) : Int) = ((BitVec.ofNat 32 c.toNat).toNat : Int) := by
    rw [BitVec.toNat_ofNat]; omega
  constructor
  · rw [e, xor_b, hb]
  · have m := mul_b (x ^^^ BitVec.ofNat 32 c.toNat) 16777619#32
    rw [hb] at m
    exact m

theorem fold_b (x : BitVec 32) {a b : Nat} (k : Nat) (ha : x.toNat = a) (hb : (x ^^^ (x >>> k)).toNat = b) : bits .xor .u32 (a : Int) ((a : Int) / ((2 ^ k : Nat) : Int)) = (b : Int) := by
  rw [← ha, ← shr_b, xor_b, hb]

end Go.Proofs.Ytgfdigjnecgliaa
