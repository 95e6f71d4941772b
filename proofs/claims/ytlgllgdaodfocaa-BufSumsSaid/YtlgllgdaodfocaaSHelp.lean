/- What the helpers of the statements of layer 3 do, and Joined of the document's answers. -/
import Derived.Test.YtlgllgdaodfocaaSRef
namespace Go.Proofs.Ytlgllgdaodfocaa
set_option linter.unusedVariables false
open Go.RowKit

theorem or_u16 (a b : Nat) (ha : a < 65536) (hb : b < 65536) : bits .or .u16 (a : Int) (b : Int) = ((a ||| b : Nat) : Int) := by
  have hx : a ||| b < 2 ^ 16 := Nat.or_lt_two_pow (by omega) (by omega)
  have h1 : (BitVec.ofInt 16 (a : Int)).toNat = a := by
    rw [BitVec.ofInt_natCast, BitVec.toNat_ofNat]; exact Nat.mod_eq_of_lt (by omega)
  have h2 : (BitVec.ofInt 16 (b : Int)).toNat = b := by
    rw [BitVec.ofInt_natCast, BitVec.toNat_ofNat]; exact Nat.mod_eq_of_lt (by omega)
  show IntKind.u16.wrap ((BitVec.ofInt 16 (a : Int) ||| BitVec.ofInt 16 (b : Int)).toNat : Int) = _
  rw [BitVec.toNat_or, h1, h2, IntKind.wrap_u16]
  omega
theorem xor_u16 (a b : Nat) (ha : a < 65536) (hb : b < 65536) : bits .xor .u16 (a : Int) (b : Int) = ((a ^^^ b : Nat) : Int) := by
  have hx : a ^^^ b < 2 ^ 16 := Nat.xor_lt_two_pow (by omega) (by omega)
  have h1 : (BitVec.ofInt 16 (a : Int)).toNat = a := by
    rw [BitVec.ofInt_natCast, BitVec.toNat_ofNat]; exact Nat.mod_eq_of_lt (by omega)
  have h2 : (BitVec.ofInt 16 (b : Int)).toNat = b := by
    rw [BitVec.ofInt_natCast, BitVec.toNat_ofNat]; exact Nat.mod_eq_of_lt (by omega)
  show IntKind.u16.wrap ((BitVec.ofInt 16 (a : Int) ^^^ BitVec.ofInt 16 (b : Int)).toNat : Int) = _
  rw [BitVec.toNat_xor, h1, h2, IntKind.wrap_u16]
  omega
theorem not_u16 (n : Nat) (h : n < 65536) : bits .xor .u16 IntKind.u16.max (n : Int) = 65535 - (n : Int) := by
  have e : IntKind.u16.max = ((65535 : Nat) : Int) := rfl
  rw [e, xor_u16 _ _ (by decide) h]
  have b : (BitVec.allOnes 16 ^^^ BitVec.ofNat 16 n).toNat = 65535 - n := by
    rw [BitVec.allOnes_xor, BitVec.toNat_not, BitVec.toNat_ofNat]; omega
  rw [BitVec.toNat_xor, BitVec.toNat_allOnes, BitVec.toNat_ofNat] at b
  have c : n % 2 ^ 16 = n := Nat.mod_eq_of_lt h
  rw [c] at b
  have d : (2 : Nat) ^ 16 - 1 = 65535 := by decide
  rw [d] at b
  omega
theorem turn_or (n : Nat) (h : n < 65536) : bits .or .u16 ((n : Int) * 256 % 65536) ((n : Int) / 256) = (turnW n : Int) := by
  have e1 : (n : Int) * 256 % 65536 = ((n * 256 % 65536 : Nat) : Int) := by omega
  have e2 : (n : Int) / 256 = ((n / 256 : Nat) : Int) := by omega
  rw [e1, e2, or_u16 _ _ (by omega) (by omega)]
  unfold turnW
  have e3 : n * 256 % 65536 = (n % 256) * 2 ^ 8 := by omega
  rw [e3, ← Nat.shiftLeft_eq, ← Nat.shiftLeft_add_eq_or_of_lt (show n / 256 < 2 ^ 8 by omega)]

/-- A text without its last byte, if it has one too many. -/
def evenS (s : ByteArray) : ByteArray := s.extract 0 (s.size - s.size % 2)
theorem evenS_size (s : ByteArray) : (evenS s).size = s.size - s.size % 2 := by unfold evenS; simp
/-- An even place within a text of n bytes, or at its end. -/
def placeI (n : Nat) (k : Int) : Int := 2 * wrap64 ((IntKind.u64.wrap k).tmod ((n : Int) / 2 + 1))
theorem place_ex (n : Nat) (k : Int) (hn : n < 1152921504606846976) : ∃ P : Nat, placeI n k = (P : Int) ∧ P % 2 = 0 ∧ P ≤ n := by
  unfold placeI
  have u0 : 0 ≤ IntKind.u64.wrap k := by rw [IntKind.wrap_u64]; omega
  rw [Int.tmod_eq_emod_of_nonneg u0]
  have v0 := Int.emod_nonneg (IntKind.u64.wrap k) (show (n : Int) / 2 + 1 ≠ 0 by omega)
  have v1 := Int.emod_lt_of_pos (IntKind.u64.wrap k) (show (0 : Int) < (n : Int) / 2 + 1 by omega)
  generalize IntKind.u64.wrap k % ((n : Int) / 2 + 1) = V at *
  have e1 : wrap64 V = V := by unfold wrap64; omega
  rw [e1]
  exact ⟨(2 * V).toNat, by omega, by omega, by omega⟩
/-- A word's two bytes. -/
def twoS (n : Nat) : ByteArray := strOfNums [((n / 256 : Nat) : Int), ((n % 256 : Nat) : Int)]
theorem twoS_data (n : Nat) (h : n < 65536) : ∃ a b : UInt8, (twoS n).data.toList = [a, b] ∧ a.toNat * 256 + b.toNat = n := by
  refine ⟨UInt8.ofNat (n / 256), UInt8.ofNat (n % 256), ?_, ?_⟩
  · unfold twoS; rw [strOfNums_data]
    simp only [List.map_cons, List.map_nil, Int.toNat_natCast]
  · rw [UInt8.toNat_ofNat', UInt8.toNat_ofNat']; omega
/-- How much texts are, as the statements reckon it. -/
def bulk (l : List ByteArray) : Nat := (l.map fun s => 1 + min 40000 s.size).sum
theorem bulk_snoc (l : List ByteArray) (s : ByteArray) : bulk (l ++ [s]) = bulk l + (1 + min 40000 s.size) := by unfold bulk; simp
theorem bulk_take (l : List ByteArray) (k : Nat) : bulk (l.take k) ≤ bulk l := by
  have e : bulk l = bulk (l.take k) + bulk (l.drop k) := by
    unfold bulk; rw [← List.sum_append, ← List.map_append, List.take_append_drop]
  omega
theorem ltake_snoc (l : List ByteArray) (k : Nat) (s : ByteArray) (h : l[k]? = some s) : l.take (k + 1) = l.take k ++ [s] := by
  have hk : k < l.length := (List.getElem?_eq_some_iff.1 h).1
  rw [List.take_succ_eq_append_getElem hk]
  congr 2
  rw [List.getElem?_eq_getElem hk] at h
  injection h

theorem joinL_take (l : List ByteArray) (k : Nat) : (joinL (l.take k)).size ≤ (joinL l).size := by
  rw [joinL_size, joinL_size]
  have e : (l.map fun s => s.size).sum = ((l.take k).map fun s => s.size).sum + ((l.drop k).map fun s => s.size).sum := by
    rw [← List.sum_append, ← List.map_append, List.take_append_drop]
  omega

end Go.Proofs.Ytlgllgdaodfocaa
