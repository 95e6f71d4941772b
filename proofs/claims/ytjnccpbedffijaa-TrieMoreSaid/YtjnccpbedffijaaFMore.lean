/- What the calls Bytes, Text, Match and Prefix of package field do: contracts, by walks. -/
import Derived.Test.YtjnccpbedffijaaFGet
import Derived.Test.YtjnccpbedffijaaAwake
namespace Go.Proofs.Ytjnccpbedffijaa
set_option linter.unusedVariables false
open Go.RowKit

/-- How many bytes a width needs. -/
def bytesF (n : Int) : Int := if 1 ≤ n ∧ n ≤ 128 then (n + 7) / 8 else 0
/-- A field's text. -/
def textF (x : BitVec 128) (n : Nat) : ByteArray := (textW (x &&& mask n)).extract (16 - (n + 7) / 8) 16

theorem match_keep {V W w : World} {a0 a1 a2 a3 a4 a5 : Addr} {v0 v1 v2 v3 v4 v5 : Value} (g : Grown W w) (h : W.cell? a0 = some v0 ∧ W.cell? a1 = some v1 ∧ W.cell? a2 = some v2 ∧ W.cell? a3 = some v3 ∧ W.cell? a4 = some v4 ∧ W.cell? a5 = some v5 ∧ Hid (Grown V W)) :
    w.cell? a0 = some v0 ∧ w.cell? a1 = some v1 ∧ w.cell? a2 = some v2 ∧ w.cell? a3 = some v3 ∧ w.cell? a4 = some v4 ∧ w.cell? a5 = some v5 ∧ Hid (Grown V w) :=
  ⟨gkeep g h.1, gkeep g h.2.1, gkeep g h.2.2.1, gkeep g h.2.2.2.1, gkeep g h.2.2.2.2.1, gkeep g h.2.2.2.2.2.1, h.2.2.2.2.2.2.out.trans3 g⟩

theorem isW_beq {a b c d : Int} {x y : BitVec 128} (h : IsW a b x) (k : IsW c d y) : decide (x = y) = ((a == c) && (b == d)) := by
  rw [Bool.eq_iff_iff, decide_eq_true_eq, Bool.and_eq_true, beq_iff_eq, beq_iff_eq]
  constructor
  · rintro rfl; exact ⟨h.h.trans k.h.symm, h.l.trans k.l.symm⟩
  · rintro ⟨p, q⟩; exact h.inj k p q

theorem bitLen_8 : ∀ x : Fin 256, x.val ≠ 0 → ∃ z : Fin 8, Lib.bitLen x.val + z.val = 8 ∧ x.val / 2 ^ (8 - z.val) = 0 ∧ x.val / 2 ^ (7 - z.val) % 2 = 1 := by decide +kernel
theorem xor_zero_eq {a b : Nat} (h : a ^^^ b = 0) : a = b := by
  have := congrArg (· ^^^ b) h
  simpa [Nat.xor_assoc] using this
theorem bitLen_xor8 (a b : Nat) (ha : a < 256) (hb : b < 256) (h : a ≠ b) : ∃ z, z < 8 ∧ Lib.bitLen (a ^^^ b) + z = 8 ∧ a / 2 ^ (8 - z) = b / 2 ^ (8 - z) ∧ a / 2 ^ (7 - z) % 2 ≠ b / 2 ^ (7 - z) % 2 := by
  have hx : a ^^^ b < 256 := Nat.xor_lt_two_pow (n := 8) ha hb
  have hn : a ^^^ b ≠ 0 := by intro e; exact h (xor_zero_eq e)
  obtain ⟨z, z1, z2, z3⟩ := bitLen_8 ⟨a ^^^ b, hx⟩ hn
  refine ⟨z.val, z.isLt, z1, ?_, ?_⟩
  · simp only [Nat.xor_div_two_pow] at z2
    exact xor_zero_eq z2
  · simp only [Nat.xor_div_two_pow] at z3
    have m : (a / 2 ^ (7 - z.val) ^^^ b / 2 ^ (7 - z.val)) % 2 = a / 2 ^ (7 - z.val) % 2 ^^^ b / 2 ^ (7 - z.val) % 2 := Nat.xor_mod_two_pow (n := 1)
    rw [m] at z3
    intro e
    rw [e, Nat.xor_self] at z3
    exact absurd z3 (by decide)

/-- The place at which two texts first differ, told by their bytes. -/
theorem isPre_at {s t : ByteArray} {j : Nat} (hs : j < s.size) (ht : j < t.size) (h : ∀ i, i < j → byteS s i = byteS t i) (hne : byteS s j ≠ byteS t j) :
    IsPre s t (8 * j + (8 - Lib.bitLen (byteS s j ^^^ byteS t j))) ∧ Lib.bitLen (byteS s j ^^^ byteS t j) ≤ 8 := by
  obtain ⟨z, z0, z1, z2, z3⟩ := bitLen_xor8 _ _ (byteS_lt s j) (byteS_lt t j) hne
  have e : 8 - Lib.bitLen (byteS s j ^^^ byteS t j) = z := by omega
  rw [e]
  refine ⟨⟨by omega, fun p hp => ?_, fun _ => ?_⟩, by omega⟩
  · rcases Nat.lt_or_ge p (8 * j) with l | l
    · unfold bitS; rw [h (p / 8) (by omega)]
    · obtain ⟨r, rfl⟩ : ∃ r, p = 8 * j + r := ⟨p - 8 * j, by omega⟩
      rw [bitS_at s j r (by omega), bitS_at t j r (by omega)]
      have q : 7 - r = (8 - z) + (z - 1 - r) := by omega
      rw [q, Nat.pow_add, ← Nat.div_div_eq_div_mul, ← Nat.div_div_eq_div_mul, z2]
  · rw [bitS_at s j z z0, bitS_at t j z z0]; exact z3
theorem isPre_all {s t : ByteArray} (h : ∀ i, i < min s.size t.size → byteS s i = byteS t i) : IsPre s t (8 * min s.size t.size) :=
  ⟨Nat.le_refl _, fun p hp => by unfold bitS; rw [h (p / 8) (by omega)], fun k => absurd k (by omega)⟩

end Go.Proofs.Ytjnccpbedffijaa
