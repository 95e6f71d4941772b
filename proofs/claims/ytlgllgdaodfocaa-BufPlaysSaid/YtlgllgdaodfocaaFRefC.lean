/- What the document's answer Match of layer 2 does. -/
import Derived.Test.YtlgllgdaodfocaaFRefB
import Derived.Deep.DeepCutAuto
namespace Go.Proofs.Ytlgllgdaodfocaa
set_option linter.unusedVariables false
open Go.RowKit

/-- A bit of a word, from its lowest one. -/
def fbit (z : BitVec 128) (j : Nat) : Nat := z.toNat / 2 ^ j % 2
theorem fbit_if (z : BitVec 128) (j : Nat) : fbit z j = if z.getLsbD j then 1 else 0 := by
  unfold fbit
  rw [BitVec.getLsbD, Nat.testBit, Nat.shiftRight_eq_div_pow, Nat.and_comm, Nat.and_one_is_mod]
  rcases Nat.mod_two_eq_zero_or_one (z.toNat / 2 ^ j) with q | q <;> rw [q] <;> rfl
theorem fbit_le (z : BitVec 128) (j : Nat) : fbit z j ≤ 1 := by unfold fbit; omega
theorem fbit_and (a b : BitVec 128) (j : Nat) : fbit (a &&& b) j = fbit a j * fbit b j := by
  rw [fbit_if, fbit_if, fbit_if, BitVec.getLsbD_and]; cases a.getLsbD j <;> cases b.getLsbD j <;> rfl
theorem fbit_eq {a b : BitVec 128} (h : ∀ j, j < 128 → fbit a j = fbit b j) : a = b := by
  apply eq_of_bits
  intro i hi
  have e := h i hi
  rw [fbit_if, fbit_if] at e
  revert e
  cases a.getLsbD i <;> cases b.getLsbD i <;> simp

theorem gkeep6 {V W w : World} {a0 a1 a2 a3 a4 a5 : Addr} {v0 v1 v2 v3 v4 v5 : Value} (g : Grown W w) (h : W.cell? a0 = some v0 ∧ W.cell? a1 = some v1 ∧ W.cell? a2 = some v2 ∧ W.cell? a3 = some v3 ∧ W.cell? a4 = some v4 ∧ W.cell? a5 = some v5 ∧ Hid (Grown V W)) :
    w.cell? a0 = some v0 ∧ w.cell? a1 = some v1 ∧ w.cell? a2 = some v2 ∧ w.cell? a3 = some v3 ∧ w.cell? a4 = some v4 ∧ w.cell? a5 = some v5 ∧ Hid (Grown V w) :=
  ⟨gkeep g h.1, gkeep g h.2.1, gkeep g h.2.2.1, gkeep g h.2.2.2.1, gkeep g h.2.2.2.2.1, gkeep g h.2.2.2.2.2.1, h.2.2.2.2.2.2.out.trans3 g⟩

end Go.Proofs.Ytlgllgdaodfocaa
