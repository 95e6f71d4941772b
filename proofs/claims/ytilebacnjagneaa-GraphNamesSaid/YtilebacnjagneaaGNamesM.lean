/- Package graph: the closed statement's nodes, and what holds of them. No program is in sight. -/
import Derived.Test.YtilebacnjagneaaGEx
namespace Go.Proofs.Ytilebacnjagneaa
set_option linter.unusedVariables false

/-- Arms of the values ahead of n. -/
def armsUp (n : Nat) : List (Int × Int) := (List.range n).map fun (i : Nat) => ((i : Int), 0)
def ndG (id : Int) : NodV := ⟨id, 0, 0, 0, 0, 0, 0, [], 0⟩
def good8 : List NodV := [ndG 1, ⟨65534, 256, 0, 0, 0, 0, 0, [], 65535⟩, ⟨1, 0, 2048, 16, 256, 0, 0, [], 0⟩, ⟨1, 0, 0, 1, 1, 0, 0, [], 0⟩, ⟨1, 0, 0, 0, 0, 2048, 32, [(4294967295, 65535)], 0⟩, ⟨1, 0, 0, 0, 0, 0, 1, [], 0⟩, ⟨1, 0, 0, 0, 0, 0, 6, armsUp 32, 0⟩, ⟨1, 0, 0, 0, 0, 0, 5, armsUp 32, 0⟩]
def bad27 : List NodV := [ndG 0, ndG (-1), ndG 65535, ⟨1, -1, 0, 0, 0, 0, 0, [], 0⟩, ⟨1, 257, 0, 0, 0, 0, 0, [], 0⟩, ⟨1, 0, 0, 0, 0, 0, 0, [], -1⟩, ⟨1, 0, 0, 0, 0, 0, 0, [], 65536⟩, ⟨1, 0, 1, 0, 0, 0, 0, [], 0⟩, ⟨1, 0, 0, 0, 1, 0, 0, [], 0⟩, ⟨1, 0, 0, 1, 0, 0, 0, [], 0⟩, ⟨1, 0, 0, 17, 1, 0, 0, [], 0⟩, ⟨1, 0, 0, -1, 1, 0, 0, [], 0⟩, ⟨1, 0, 0, 1, 257, 0, 0, [], 0⟩, ⟨1, 0, -1, 1, 1, 0, 0, [], 0⟩, ⟨1, 0, 2049, 1, 1, 0, 0, [], 0⟩, ⟨1, 0, 0, 0, 0, 1, 0, [], 0⟩, ⟨1, 0, 0, 0, 0, 0, 0, armsUp 1, 0⟩, ⟨1, 0, 0, 0, 0, 0, 33, [], 0⟩, ⟨1, 0, 0, 0, 0, 0, -1, [], 0⟩, ⟨1, 0, 0, 0, 0, -1, 1, [], 0⟩, ⟨1, 0, 0, 0, 0, 2049, 1, [], 0⟩, ⟨1, 0, 0, 0, 0, 0, 6, armsUp 33, 0⟩, ⟨1, 0, 0, 0, 0, 0, 4, armsUp 17, 0⟩, ⟨1, 0, 0, 0, 0, 0, 4, [(1, 0), (1, 0)], 0⟩, ⟨1, 0, 0, 0, 0, 0, 4, [(2, 0), (1, 0)], 0⟩, ⟨1, 0, 0, 0, 0, 0, 4, [(0, -1)], 0⟩, ⟨1, 0, 0, 0, 0, 0, 4, [(0, 65536)], 0⟩]
theorem good8_form : ∀ x ∈ good8, formG x = true := fun x hx => List.all_eq_true.1 (by decide +kernel : good8.all formG = true) x hx
theorem bad27_form : ∀ x ∈ bad27, formG x = false := fun x hx => by
  have := List.all_eq_true.1 (by decide +kernel : bad27.all (fun x => !formG x) = true) x hx
  simpa using this
theorem bad27_may : ∀ x ∈ bad27, mayG [x] = 3 := fun x hx => mayG_form (by
  show (formG x && decide (0 < x.id) && formsG x.id []) = false
  rw [bad27_form x hx]; rfl)
/-- k nodes, each of which goes on to the next one. -/
def manyG (k : Nat) : List NodV := (List.range k).map fun (i : Nat) => { ndG ((i : Int) + 1) with oth := (i : Int) + 2 }
/-- The same, the 32nd going on to z. -/
def manyZ (k : Nat) (z : Int) : List NodV := (List.range k).map fun (i : Nat) => { ndG ((i : Int) + 1) with oth := if i = 31 then z else (i : Int) + 2 }
theorem many33 : mayG (manyG 33) = 12 := mayG_full (by decide +kernel) (by decide +kernel)
theorem many32 : mayG (manyG 32) = 8 := mayG_ref (by decide +kernel) (by decide +kernel) (by decide +kernel)
theorem many32_ok : Valid (manyZ 32 0) := valid_by 34 (by decide +kernel) (by decide +kernel) (by decide +kernel) (by decide +kernel)
theorem many32_may : mayG (manyZ 32 0) = 0 := many32_ok.may
theorem many32_long : LongG (manyZ 32 0) 32 := long_by 34 many32_ok (by decide +kernel)
theorem many33_long : LongG (manyZ 33 0) 0 := .inr ⟨by rw [mayG_full (by decide +kernel) (by decide +kernel)]; decide, rfl⟩
theorem many32_ring : mayG (manyZ 32 32) = 10 := by
  refine mayG_ring (by decide +kernel) (by decide +kernel) (by decide +kernel) fun h => ?_
  obtain ⟨x, hx, hg⟩ : ∃ x, nodeG (manyZ 32 32) 32 = some x ∧ (32 : Int) ∈ x.goes := ⟨{ ndG 32 with oth := 32 }, rfl, by decide⟩
  obtain ⟨n, hn⟩ := h.dep 32
  exact (RunsTo.one hx hg).ring n hn
theorem l21_may : mayG [ndG 2, ndG 1] = 3 := mayG_form (by decide +kernel)
theorem l11_may : mayG [ndG 1, ndG 1] = 3 := mayG_form (by decide +kernel)
theorem l34_may : mayG [{ ndG 3 with oth := 3 }, { ndG 4 with oth := 9 }] = 8 := mayG_ref (by decide +kernel) (by decide +kernel) (by decide +kernel)
theorem l2_ok : Valid [ndG 2] := valid_by 3 (by decide +kernel) (by decide +kernel) (by decide +kernel) (by decide +kernel)
theorem l2_long : LongG [ndG 2] 0 := long_by 3 l2_ok (by decide +kernel)
theorem nil_next : nextG [] 1 5 = 0 := rfl
theorem l7_next : nextG [{ ndG 7 with oth := 4 }] 7 5 = 4 := by decide +kernel

end Go.Proofs.Ytilebacnjagneaa
