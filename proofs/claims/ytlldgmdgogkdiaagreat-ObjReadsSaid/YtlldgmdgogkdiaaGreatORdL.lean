/- Small laws for the document's readers with a list. -/
import Derived.Test.YtlldgmdgogkdiaaGreatOHelp
import Derived.Test.YtlldgmdgogkdiaaGreatOReadG
import Derived.Test.YtlldgmdgogkdiaaGreatOTopB
namespace Go.Proofs.YtlldgmdgogkdiaaGreat
set_option linter.unusedVariables false
open Go.ChangeShapes Go.WideShapes Go.ChangeAt Go.RowKit Go.Joins

theorem perm5 {α : Type} (a b c d e : α) : [a, b, c, d, e].Perm [e, c, a, b, d] :=
  (List.perm_append_comm (l₁ := [a, b, c, d]) (l₂ := [e])).trans (.cons e ((List.perm_append_comm (l₁ := [a, b]) (l₂ := [c])).append_right [d]))
theorem Own.in5 {V w : World} {a b c d e : Thing} (H : Own V w [a, b, c, d, e]) : Own V w [e, c, a, b, d] := H.perm (perm5 a b c d e)
theorem Own.out5 {V w : World} {a b c d e : Thing} (H : Own V w [e, c, a, b, d]) : Own V w [a, b, c, d, e] := H.perm (perm5 a b c d e).symm
theorem liesL (w : World) (C : Array Value) (t : TypeId) (h : ∀ x ∈ C.toList, x.oneCell' = true) :
    (∀ (j : Nat) (x : Value), C.toList[j]? = some x → (w.alloc (.cells C t)).cell? ((⟨w.heap.size, 0, none⟩ : Addr).add j) = some x) ∧ (∀ x ∈ C.toList, x.oneCell' = true) := by
  refine ⟨fun j x hj => ?_, h⟩
  rw [Addr.add_mid, Nat.zero_add]
  exact blk_cell (heap_alloc_new w _) j (by rw [← Array.getElem?_toList]; exact hj)
end Go.Proofs.YtlldgmdgogkdiaaGreat
