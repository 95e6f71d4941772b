/- SameNode .. SameRegs of the document's answers of layer 8: contracts, by walks. -/
import Derived.Test.YtilpimilbjcifaaGreatDoorShape
import Derived.Test.YtilpimilbjcifaaGreatDoorOpen
import Derived.Test.YtilpimilbjcifaaGreatDoorMathG
import Derived.WalkKit
import Derived.Lib.Hide
import Derived.Deep.DeepCutAuto
import Derived.WalkLawsBesides
import Derived.WalkSpells
import Derived.BigQuiet
import Derived.BigRegion
import Derived.Deep.RegionHeld3
namespace Go.Proofs.YtilpimilbjcifaaGreatDoor
set_option linter.unusedVariables false
open Go.ChangeShapes Go.WideShapes Go.ChangeAt Go.RowKit Go.Joins
open Go.ChangeMaps (open_string shut_string)


theorem row_cell {w : World} {a : Addr} {size : Nat} {l : List (List Value)} (h : RowAt w (some a) size l) {j : Nat} {x : List Value} (hx : l[j]? = some x) : (∀ v, x[0]? = some v → w.cell? (a.add (j * size)) = some v) ∧ ∀ i v, x[i + 1]? = some v → w.cell? ⟨(a.add (j * size)).block, (a.add (j * size)).off + (i + 1), none⟩ = some v := by
  have k := (h.cell a rfl j x hx).2
  refine ⟨fun v hv => ?_, fun i v hv => ?_⟩
  · have q := k 0 v hv
    rw [Addr.add_zero'] at q; exact q
  · have q := k (i + 1) v hv
    rw [Addr.add_succ'] at q; exact q
theorem take_one {α : Type} {l k : List α} {j : Nat} {x : α} (h : l.take j = k.take j) (h1 : l[j]? = some x) (h2 : k[j]? = some x) : l.take (j + 1) = k.take (j + 1) := by
  obtain ⟨a, e1⟩ := List.getElem?_eq_some_iff.1 h1
  obtain ⟨b, e2⟩ := List.getElem?_eq_some_iff.1 h2
  rw [List.take_succ_eq_append_getElem a, List.take_succ_eq_append_getElem b, h, e1, e2]

end Go.Proofs.YtilpimilbjcifaaGreatDoor
