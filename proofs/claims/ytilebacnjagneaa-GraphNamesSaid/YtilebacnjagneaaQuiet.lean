/- A region that draws its order, whose calls may make memory but turn nothing: ONE walk in the text's order (Derived/Deep/Quiet.lean's theorem, at the class of all worlds that are wider). No program is in sight. -/
import Derived.Test.YtilebacnjagneaaBase
import Derived.BigQuiet
import Derived.Deep.Quiet
namespace Go.Proofs.Ytilebacnjagneaa
set_option linter.unusedVariables false
open Go.RowKit

/-- A world behind V of which nothing has turned. -/
structure After (V : World) where
  w : World
  h : Wider V w
instance (V : World) : Nonempty (After V) := ⟨⟨V, Wider.refl V⟩⟩
theorem wp_region_after {P : Program} {V : World} {id : Nat} {Q : Exit → Act → World → Prop} {a : Act} {w : World} {l : List Oper} (hm : P.follows .mixedOrders = true) (hB : Region.lexB .any l.toArray = true) (g : Wider V w)
    (h : wpQuiet P l.toArray (fun w' => ∃ x : After V, w' = x.w) (fun a' => ∀ w', (∃ x : After V, w' = x.w) → Q .normal a' w') l a) : (Code.region id l.toArray true).wp P Q a w :=
  wp_region_quiet (C := fun w' => ∃ x : After V, w' = x.w) hm hB ⟨⟨w.drew, g.drew⟩, rfl⟩ (by simpa using h)
theorem quiet_after {P : Program} {V : World} {f : FuncId} {args : Array Value} {x : After V} {v : Value} (h : Calls P f args x.w fun e w' => e = .returned v ∧ Wider x.w w') :
    Calls P f args x.w fun e w' => e = .returned v ∧ ∃ y : After V, w' = y.w :=
  h.mono fun _ w' k => ⟨k.1, ⟨w', x.h.trans k.2⟩, rfl⟩

end Go.Proofs.Ytilebacnjagneaa
