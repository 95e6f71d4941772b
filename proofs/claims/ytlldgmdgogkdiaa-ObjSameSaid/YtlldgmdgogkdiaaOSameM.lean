/- The helper same of layer 8's laws: are all objects of two messages the same, by a walk. -/
import Derived.Test.YtlldgmdgogkdiaaORsG
import Derived.Test.YtlldgmdgogkdiaaOMsgA
namespace Go.Proofs.Ytlldgmdgogkdiaa
set_option linter.unusedVariables false
set_option maxRecDepth 20000
open Go.ChangeShapes Go.WideShapes Go.ChangeAt Go.RowKit Go.Joins
open Go.ChangeMaps (open_string shut_string)

theorem some_bool2 (p : Prop) : ∃ b : Bool, b = true ↔ p := by
  by_cases h : p
  · exact ⟨true, by simp [h]⟩
  · exact ⟨false, by simp [h]⟩
theorem tell_bool2 {p : Prop} {a b : Bool} (h : a = true ↔ p) (k : b = true ↔ p) : a = b := by
  cases a <;> cases b <;> simp_all
end Go.Proofs.Ytlldgmdgogkdiaa
