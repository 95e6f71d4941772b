/- What awake of the statements of package word answers: true: the examples are as they are told. -/
import Derived.Test.YtjnccpbedffijaaOf
namespace Go.Proofs.Ytjnccpbedffijaa
set_option linter.unusedVariables false
open Go.RowKit

theorem keep4 {W w : World} {a b c d : Addr} {p q r s : Value} (g : Grown W w) (h : W.cell? a = some p ∧ W.cell? b = some q ∧ W.cell? c = some r ∧ W.cell? d = some s) :
    w.cell? a = some p ∧ w.cell? b = some q ∧ w.cell? c = some r ∧ w.cell? d = some s := ⟨gkeep g h.1, gkeep g h.2.1, gkeep g h.2.2.1, gkeep g h.2.2.2⟩
theorem keep5 {V W w : World} {a b c d : Addr} {p q r s : Value} (g : Grown W w) (h : W.cell? a = some p ∧ W.cell? b = some q ∧ W.cell? c = some r ∧ W.cell? d = some s ∧ Hid (Grown V W)) :
    w.cell? a = some p ∧ w.cell? b = some q ∧ w.cell? c = some r ∧ w.cell? d = some s ∧ Hid (Grown V w) := ⟨gkeep g h.1, gkeep g h.2.1, gkeep g h.2.2.1, gkeep g h.2.2.2.1, h.2.2.2.2.out.trans3 g⟩
theorem ab_word : IsW 0 24930 (wordOf (⟨#[97, 98]⟩ : ByteArray).data.toList) := ⟨by decide, by decide⟩

end Go.Proofs.Ytjnccpbedffijaa
