/- The law WordOrder: words stand to each other as their texts do, and what follows from that. No condition. -/
import Derived.Test.YtjhfkmjaobleiaaFrame
import Derived.Test.YtjhfkmjaobleiaaTexts
import Derived.WalkLawsBesides
import Derived.Lib.Hide
namespace Go.Proofs.Ytjhfkmjaobleiaa
set_option linter.unusedVariables false
open Go.ChangeShapes Go.WideShapes Go.ChangeAt Go.RowKit Go.Joins
open Go.ChangeMaps (open_string shut_string)

theorem ghid {V W w : World} (h : Hid (Grown V W)) (g : Grown W w) : Hid (Grown V w) := h.out.trans3 g
theorem halloc {V W : World} (h : Hid (Grown V W)) (c : Array Value) (t : TypeId) : Hid (Grown V (W.alloc (.cells c t))) := h.out.alloc c t
theorem keep5b {V W w : World} {a0 a1 a2 a3 : Addr} {v0 v1 v2 v3 : Value} (g : Grown W w) (h : W.cell? a0 = some v0 ∧ W.cell? a1 = some v1 ∧ W.cell? a2 = some v2 ∧ W.cell? a3 = some v3 ∧ Hid (Grown V W)) :
    w.cell? a0 = some v0 ∧ w.cell? a1 = some v1 ∧ w.cell? a2 = some v2 ∧ w.cell? a3 = some v3 ∧ Hid (Grown V w) := ⟨gkeep g h.1, gkeep g h.2.1, gkeep g h.2.2.1, gkeep g h.2.2.2.1, h.2.2.2.2.out.trans3 g⟩
theorem keep9 {V W w : World} {a0 a1 a2 a3 a4 a5 a6 a7 : Addr} {v0 v1 v2 v3 v4 v5 v6 v7 : Value} (g : Grown W w) (h : W.cell? a0 = some v0 ∧ W.cell? a1 = some v1 ∧ W.cell? a2 = some v2 ∧ W.cell? a3 = some v3 ∧ W.cell? a4 = some v4 ∧ W.cell? a5 = some v5 ∧ W.cell? a6 = some v6 ∧ W.cell? a7 = some v7 ∧ Hid (Grown V W)) :
    w.cell? a0 = some v0 ∧ w.cell? a1 = some v1 ∧ w.cell? a2 = some v2 ∧ w.cell? a3 = some v3 ∧ w.cell? a4 = some v4 ∧ w.cell? a5 = some v5 ∧ w.cell? a6 = some v6 ∧ w.cell? a7 = some v7 ∧ Hid (Grown V w) := ⟨gkeep g h.1, gkeep g h.2.1, gkeep g h.2.2.1, gkeep g h.2.2.2.1, gkeep g h.2.2.2.2.1, gkeep g h.2.2.2.2.2.1, gkeep g h.2.2.2.2.2.2.1, gkeep g h.2.2.2.2.2.2.2.1, h.2.2.2.2.2.2.2.2.out.trans3 g⟩

theorem compare_r (x y : BitVec 128) {ah al bh bl r : Int} (hx : IsW ah al x) (hy : IsW bh bl y) (hr : cmpW x y = r) (w : World) :
    Calls Try.prog 26 #[.agg #[.int .u64 ah, .int .u64 al], .agg #[.int .u64 bh, .int .u64 bl]] w fun e w' => e = .returned (.int .i64 r) ∧ Grown w w' := by
  rw [← hr]; exact compare_c x y hx hy w
theorem text_r (x : BitVec 128) {ah al : Int} {s : ByteArray} (hx : IsW ah al x) (hs : textW x = s) (w : World) :
    Calls Try.prog 25 #[.agg #[.int .u64 ah, .int .u64 al]] w fun e w' => e = .returned (.string s) ∧ Grown w w' := by
  rw [← hs]; exact text_c x hx w


end Go.Proofs.Ytjhfkmjaobleiaa
