/- What awake of the statements of package field answers: true: the examples are as they are told. -/
import Derived.Test.YtjnccpbedffijaaFPut
namespace Go.Proofs.Ytjnccpbedffijaa
set_option linter.unusedVariables false
open Go.RowKit

theorem keep2 {V W w : World} {a b : Addr} {p q : Value} (g : Grown W w) (h : W.cell? a = some p ∧ W.cell? b = some q ∧ Hid (Grown V W)) :
    w.cell? a = some p ∧ w.cell? b = some q ∧ Hid (Grown V w) := ⟨gkeep g h.1, gkeep g h.2.1, h.2.2.out.trans3 g⟩

/-- The texts of the examples. -/
abbrev ex12 : ByteArray := ⟨#[18, 52]⟩
theorem ex_err : errF ex12.size 8 9 = 4 := by decide
theorem ex_put : putT ex12 4 4 15#128 = ⟨#[31, 52]⟩ := by decide +kernel
theorem ex_text5 : textF 31#128 5 = ⟨#[31]⟩ := by decide +kernel
theorem ex_text9 : textF 511#128 9 = ⟨#[1, 255]⟩ := by decide +kernel
theorem ex_pre : IsPre ⟨#[18]⟩ ⟨#[19]⟩ 7 := ⟨by decide, by decide, fun _ => by decide⟩
theorem ex_is1 : IsW 0 2 (fldW ex12 4 4) := ⟨by decide, by decide⟩
theorem ex_is2 : IsW 0 35 (fldW ex12 4 8) := ⟨by decide, by decide⟩
theorem ex_is3 : IsW 0 4660 (fldW ex12 0 16) := ⟨by decide, by decide⟩
theorem isW_low (l : Nat) (h : l < 18446744073709551616) : IsW 0 (l : Int) (BitVec.ofNat 128 l) := by
  refine isW_of (by omega) (by omega) ?_
  rw [BitVec.toNat_ofNat]; omega

theorem aw1 (w : World) : Calls Try.prog 35 #[.string ⟨#[18, 52]⟩, .int .i64 8, .int .i64 9] w fun e w' => e = .returned (.tuple #[.agg #[.int .u64 0, .int .u64 0], .int .i64 4]) ∧ Grown w w' :=
  get_bad ex12 8 9 (r := 4) (by decide) (by decide) (by decide) (by decide) (by decide) ex_err (by decide) w
theorem aw2 (w : World) : Calls Try.prog 36 #[.string ⟨#[18, 52]⟩, .int .i64 4, .int .i64 4, .agg #[.int .u64 0, .int .u64 15]] w fun e w' => e = .returned (.tuple #[.string ⟨#[31, 52]⟩, .int .i64 0]) ∧ Wider w w' :=
  put_c ex12 4 4 15#128 (by decide) (by decide) (by decide) (by decide) (isW_low 15 (by decide)) ex_put w
end Go.Proofs.Ytjnccpbedffijaa
