/- Package obj's list[api.Arm]: what it puts and reads, by walks. -/
import Derived.Test.YtlldgmdgogkdiaaOItemG
namespace Go.Proofs.Ytlldgmdgogkdiaa
set_option linter.unusedVariables false
set_option maxRecDepth 20000
open Go.ChangeShapes Go.WideShapes Go.ChangeAt Go.RowKit Go.Joins
open Go.ChangeMaps (open_string shut_string)

theorem infoArm : (Try.prog.info? 72).map (fun i => (i.zero, i.size, i.bytes)) = some (some (.agg #[.int .u32 0, .int .i64 0]), 2, 16) := by kernel_rfl
theorem makeArm (n : Nat) (hn : n < 1000000) (w : World) : (Instr.makeSlice 25 (.int .i64 (n : Int)) (.int .i64 (n : Int))).run Try.prog w = .ok (.slice (some ⟨w.heap.size, 0, none⟩) n n) (w.alloc (.cells (madeCells #[.int .u32 0, .int .i64 0] (n * 2)) 72)) := by
  obtain ⟨i0, hi, hz0, hz1, hz2⟩ := info_parts infoArm
  have h := run_make (P := Try.prog) (w := w) 25 72 i0 (.agg #[.int .u32 0, .int .i64 0]) Try.underlying25 hi hz0 .i64 .i64 (n : Int) (n : Int) (by omega) (by omega) (by rw [hz2]; omega) (by omega)
  rw [hz1, Int.toNat_natCast] at h
  exact h
theorem lenArm : ∀ x, cArm.ok x → x.length = ksArm.length := by
  intro x h
  exact okG_length _ _ h
end Go.Proofs.Ytlldgmdgogkdiaa
