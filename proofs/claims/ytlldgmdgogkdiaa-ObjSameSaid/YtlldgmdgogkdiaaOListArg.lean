/- Package obj's list[uint64]: what it puts and reads, by walks. -/
import Derived.Test.YtlldgmdgogkdiaaOItemG
namespace Go.Proofs.Ytlldgmdgogkdiaa
set_option linter.unusedVariables false
set_option maxRecDepth 20000
open Go.ChangeShapes Go.WideShapes Go.ChangeAt Go.RowKit Go.Joins
open Go.ChangeMaps (open_string shut_string)

theorem infoArg : (Try.prog.info? 23).map (fun i => (i.zero, i.size, i.bytes)) = some (some (.int .u64 0), 1, 8) := by kernel_rfl
theorem makeArg (n : Nat) (hn : n < 1000000) (w : World) : (Instr.makeSlice 24 (.int .i64 (n : Int)) (.int .i64 (n : Int))).run Try.prog w = .ok (.slice (some ⟨w.heap.size, 0, none⟩) n n) (w.alloc (.cells (madeCells #[.int .u64 0] (n * 1)) 23)) := by
  obtain ⟨i0, hi, hz0, hz1, hz2⟩ := info_parts infoArg
  have h := run_make (P := Try.prog) (w := w) 24 23 i0 (.int .u64 0) Try.underlying24 hi hz0 .i64 .i64 (n : Int) (n : Int) (by omega) (by omega) (by rw [hz2]; omega) (by omega)
  rw [hz1, Int.toNat_natCast] at h
  exact h
theorem lenArg : ∀ x, cArg.ok x → x.length = ksArg.length := by
  intro x h
  obtain ⟨n, rfl, _⟩ := h
  rfl
end Go.Proofs.Ytlldgmdgogkdiaa
