/- OLit -/
import Derived.Test.YtoopdhgmdjienaaGreatDoorPkW23
import Derived.Laws.Tables
namespace Go.Proofs.YtoopdhgmdjienaaGreatDoor
set_option linter.unusedVariables false
set_option maxRecDepth 20000
open Go.ChangeShapes Go.WideShapes Go.ChangeAt Go.RowKit Go.Joins
open Go.ChangeMaps (open_string shut_string)
theorem zM_size : zM.size = 52 := rfl
def zV (k : Nat) : List ValN := zeroG (csKind k)
theorem zM_rep (w : World) : RepA w zM zV := ⟨rfl, zeroNode w, zeroField w, zeroTable w, zeroEntry w, zeroBlock w, zeroGroup w, zeroMeter w, zeroRegs w⟩
theorem build0 (w : World) : (Instr.build 51 #[]).run Tryz.prog w = .ok (.agg zM) w := run_build w _ #[] zM (by kernel_rfl)
end Go.Proofs.YtoopdhgmdjienaaGreatDoor
