/- YEnt -/
import Derived.Test.YtbnpelciceblfaaGreatQ35
namespace Go.Proofs.YtbnpelciceblfaaGreat
set_option linter.unusedVariables false
open Go.ChangeShapes Go.WideShapes Go.ChangeAt Go.RowKit Go.Joins
set_option maxHeartbeats 64000000
theorem cellsE_append (a b:List EntM):cellsE (a ++ b) = cellsE a ++ cellsE b:=List.flatMap_append
end Go.Proofs.YtbnpelciceblfaaGreat
