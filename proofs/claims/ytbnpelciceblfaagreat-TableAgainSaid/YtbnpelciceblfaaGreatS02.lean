/- UIs -/
import Derived.Test.YtbnpelciceblfaaGreatS01
import Derived.Test.YtbnpelciceblfaaGreatQ35
namespace Go.Proofs.YtbnpelciceblfaaGreat
set_option linter.unusedVariables false
open Go.ChangeShapes Go.WideShapes Go.ChangeAt Go.RowKit Go.Joins Go.Maps Go.ChangeMaps
set_option maxHeartbeats 64000000
theorem lA:butL [] xA ++ [xA] = [xA]:=rfl
end Go.Proofs.YtbnpelciceblfaaGreat
