/- The helper large of layer 8's laws, by a walk. -/
import Derived.Test.YtilpimilbjcifaaGreatDoorOTopB
namespace Go.Proofs.YtilpimilbjcifaaGreatDoor
set_option linter.unusedVariables false
set_option maxRecDepth 20000
open Go.ChangeShapes Go.WideShapes Go.ChangeAt Go.RowKit Go.Joins
open Go.ChangeMaps (open_string shut_string)

end Go.Proofs.YtilpimilbjcifaaGreatDoor
