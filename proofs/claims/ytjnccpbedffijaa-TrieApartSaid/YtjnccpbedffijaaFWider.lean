/- (What stood here lies in Base.) -/
import Derived.Test.YtjnccpbedffijaaFMore
import Derived.Test.YtjnccpbedffijaaBase
namespace Go.Proofs.Ytjnccpbedffijaa
end Go.Proofs.Ytjnccpbedffijaa
