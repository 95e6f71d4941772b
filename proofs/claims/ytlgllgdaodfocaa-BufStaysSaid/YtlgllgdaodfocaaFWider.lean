/- (What stood here lies in Base.) -/
import Derived.Test.YtlgllgdaodfocaaFMore
import Derived.Test.YtlgllgdaodfocaaBase
namespace Go.Proofs.Ytlgllgdaodfocaa
end Go.Proofs.Ytlgllgdaodfocaa
