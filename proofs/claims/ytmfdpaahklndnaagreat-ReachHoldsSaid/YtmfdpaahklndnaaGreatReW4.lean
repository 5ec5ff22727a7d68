/- A walk of layer reach, over the project's contracts as they are. -/
import Derived.Test.YtmfdpaahklndnaaGreatReP
import Derived.Test.YtmfdpaahklndnaaGreatReLaw4
namespace Go.Proofs.YtmfdpaahklndnaaGreat
theorem walk_reachHolds : type_of% (walk_reachHoldsK reB) := walk_reachHoldsK reB

end Go.Proofs.YtmfdpaahklndnaaGreat
