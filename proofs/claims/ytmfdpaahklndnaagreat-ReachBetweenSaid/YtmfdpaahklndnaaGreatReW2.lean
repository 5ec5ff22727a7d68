/- A walk of layer reach, over the project's contracts as they are. -/
import Derived.Test.YtmfdpaahklndnaaGreatReP
import Derived.Test.YtmfdpaahklndnaaGreatReLaw2
namespace Go.Proofs.YtmfdpaahklndnaaGreat
theorem walk_reachBetween : type_of% (walk_reachBetweenK reB reS) := walk_reachBetweenK reB reS
end Go.Proofs.YtmfdpaahklndnaaGreat
