/- A walk of layer reach, over the project's contracts as they are. -/
import Derived.Test.YtmfdpaahklndnaaGreatReP
import Derived.Test.YtmfdpaahklndnaaGreatReLaw3
namespace Go.Proofs.YtmfdpaahklndnaaGreat
theorem walk_reachOn : type_of% (walk_reachOnK reB reO reF) := walk_reachOnK reB reO reF
end Go.Proofs.YtmfdpaahklndnaaGreat
