/- A walk of layer reach, over the project's contracts as they are. -/
import Derived.Test.YtmfdpaahklndnaaGreatReP
import Derived.Test.YtmfdpaahklndnaaGreatRnQ
import Derived.Test.YtmfdpaahklndnaaGreatReLaw5
namespace Go.Proofs.YtmfdpaahklndnaaGreat
theorem walk_reachRest : type_of% (walk_reachRestK reB reO reF rnkLH) := walk_reachRestK reB reO reF rnkLH

end Go.Proofs.YtmfdpaahklndnaaGreat
