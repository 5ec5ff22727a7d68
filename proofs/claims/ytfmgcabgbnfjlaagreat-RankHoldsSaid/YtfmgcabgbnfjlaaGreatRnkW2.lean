/- A walk of layer rank, over the project's contracts as they are. -/
import Derived.Test.YtfmgcabgbnfjlaaGreatRnQ
import Derived.Test.YtfmgcabgbnfjlaaGreatRnkLaw2
namespace Go.Proofs.YtfmgcabgbnfjlaaGreat
theorem walk_rankHolds : type_of% (walk_rankHoldsK rnkLH rnkS) := walk_rankHoldsK rnkLH rnkS

end Go.Proofs.YtfmgcabgbnfjlaaGreat
