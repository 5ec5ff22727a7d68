/- A walk of layer rank, over the project's contracts as they are. -/
import Derived.Test.YtfmgcabgbnfjlaaRnkP
import Derived.Test.YtfmgcabgbnfjlaaRnkLaw4
namespace Go.Proofs.Ytfmgcabgbnfjlaa
theorem walk_rankTells : type_of% (walk_rankTellsK rnkLH rnkS rnkN) := walk_rankTellsK rnkLH rnkS rnkN

end Go.Proofs.Ytfmgcabgbnfjlaa
