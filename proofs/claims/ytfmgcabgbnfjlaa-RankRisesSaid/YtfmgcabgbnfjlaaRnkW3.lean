/- A walk of layer rank, over the project's contracts as they are. -/
import Derived.Test.YtfmgcabgbnfjlaaRnkP
import Derived.Test.YtfmgcabgbnfjlaaRnkLaw3
namespace Go.Proofs.Ytfmgcabgbnfjlaa
theorem walk_rankRises : type_of% (walk_rankRisesK rnkLH) := walk_rankRisesK rnkLH

end Go.Proofs.Ytfmgcabgbnfjlaa
