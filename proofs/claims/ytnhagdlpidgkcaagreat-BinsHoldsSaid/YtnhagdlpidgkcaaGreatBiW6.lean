/- A walk of layer bins, over the project's contracts as they are. -/
import Derived.Test.YtnhagdlpidgkcaaGreatBiP3
import Derived.Test.YtnhagdlpidgkcaaGreatBiOf
import Derived.Test.YtnhagdlpidgkcaaGreatRnQ
import Derived.Test.YtnhagdlpidgkcaaGreatBiLaw6
namespace Go.Proofs.YtnhagdlpidgkcaaGreat
theorem walk_binsHolds : type_of% (walk_binsHoldsK biO biBr biB rnkLq) := walk_binsHoldsK biO biBr biB rnkLq
end Go.Proofs.YtnhagdlpidgkcaaGreat
