/- A walk of layer bins, over the project's contracts as they are. -/
import Derived.Test.YtnhagdlpidgkcaaGreatBiP3
import Derived.Test.YtnhagdlpidgkcaaGreatBiOf
import Derived.Test.YtnhagdlpidgkcaaGreatBiLaw7
namespace Go.Proofs.YtnhagdlpidgkcaaGreat
theorem walk_binsJoin : type_of% (walk_binsJoinK biO biBr) := walk_binsJoinK biO biBr
end Go.Proofs.YtnhagdlpidgkcaaGreat
