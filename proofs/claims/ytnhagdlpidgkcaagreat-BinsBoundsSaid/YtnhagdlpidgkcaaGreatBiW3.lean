/- A walk of layer bins, over the project's contracts as they are. -/
import Derived.Test.YtnhagdlpidgkcaaGreatBiP3
import Derived.Test.YtnhagdlpidgkcaaGreatBiOf
import Derived.Test.YtnhagdlpidgkcaaGreatBiLaw3
namespace Go.Proofs.YtnhagdlpidgkcaaGreat
theorem walk_binsBounds : type_of% (walk_binsBoundsK biO biBr biB) := walk_binsBoundsK biO biBr biB
end Go.Proofs.YtnhagdlpidgkcaaGreat
