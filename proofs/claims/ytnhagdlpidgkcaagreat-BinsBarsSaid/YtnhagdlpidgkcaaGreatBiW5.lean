/- A walk of layer bins, over the project's contracts as they are. -/
import Derived.Test.YtnhagdlpidgkcaaGreatBiP3
import Derived.Test.YtnhagdlpidgkcaaGreatBiOf
import Derived.Test.YtnhagdlpidgkcaaGreatBiLaw5
namespace Go.Proofs.YtnhagdlpidgkcaaGreat
theorem walk_binsBars : type_of% (walk_binsBarsK biO biBr biH) := walk_binsBarsK biO biBr biH
end Go.Proofs.YtnhagdlpidgkcaaGreat
