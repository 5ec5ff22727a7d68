/- A walk of layer bins, over the project's contracts as they are. -/
import Derived.Test.YtnhagdlpidgkcaaGreatBiP3
import Derived.Test.YtnhagdlpidgkcaaGreatBiOf
import Derived.Test.YtnhagdlpidgkcaaGreatBiLaw2
namespace Go.Proofs.YtnhagdlpidgkcaaGreat
theorem walk_binsOf : type_of% (walk_binsOfK biRt biO biBr) := walk_binsOfK biRt biO biBr
end Go.Proofs.YtnhagdlpidgkcaaGreat
