/- A walk of layer bins, over the project's contracts as they are. -/
import Derived.Test.YtnhagdlpidgkcaaGreatBiP3
import Derived.Test.YtnhagdlpidgkcaaGreatBiOf
import Derived.Test.YtnhagdlpidgkcaaGreatBiLaw4
namespace Go.Proofs.YtnhagdlpidgkcaaGreat
theorem walk_binsEven : type_of% (walk_binsEvenK biO biBr biE) := walk_binsEvenK biO biBr biE
end Go.Proofs.YtnhagdlpidgkcaaGreat
