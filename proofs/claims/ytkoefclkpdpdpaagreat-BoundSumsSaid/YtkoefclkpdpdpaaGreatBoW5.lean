/- A walk of layer bound, over the project's contracts as they are. -/
import Derived.Test.YtkoefclkpdpdpaaGreatBoP
import Derived.Test.YtkoefclkpdpdpaaGreatBoLaw5
namespace Go.Proofs.YtkoefclkpdpdpaaGreat
theorem walk_boundSums : type_of% (walk_boundSumsK boKE boKS boKM boKW) := walk_boundSumsK boKE boKS boKM boKW

end Go.Proofs.YtkoefclkpdpdpaaGreat
