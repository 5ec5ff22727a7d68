/- A walk of layer bound, over the project's contracts as they are. -/
import Derived.Test.YtkoefclkpdpdpaaGreatBoP
import Derived.Test.YtkoefclkpdpdpaaGreatBoLaw2
namespace Go.Proofs.YtkoefclkpdpdpaaGreat
theorem walk_boundNobody : type_of% (walk_boundNobodyK boKE boKS boKM boKW boKI) := walk_boundNobodyK boKE boKS boKM boKW boKI

end Go.Proofs.YtkoefclkpdpdpaaGreat
