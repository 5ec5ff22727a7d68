/- A walk of layer bound, over the project's contracts as they are. -/
import Derived.Test.YtkoefclkpdpdpaaGreatBoP
import Derived.Test.YtkoefclkpdpdpaaGreatBoLaw4
namespace Go.Proofs.YtkoefclkpdpdpaaGreat
theorem walk_boundWorst : type_of% (walk_boundWorstK boKE boKM boKW boKI) := walk_boundWorstK boKE boKM boKW boKI

end Go.Proofs.YtkoefclkpdpdpaaGreat
