/- A walk of layer bound, over the project's contracts as they are. -/
import Derived.Test.YtkoefclkpdpdpaaGreatBoP
import Derived.Test.YtkoefclkpdpdpaaGreatRnQ
import Derived.Test.YtkoefclkpdpdpaaGreatBoLaw6
namespace Go.Proofs.YtkoefclkpdpdpaaGreat
theorem walk_boundHolds : type_of% (walk_boundHoldsK boKE boKM boKW rnkLH rnkS) := walk_boundHoldsK boKE boKM boKW rnkLH rnkS

end Go.Proofs.YtkoefclkpdpdpaaGreat
