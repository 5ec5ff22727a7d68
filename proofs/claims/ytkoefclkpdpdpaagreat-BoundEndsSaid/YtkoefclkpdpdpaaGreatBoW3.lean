/- A walk of layer bound, over the project's contracts as they are. -/
import Derived.Test.YtkoefclkpdpdpaaGreatBoP
import Derived.Test.YtkoefclkpdpdpaaGreatBoLaw3
namespace Go.Proofs.YtkoefclkpdpdpaaGreat
theorem walk_boundEnds : type_of% (walk_boundEndsK boKE boKM boKW) := walk_boundEndsK boKE boKM boKW

end Go.Proofs.YtkoefclkpdpdpaaGreat
