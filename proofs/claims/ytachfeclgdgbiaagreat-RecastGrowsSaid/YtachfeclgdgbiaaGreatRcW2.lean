/- A walk of layer recast, over the project's contracts as they are. -/
import Derived.Test.YtachfeclgdgbiaaGreatRcP
import Derived.Test.YtachfeclgdgbiaaGreatRcLaw2
namespace Go.Proofs.YtachfeclgdgbiaaGreat
theorem walk_recastGrows : type_of% (walk_recastGrowsK rcK) := walk_recastGrowsK rcK

end Go.Proofs.YtachfeclgdgbiaaGreat
