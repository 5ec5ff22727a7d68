/- A walk of layer recast, over the project's contracts as they are. -/
import Derived.Test.YtachfeclgdgbiaaGreatRcP
import Derived.Test.YtachfeclgdgbiaaGreatRcLaw3
namespace Go.Proofs.YtachfeclgdgbiaaGreat
theorem walk_recastCoarsens : type_of% (walk_recastCoarsensK rcK) := walk_recastCoarsensK rcK

end Go.Proofs.YtachfeclgdgbiaaGreat
