/- A walk of layer recast, over the project's contracts as they are. -/
import Derived.Test.YtachfeclgdgbiaaGreatRcP
import Derived.Test.YtachfeclgdgbiaaGreatRcLaw5
namespace Go.Proofs.YtachfeclgdgbiaaGreat
theorem walk_recastStands : type_of% (walk_recastStandsK rcK) := walk_recastStandsK rcK

end Go.Proofs.YtachfeclgdgbiaaGreat
