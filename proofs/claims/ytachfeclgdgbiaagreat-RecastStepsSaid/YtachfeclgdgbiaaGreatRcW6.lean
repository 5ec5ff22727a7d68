/- A walk of layer recast, over the project's contracts as they are. -/
import Derived.Test.YtachfeclgdgbiaaGreatRcP
import Derived.Test.YtachfeclgdgbiaaGreatRcLaw6
namespace Go.Proofs.YtachfeclgdgbiaaGreat
theorem walk_recastSteps : type_of% (walk_recastStepsK rcK) := walk_recastStepsK rcK

end Go.Proofs.YtachfeclgdgbiaaGreat
