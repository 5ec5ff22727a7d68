/- A walk of layer recast, over the project's contracts as they are. -/
import Derived.Test.YtachfeclgdgbiaaGreatRcP
import Derived.Test.YtachfeclgdgbiaaGreatRcLaw4
namespace Go.Proofs.YtachfeclgdgbiaaGreat
theorem walk_recastTurns : type_of% (walk_recastTurnsK rcK rcT) := walk_recastTurnsK rcK rcT

end Go.Proofs.YtachfeclgdgbiaaGreat
