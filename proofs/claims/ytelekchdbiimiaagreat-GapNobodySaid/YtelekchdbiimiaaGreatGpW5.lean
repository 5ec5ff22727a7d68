/- A walk of layer gap, over the project's contracts as they are. -/
import Derived.Test.YtelekchdbiimiaaGreatGpP1
import Derived.Test.YtelekchdbiimiaaGreatGpP3
import Derived.Test.YtelekchdbiimiaaGreatGpP4
import Derived.Test.YtelekchdbiimiaaGreatGpLaw5
namespace Go.Proofs.YtelekchdbiimiaaGreat
theorem walk_gapNobody : type_of% (walk_gapNobodyK gpSd gpAp gpMo) := walk_gapNobodyK gpSd gpAp gpMo
end Go.Proofs.YtelekchdbiimiaaGreat
