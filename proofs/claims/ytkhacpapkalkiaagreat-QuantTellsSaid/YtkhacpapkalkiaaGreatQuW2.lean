/- A walk of layer quant, over the project's contracts as they are. -/
import Derived.Test.YtkhacpapkalkiaaGreatQuQ
import Derived.Test.YtkhacpapkalkiaaGreatQuLaw2
namespace Go.Proofs.YtkhacpapkalkiaaGreat
theorem walk_quantTells : type_of% (walk_quantTellsK quA quS quR) := walk_quantTellsK quA quS quR

end Go.Proofs.YtkhacpapkalkiaaGreat
