/- A walk of layer quant, over the project's contracts as they are. -/
import Derived.Test.YtkhacpapkalkiaaGreatQuQ
import Derived.Test.YtkhacpapkalkiaaGreatQuLaw5
namespace Go.Proofs.YtkhacpapkalkiaaGreat
theorem walk_quantHolds : type_of% (walk_quantHoldsK quA quS quR) := walk_quantHoldsK quA quS quR

end Go.Proofs.YtkhacpapkalkiaaGreat
