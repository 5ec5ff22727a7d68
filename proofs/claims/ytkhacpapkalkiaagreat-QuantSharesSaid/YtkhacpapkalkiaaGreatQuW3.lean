/- A walk of layer quant, over the project's contracts as they are. -/
import Derived.Test.YtkhacpapkalkiaaGreatQuQ
import Derived.Test.YtkhacpapkalkiaaGreatQuLaw3
namespace Go.Proofs.YtkhacpapkalkiaaGreat
theorem walk_quantShares : type_of% (walk_quantSharesK quA quS quR) := walk_quantSharesK quA quS quR

end Go.Proofs.YtkhacpapkalkiaaGreat
