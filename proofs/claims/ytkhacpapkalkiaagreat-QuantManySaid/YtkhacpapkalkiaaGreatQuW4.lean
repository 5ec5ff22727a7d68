/- A walk of layer quant, over the project's contracts as they are. -/
import Derived.Test.YtkhacpapkalkiaaGreatQuQ
import Derived.Test.YtkhacpapkalkiaaGreatQuLaw4
namespace Go.Proofs.YtkhacpapkalkiaaGreat
theorem walk_quantMany : type_of% (walk_quantManyK quA quS quR quM) := walk_quantManyK quA quS quR quM

end Go.Proofs.YtkhacpapkalkiaaGreat
