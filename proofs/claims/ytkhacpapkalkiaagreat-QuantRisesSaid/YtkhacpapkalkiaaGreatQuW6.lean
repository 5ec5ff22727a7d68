/- A walk of layer quant, over the project's contracts as they are. -/
import Derived.Test.YtkhacpapkalkiaaGreatQuQ
import Derived.Test.YtkhacpapkalkiaaGreatRnQ
import Derived.Test.YtkhacpapkalkiaaGreatRnT
import Derived.Test.YtkhacpapkalkiaaGreatQuLaw6
namespace Go.Proofs.YtkhacpapkalkiaaGreat
theorem rnkTq : RnkTq rnkTB := ⟨fun w d hn => rnkOf_any w d hn, fun w h => rnkTSteps_any w h⟩
theorem rnkLq : RnkLq := ⟨fun x w d hn a b => rnkLow_any x w d hn a b⟩
theorem walk_quantRises : type_of% (walk_quantRisesK quA quS quR rnkLq rnkTq) := walk_quantRisesK quA quS quR rnkLq rnkTq

end Go.Proofs.YtkhacpapkalkiaaGreat
