/- The document's answers of package dewpondref14: Of, the digest of calls. -/
import Derived.Test.YtkhacpapkalkiaaGreatDgR
import Derived.Test.YtkhacpapkalkiaaGreatDgLaw7
import Derived.Deep.RegionWith
namespace Go.Proofs.YtkhacpapkalkiaaGreat
set_option linter.unusedVariables false
set_option maxRecDepth 100000
open Go.RowKit

end Go.Proofs.YtkhacpapkalkiaaGreat
