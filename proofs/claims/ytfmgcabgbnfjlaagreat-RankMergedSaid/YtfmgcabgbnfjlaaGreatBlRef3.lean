/- The document's answers of package dewpondref14: Of, the digest of calls. -/
import Derived.Test.YtfmgcabgbnfjlaaGreatDgR
import Derived.Test.YtfmgcabgbnfjlaaGreatDgLaw7
import Derived.Deep.RegionWith
namespace Go.Proofs.YtfmgcabgbnfjlaaGreat
set_option linter.unusedVariables false
set_option maxRecDepth 100000
open Go.RowKit

end Go.Proofs.YtfmgcabgbnfjlaaGreat
