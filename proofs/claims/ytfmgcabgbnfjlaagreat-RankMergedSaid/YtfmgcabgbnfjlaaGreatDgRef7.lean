/- The document's answer of package dewpondref13: Above. -/
import Derived.Test.YtfmgcabgbnfjlaaGreatDgN
import Derived.Test.YtfmgcabgbnfjlaaGreatFoR
namespace Go.Proofs.YtfmgcabgbnfjlaaGreat
set_option linter.unusedVariables false
set_option maxRecDepth 100000
open Go.RowKit

end Go.Proofs.YtfmgcabgbnfjlaaGreat
