/- The document's answers of package dewpondref06: Fold, Join. -/
import Derived.Test.YtabbpcpnabecmaaRoRef2
import Derived.Test.YtabbpcpnabecmaaRo5
namespace Go.Proofs.Ytabbpcpnabecmaa
set_option linter.unusedVariables false
open Go.RowKit

end Go.Proofs.Ytabbpcpnabecmaa
