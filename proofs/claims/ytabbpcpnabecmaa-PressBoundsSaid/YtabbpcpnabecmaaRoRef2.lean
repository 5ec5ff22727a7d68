/- The document's answers of package dewpondref06: put, Sorted. -/
import Derived.Test.YtabbpcpnabecmaaRoRef
import Derived.Test.YtabbpcpnabecmaaMmy
import Derived.Test.YtabbpcpnabecmaaRo4
import Derived.Laws.AppendOwnNone
namespace Go.Proofs.Ytabbpcpnabecmaa
set_option linter.unusedVariables false
open Go.RowKit

end Go.Proofs.Ytabbpcpnabecmaa
