/- What the statements of layer rank ask of the project's package: Low, High, Slack. -/
import Derived.Test.YtfmgcabgbnfjlaaRnkE
namespace Go.Proofs.Ytfmgcabgbnfjlaa
set_option linter.unusedVariables false
open Go.RowKit

theorem rnkLH : RnkLH := ⟨fun x w d hn a b => rnkLow_any x w d hn a b, fun x w d hn a b => rnkHigh_any x w d hn a b⟩
theorem rnkS : RnkS := ⟨fun w d hn => rnkSlack_any w d hn⟩
theorem rnkN : RnkN := ⟨fun x w => rnkLow_nil x w, fun x w => rnkHigh_nil x w, fun w => rnkSlack_nil w⟩

end Go.Proofs.Ytfmgcabgbnfjlaa
