/- The project's package bag: New, what is told of a bag and of nil; where a value belongs. -/
import Derived.Test.YtfilmblpikcpnaaGreatBgMem
import Derived.Test.YtfilmblpikcpnaaGreatRdSl
import Derived.Test.YtfilmblpikcpnaaGreatTw
namespace Go.Proofs.YtfilmblpikcpnaaGreat
set_option linter.unusedVariables false
open Go.RowKit
attribute [local go_sem ↓] Go.wp_at_zero Go.wp_at_succ

end Go.Proofs.YtfilmblpikcpnaaGreat
