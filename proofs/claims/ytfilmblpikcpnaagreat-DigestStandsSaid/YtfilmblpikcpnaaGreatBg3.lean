/- The project's package bag: Rank, Between, Kth, Ends, Items. -/
import Derived.Test.YtfilmblpikcpnaaGreatBg2
namespace Go.Proofs.YtfilmblpikcpnaaGreat
set_option linter.unusedVariables false
set_option maxRecDepth 100000
open Go.RowKit
attribute [local go_sem ↓] Go.wp_at_zero Go.wp_at_succ

end Go.Proofs.YtfilmblpikcpnaaGreat
