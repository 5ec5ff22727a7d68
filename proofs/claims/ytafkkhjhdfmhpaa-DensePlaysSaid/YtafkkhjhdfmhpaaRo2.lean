/- The project's package roll: lists of nodes put in order by merging. -/
import Derived.Test.YtafkkhjhdfmhpaaNdMem
import Derived.Test.YtafkkhjhdfmhpaaRk
import Derived.Lib.SliceRun
import Derived.Deep.RegionHeld3
import Derived.Deep.RegionWith
import Derived.Deep.DrawnRows
import Derived.WalkSpells
import Derived.StillTactics
namespace Go.Proofs.Ytafkkhjhdfmhpaa
set_option linter.unusedVariables false
open Go.RowKit
attribute [local go_sem ↓] Go.wp_at_zero Go.wp_at_succ

theorem node_info : (Try.prog.info? 47).map (fun i => (i.zero, i.size, i.bytes)) = some (some (.agg #[.int .i64 0, .int .i64 0]), 2, 16) := by kernel_rfl
/-- what a call that makes a row leaves -/
def RowPost (S : List Nd) (w : World) (e : Ending) (w' : World) : Prop := ∃ v, e = .returned v ∧ NodesAt w' v S ∧ Below w.heap.size w w'
end Go.Proofs.Ytafkkhjhdfmhpaa
