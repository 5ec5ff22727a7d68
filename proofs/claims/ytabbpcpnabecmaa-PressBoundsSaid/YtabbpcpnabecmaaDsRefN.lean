/- The document's answers of package dewpondref07, of a list that lies wherever it lies (an argument's): Add, Do. -/
import Derived.Test.YtabbpcpnabecmaaDsRef2
namespace Go.Proofs.Ytabbpcpnabecmaa
set_option linter.unusedVariables false
set_option maxRecDepth 100000
open Go.RowKit

/-- a store handed out, and a number: its list is the one that came in, or a row of its own -/
def StPostS (l : Int) (M : List Nd) (n : Int) (v0 : Value) (L : List Nd) (w : World) (e : Ending) (w' : World) : Prop :=
  ∃ A m c, e = .returned (.tuple #[.agg #[.int .i64 l, .slice A m c], .int .i64 n]) ∧ ((Value.slice A m c = v0 ∧ M = L) ∨ OwnNd 46 w' 0 (.slice A m c) M) ∧ Below w.heap.size w w'
end Go.Proofs.Ytabbpcpnabecmaa
