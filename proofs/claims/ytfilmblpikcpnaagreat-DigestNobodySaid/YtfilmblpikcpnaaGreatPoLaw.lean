/- What the statements of layer pool call: a call of the pool (do), whether it is its list (like), and the chapter's example (alive). -/
import Derived.Test.YtfilmblpikcpnaaGreatPo2
import Derived.Test.YtfilmblpikcpnaaGreatDsLaw
namespace Go.Proofs.YtfilmblpikcpnaaGreat
set_option linter.unusedVariables false
set_option maxRecDepth 100000
open Go.RowKit

theorem read_below {P : Program} {f : FuncId} {args : Array Value} {w : World} {v : Value} (h : Calls P f args w fun e w' => e = .returned v ∧ ∃ q, w' = w.drewN q) : Calls P f args w fun e w' => e = .returned v ∧ Below w.heap.size w w' :=
  h.mono fun _ _ ⟨a, q, b⟩ => ⟨a, by rw [b]; exact drewN_below (Below.refl _ _) q⟩
end Go.Proofs.YtfilmblpikcpnaaGreat
