/- What the statements of layer rank ask of the project's package: its contracts, laid as one premise; a table's place in memory is TB. -/
import Derived.Test.YtfmgcabgbnfjlaaDgQ
import Derived.Test.YtfmgcabgbnfjlaaRnkNum
import Derived.Test.YtfmgcabgbnfjlaaMmy
namespace Go.Proofs.Ytfmgcabgbnfjlaa
set_option linter.unusedVariables false
set_option maxRecDepth 100000
open Go.RowKit

/-- the project's Low and High -/
structure RnkLH : Prop where
  low : ∀ {B q p g h : Nat} {kd l k : Int} {n : Nat} {L : List Nd} (x : Int) (w : World), DgA w B q p g h kd l k n L → n ≤ 1000 → -9223372036854775808 ≤ x → x ≤ 9223372036854775807 → Calls Try.prog 5 #[.pointer (some ⟨q, 0, none⟩), .int .i64 x] w fun e w' => e = .returned (.int .i64 (lowR l L x)) ∧ Below w.heap.size w w'
  high : ∀ {B q p g h : Nat} {kd l k : Int} {n : Nat} {L : List Nd} (x : Int) (w : World), DgA w B q p g h kd l k n L → n ≤ 1000 → -9223372036854775808 ≤ x → x ≤ 9223372036854775807 → Calls Try.prog 6 #[.pointer (some ⟨q, 0, none⟩), .int .i64 x] w fun e w' => e = .returned (.int .i64 (highR l L x)) ∧ Below w.heap.size w w'
/-- its Slack -/
structure RnkS : Prop where
  slack : ∀ {B q p g h : Nat} {kd l k : Int} {n : Nat} {L : List Nd} (w : World), DgA w B q p g h kd l k n L → n ≤ 1000 → Calls Try.prog 7 #[.pointer (some ⟨q, 0, none⟩)] w fun e w' => e = .returned (.int .i64 (slackN l k L)) ∧ Below w.heap.size w w'
/-- .. of nil -/
structure RnkN : Prop where
  low_nil : ∀ (x : Int) (w : World), Calls Try.prog 5 #[.pointer none, .int .i64 x] w fun e w' => e = .returned (.int .i64 0) ∧ Below w.heap.size w w'
  high_nil : ∀ (x : Int) (w : World), Calls Try.prog 6 #[.pointer none, .int .i64 x] w fun e w' => e = .returned (.int .i64 0) ∧ Below w.heap.size w w'
  slack_nil : ∀ (w : World), Calls Try.prog 7 #[.pointer none] w fun e w' => e = .returned (.int .i64 0) ∧ Below w.heap.size w w'
end Go.Proofs.Ytfmgcabgbnfjlaa
