/- What the statements of layer rank ask of the project's package: its contracts, laid as one premise; a table's place in memory is TB. -/
import Derived.Test.YtfmgcabgbnfjlaaGreatDgQ
import Derived.Test.YtfmgcabgbnfjlaaGreatRnkNum
import Derived.Test.YtfmgcabgbnfjlaaGreatMmy
namespace Go.Proofs.YtfmgcabgbnfjlaaGreat
set_option linter.unusedVariables false
set_option maxRecDepth 100000
open Go.RowKit

/-- the project's Low and High -/
structure RnkLH : Prop where
  low : ∀ {B q p g h : Nat} {kd l k : Int} {n : Nat} {L : List Nd} (x : Int) (w : World), DgA w B q p g h kd l k n L → n ≤ 1000 → -9223372036854775808 ≤ x → x ≤ 9223372036854775807 → Calls Tryz.prog 30 #[.pointer (some ⟨q, 0, none⟩), .int .i64 x] w fun e w' => e = .returned (.int .i64 (lowR l L x)) ∧ Below w.heap.size w w'
  high : ∀ {B q p g h : Nat} {kd l k : Int} {n : Nat} {L : List Nd} (x : Int) (w : World), DgA w B q p g h kd l k n L → n ≤ 1000 → -9223372036854775808 ≤ x → x ≤ 9223372036854775807 → Calls Tryz.prog 31 #[.pointer (some ⟨q, 0, none⟩), .int .i64 x] w fun e w' => e = .returned (.int .i64 (highR l L x)) ∧ Below w.heap.size w w'
/-- its Slack -/
structure RnkS : Prop where
  slack : ∀ {B q p g h : Nat} {kd l k : Int} {n : Nat} {L : List Nd} (w : World), DgA w B q p g h kd l k n L → n ≤ 1000 → Calls Tryz.prog 43 #[.pointer (some ⟨q, 0, none⟩)] w fun e w' => e = .returned (.int .i64 (slackN l k L)) ∧ Below w.heap.size w w'
/-- .. of nil -/
structure RnkN : Prop where
  low_nil : ∀ (x : Int) (w : World), Calls Tryz.prog 30 #[.pointer none, .int .i64 x] w fun e w' => e = .returned (.int .i64 0) ∧ Below w.heap.size w w'
  high_nil : ∀ (x : Int) (w : World), Calls Tryz.prog 31 #[.pointer none, .int .i64 x] w fun e w' => e = .returned (.int .i64 0) ∧ Below w.heap.size w w'
  slack_nil : ∀ (w : World), Calls Tryz.prog 43 #[.pointer none] w fun e w' => e = .returned (.int .i64 0) ∧ Below w.heap.size w w'
/-- its Table, in memory as TB says -/
structure RnkT (TB : World → Nat → Nat → Int → List Nd → Prop) : Prop where
  of_nil : ∀ (w : World), Calls Tryz.prog 6 #[.pointer none] w fun e w' => e = .returned (.pointer none) ∧ Below w.heap.size w w'
  of : ∀ {B q p g h : Nat} {kd l k : Int} {n : Nat} {L : List Nd} (w : World), DgA w B q p g h kd l k n L → n ≤ 400 → Calls Tryz.prog 6 #[.pointer (some ⟨q, 0, none⟩)] w fun e w' => (∃ t, e = .returned (.pointer (some ⟨t, 0, none⟩)) ∧ TB w' w.heap.size t l L) ∧ Below w.heap.size w w'
  kp : ∀ {w w' : World} {B t : Nat} {l : Int} {L : List Nd} {F : Nat → Prop}, TB w B t l L → Kp F w w' → (∀ i, F i → i < B) → TB w' B t l L
  n_nil : ∀ (w : World), Calls Tryz.prog 7 #[.pointer none] w fun e w' => e = .returned (.int .i64 0) ∧ Below w.heap.size w w'
  low_nil : ∀ (x : Int) (w : World), Calls Tryz.prog 8 #[.pointer none, .int .i64 x] w fun e w' => e = .returned (.int .i64 0) ∧ Below w.heap.size w w'
  high_nil : ∀ (x : Int) (w : World), Calls Tryz.prog 9 #[.pointer none, .int .i64 x] w fun e w' => e = .returned (.int .i64 0) ∧ Below w.heap.size w w'
  both_nil : ∀ (x : Int) (w : World), Calls Tryz.prog 10 #[.pointer none, .int .i64 x] w fun e w' => e = .returned (.agg #[.int .i64 0, .int .i64 0]) ∧ Below w.heap.size w w'
  steps_nil : ∀ (w : World), Calls Tryz.prog 11 #[.pointer none] w fun e w' => (∃ A c, e = .returned (.slice A 0 c)) ∧ Below w.heap.size w w'
  n : ∀ {B t : Nat} {l : Int} {L : List Nd} (w : World), TB w B t l L → Calls Tryz.prog 7 #[.pointer (some ⟨t, 0, none⟩)] w fun e w' => e = .returned (.int .i64 (sumC L)) ∧ Below w.heap.size w w'
  low : ∀ {B t : Nat} {l : Int} {L : List Nd} (x : Int) (w : World), TB w B t l L → -9223372036854775808 ≤ x → x ≤ 9223372036854775807 → Calls Tryz.prog 8 #[.pointer (some ⟨t, 0, none⟩), .int .i64 x] w fun e w' => e = .returned (.int .i64 (lowR l L x)) ∧ Below w.heap.size w w'
  high : ∀ {B t : Nat} {l : Int} {L : List Nd} (x : Int) (w : World), TB w B t l L → -9223372036854775808 ≤ x → x ≤ 9223372036854775807 → Calls Tryz.prog 9 #[.pointer (some ⟨t, 0, none⟩), .int .i64 x] w fun e w' => e = .returned (.int .i64 (highR l L x)) ∧ Below w.heap.size w w'
  both : ∀ {B t : Nat} {l : Int} {L : List Nd} (x : Int) (w : World), TB w B t l L → -9223372036854775808 ≤ x → x ≤ 9223372036854775807 → Calls Tryz.prog 10 #[.pointer (some ⟨t, 0, none⟩), .int .i64 x] w fun e w' => e = .returned (.agg #[.int .i64 (lowR l L x), .int .i64 (highR l L x)]) ∧ Below w.heap.size w w'
  steps : ∀ {B t : Nat} {l : Int} {L : List Nd} (w : World), TB w B t l L → Calls Tryz.prog 11 #[.pointer (some ⟨t, 0, none⟩)] w fun e w' => (∃ A n c, e = .returned (.slice A n c) ∧ IntsAt w' (.slice A n c) (stepsN l L) ∧ n ≤ 1000) ∧ Below w.heap.size w w'

end Go.Proofs.YtfmgcabgbnfjlaaGreat
