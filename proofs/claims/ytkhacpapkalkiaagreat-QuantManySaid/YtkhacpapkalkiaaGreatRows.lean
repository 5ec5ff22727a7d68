/-
  No cell of these rows narrows 'for every input' (looked for: loops, veiled, ifaces, maps, wideKeys, modest, calm, conditions, laid).
  DERIVED. THE GIVEN ROWS OF THIS SEAT. 5 by the template 'for every input the law returns true; each argument reads behind the call as it read before'; 0 by the template 'total and deterministic' (their statements: YtkhacpapkalkiaaGreatTotals.lean).
  GIVEN WITH THE SEED: the statements are not yours to turn. If you find one false, say at which input.
  Laid BY PROGRAM, IN A SANDBOX (cutbox-rows.mjs): the forced cells as the released guide's own fill.sh prints them over the translation c23dd132d8f64784… (all of the seat's roots in one cut). By AI agents, Wed Nov 11 2026. No macro, syntax, notation, axiom, sorry.
-/
import Derived.Test.YtkhacpapkalkiaaGreatChecked
import GoSem.Claim
import GoSem.ClaimJoined
import GoSem.ClaimMapViews
import Derived.JoinedTies
import Derived.KernelRfl
namespace Go.Proofs.YtkhacpapkalkiaaGreat
/- THE CELL 'sum', in the pinned program and in every row, IS THE sha256 OF THE DUMP (.gsa) THAT YtkhacpapkalkiaaGreatProg.lean LOADS. Nothing in Lean hashes anything: it is a label: what it is worth is what the hold of that sum in a sandbox is worth. -/
noncomputable def Tryz.pinned : Pinned := { name := "ytkhacpapkalkiaagreat", sum := "c23dd132d8f64784fd712f726a45a8d011209cd8549ad2fc8ca18f38822a2b5e", checked := Tryz.checked }
namespace Rows
def none {H : Type} : Left H := { results := [], args := [] }

/-- 'dewpondlaw17.QuantTells': WHATEVER THE INPUT: true; the input reads as it did. -/
def quantTellsSpec : ChangeSpec := { name := "quantTells", fn := fun _ => fun
  | [d1, d2] => { results := [.lit (.bool true)], args := [d1, d2] }
  | _ => none }
def quantTellsRow : OpenClaim := { program := "ytkhacpapkalkiaagreat", sum := "c23dd132d8f64784fd712f726a45a8d011209cd8549ad2fc8ca18f38822a2b5e", func := "dewpond/dewpondlaw17.QuantTells", spec := "quantTells", unfollowed := true, recurses := true, named := ["math/bits.divideError", "math/bits.overflowError"], apart := false }
def QuantTellsSaid : Prop := quantTellsRow.holds Tryz.pinned (OpenSpec.ofChange quantTellsSpec)

/-- ITS FALSE NEIGHBOUR: 'it returns false'. Refute it at one input. -/
def quantTellsWrong : ChangeSpec := { name := "quantTells", fn := fun _ => fun
  | [d1, d2] => { results := [.lit (.bool false)], args := [d1, d2] }
  | _ => none }
def QuantTellsWrongFalsely : Prop := quantTellsRow.holds Tryz.pinned (OpenSpec.ofChange quantTellsWrong)

/-- 'dewpondlaw17.QuantShares': WHATEVER THE INPUT: true; the input reads as it did. -/
def quantSharesSpec : ChangeSpec := { name := "quantShares", fn := fun _ => fun
  | [d1, d2, d3] => { results := [.lit (.bool true)], args := [d1, d2, d3] }
  | _ => none }
def quantSharesRow : OpenClaim := { program := "ytkhacpapkalkiaagreat", sum := "c23dd132d8f64784fd712f726a45a8d011209cd8549ad2fc8ca18f38822a2b5e", func := "dewpond/dewpondlaw17.QuantShares", spec := "quantShares", unfollowed := true, recurses := true, named := ["math/bits.divideError", "math/bits.overflowError"], apart := false }
def QuantSharesSaid : Prop := quantSharesRow.holds Tryz.pinned (OpenSpec.ofChange quantSharesSpec)

/-- ITS FALSE NEIGHBOUR: 'it returns false'. Refute it at one input. -/
def quantSharesWrong : ChangeSpec := { name := "quantShares", fn := fun _ => fun
  | [d1, d2, d3] => { results := [.lit (.bool false)], args := [d1, d2, d3] }
  | _ => none }
def QuantSharesWrongFalsely : Prop := quantSharesRow.holds Tryz.pinned (OpenSpec.ofChange quantSharesWrong)

/-- 'dewpondlaw17.QuantMany': WHATEVER THE INPUT: true; the input reads as it did. -/
def quantManySpec : ChangeSpec := { name := "quantMany", fn := fun _ => fun
  | [d1, d2] => { results := [.lit (.bool true)], args := [d1, d2] }
  | _ => none }
def quantManyRow : OpenClaim := { program := "ytkhacpapkalkiaagreat", sum := "c23dd132d8f64784fd712f726a45a8d011209cd8549ad2fc8ca18f38822a2b5e", func := "dewpond/dewpondlaw17.QuantMany", spec := "quantMany", unfollowed := true, recurses := true, named := ["math/bits.divideError", "math/bits.overflowError"], apart := false }
def QuantManySaid : Prop := quantManyRow.holds Tryz.pinned (OpenSpec.ofChange quantManySpec)

/-- ITS FALSE NEIGHBOUR: 'it returns false'. Refute it at one input. -/
def quantManyWrong : ChangeSpec := { name := "quantMany", fn := fun _ => fun
  | [d1, d2] => { results := [.lit (.bool false)], args := [d1, d2] }
  | _ => none }
def QuantManyWrongFalsely : Prop := quantManyRow.holds Tryz.pinned (OpenSpec.ofChange quantManyWrong)

/-- 'dewpondlaw17.QuantHolds': WHATEVER THE INPUT: true; the input reads as it did. -/
def quantHoldsSpec : ChangeSpec := { name := "quantHolds", fn := fun _ => fun
  | [d1, d2] => { results := [.lit (.bool true)], args := [d1, d2] }
  | _ => none }
def quantHoldsRow : OpenClaim := { program := "ytkhacpapkalkiaagreat", sum := "c23dd132d8f64784fd712f726a45a8d011209cd8549ad2fc8ca18f38822a2b5e", func := "dewpond/dewpondlaw17.QuantHolds", spec := "quantHolds", unfollowed := true, recurses := true, named := ["math/bits.divideError", "math/bits.overflowError"], apart := false }
def QuantHoldsSaid : Prop := quantHoldsRow.holds Tryz.pinned (OpenSpec.ofChange quantHoldsSpec)

/-- ITS FALSE NEIGHBOUR: 'it returns false'. Refute it at one input. -/
def quantHoldsWrong : ChangeSpec := { name := "quantHolds", fn := fun _ => fun
  | [d1, d2] => { results := [.lit (.bool false)], args := [d1, d2] }
  | _ => none }
def QuantHoldsWrongFalsely : Prop := quantHoldsRow.holds Tryz.pinned (OpenSpec.ofChange quantHoldsWrong)

/-- 'dewpondlaw17.QuantRises': WHATEVER THE INPUT: true; the input reads as it did. -/
def quantRisesSpec : ChangeSpec := { name := "quantRises", fn := fun _ => fun
  | [d1, d2, d3] => { results := [.lit (.bool true)], args := [d1, d2, d3] }
  | _ => none }
def quantRisesRow : OpenClaim := { program := "ytkhacpapkalkiaagreat", sum := "c23dd132d8f64784fd712f726a45a8d011209cd8549ad2fc8ca18f38822a2b5e", func := "dewpond/dewpondlaw17.QuantRises", spec := "quantRises", unfollowed := true, recurses := true, named := ["math/bits.divideError", "math/bits.overflowError"], apart := false }
def QuantRisesSaid : Prop := quantRisesRow.holds Tryz.pinned (OpenSpec.ofChange quantRisesSpec)

/-- ITS FALSE NEIGHBOUR: 'it returns false'. Refute it at one input. -/
def quantRisesWrong : ChangeSpec := { name := "quantRises", fn := fun _ => fun
  | [d1, d2, d3] => { results := [.lit (.bool false)], args := [d1, d2, d3] }
  | _ => none }
def QuantRisesWrongFalsely : Prop := quantRisesRow.holds Tryz.pinned (OpenSpec.ofChange quantRisesWrong)

/- THE SECOND FORM. 'bulk': how many values and letters a reading holds, each counted each time it is reached (what is shared counts as often as it is met; a slice's spare places count too). A statement '..UptoSaid' is the law's where the arguments, and the package variables that the reading takes, are together of bulk at most 1048576: NARROWER than '..Said'. Prove '..Said' where nothing that the law and all that it calls make is longer than what came in: it says more and counts as full. Else prove '..UptoSaid'. A law counts once. -/
mutual
def uptoBulk {H : Type} : DataW H → Nat
  | .lit (.string bytes) => bytes.length + 1
  | .lit _ => 1
  | .nil => 1
  | .ptr d => uptoBulk d + 1
  | .slice elems spare => uptoBulkAll elems + uptoBulkAll spare + 1
  | .agg parts => uptoBulkAll parts + 1
  | .iface _ d => uptoBulk d + 1
  | .map entries => uptoBulkEntries entries + 1
  | .held _ => 1
def uptoBulkAll {H : Type} : List (DataW H) → Nat
  | [] => 0
  | d :: r => uptoBulk d + uptoBulkAll r
def uptoBulkEntries {H : Type} : List (Lit × DataW H) → Nat
  | [] => 0
  | x :: r => uptoBulkEntry x + uptoBulkEntries r
def uptoBulkEntry {H : Type} : Lit × DataW H → Nat
  | (.string bytes, d) => bytes.length + uptoBulk d + 1
  | (_, d) => uptoBulk d + 1
 end
def uptoSmall : (H : Type) → List (DataW H) → Bool := fun _ ds => decide (uptoBulkAll ds ≤ 1048576)
def OpenSpec.upto (s : _root_.Go.ChangeSpec) : _root_.Go.OpenSpec := { _root_.Go.OpenSpec.ofChange s with cond := some uptoSmall }

/-- 'dewpondlaw17.QuantTells', WHERE WHAT IT READS IS OF BULK AT MOST 1048576: true; the input reads as it did. -/
def quantTellsUptoRow : OpenClaim := { program := "ytkhacpapkalkiaagreat", sum := "c23dd132d8f64784fd712f726a45a8d011209cd8549ad2fc8ca18f38822a2b5e", func := "dewpond/dewpondlaw17.QuantTells", spec := "quantTells", unfollowed := true, recurses := true, named := ["math/bits.divideError", "math/bits.overflowError"], apart := false, narrowed := true }
def QuantTellsUptoSaid : Prop := quantTellsUptoRow.holds Tryz.pinned (OpenSpec.upto quantTellsSpec)

/-- 'dewpondlaw17.QuantShares', WHERE WHAT IT READS IS OF BULK AT MOST 1048576: true; the input reads as it did. -/
def quantSharesUptoRow : OpenClaim := { program := "ytkhacpapkalkiaagreat", sum := "c23dd132d8f64784fd712f726a45a8d011209cd8549ad2fc8ca18f38822a2b5e", func := "dewpond/dewpondlaw17.QuantShares", spec := "quantShares", unfollowed := true, recurses := true, named := ["math/bits.divideError", "math/bits.overflowError"], apart := false, narrowed := true }
def QuantSharesUptoSaid : Prop := quantSharesUptoRow.holds Tryz.pinned (OpenSpec.upto quantSharesSpec)

/-- 'dewpondlaw17.QuantMany', WHERE WHAT IT READS IS OF BULK AT MOST 1048576: true; the input reads as it did. -/
def quantManyUptoRow : OpenClaim := { program := "ytkhacpapkalkiaagreat", sum := "c23dd132d8f64784fd712f726a45a8d011209cd8549ad2fc8ca18f38822a2b5e", func := "dewpond/dewpondlaw17.QuantMany", spec := "quantMany", unfollowed := true, recurses := true, named := ["math/bits.divideError", "math/bits.overflowError"], apart := false, narrowed := true }
def QuantManyUptoSaid : Prop := quantManyUptoRow.holds Tryz.pinned (OpenSpec.upto quantManySpec)

/-- 'dewpondlaw17.QuantHolds', WHERE WHAT IT READS IS OF BULK AT MOST 1048576: true; the input reads as it did. -/
def quantHoldsUptoRow : OpenClaim := { program := "ytkhacpapkalkiaagreat", sum := "c23dd132d8f64784fd712f726a45a8d011209cd8549ad2fc8ca18f38822a2b5e", func := "dewpond/dewpondlaw17.QuantHolds", spec := "quantHolds", unfollowed := true, recurses := true, named := ["math/bits.divideError", "math/bits.overflowError"], apart := false, narrowed := true }
def QuantHoldsUptoSaid : Prop := quantHoldsUptoRow.holds Tryz.pinned (OpenSpec.upto quantHoldsSpec)

/-- 'dewpondlaw17.QuantRises', WHERE WHAT IT READS IS OF BULK AT MOST 1048576: true; the input reads as it did. -/
def quantRisesUptoRow : OpenClaim := { program := "ytkhacpapkalkiaagreat", sum := "c23dd132d8f64784fd712f726a45a8d011209cd8549ad2fc8ca18f38822a2b5e", func := "dewpond/dewpondlaw17.QuantRises", spec := "quantRises", unfollowed := true, recurses := true, named := ["math/bits.divideError", "math/bits.overflowError"], apart := false, narrowed := true }
def QuantRisesUptoSaid : Prop := quantRisesUptoRow.holds Tryz.pinned (OpenSpec.upto quantRisesSpec)

end Rows
end Go.Proofs.YtkhacpapkalkiaaGreat
