/-
  No cell of these rows narrows 'for every input' (looked for: loops, veiled, ifaces, maps, wideKeys, modest, calm, conditions, laid).
  DERIVED. THE GIVEN ROWS OF THIS SEAT. 5 by the template 'for every input the law returns true; each argument reads behind the call as it read before'; 0 by the template 'total and deterministic' (their statements: YtkoefclkpdpdpaaGreatTotals.lean).
  GIVEN WITH THE SEED: the statements are not yours to turn. If you find one false, say at which input.
  Laid BY PROGRAM, IN A SANDBOX (cutbox-rows.mjs): the forced cells as the released guide's own fill.sh prints them over the translation 2454f358d8da563a… (all of the seat's roots in one cut). By AI agents, Wed Nov 11 2026. No macro, syntax, notation, axiom, sorry.
-/
import Derived.Test.YtkoefclkpdpdpaaGreatChecked
import GoSem.Claim
import GoSem.ClaimJoined
import GoSem.ClaimMapViews
import Derived.JoinedTies
import Derived.KernelRfl
namespace Go.Proofs.YtkoefclkpdpdpaaGreat
/- THE CELL 'sum', in the pinned program and in every row, IS THE sha256 OF THE DUMP (.gsa) THAT YtkoefclkpdpdpaaGreatProg.lean LOADS. Nothing in Lean hashes anything: it is a label: what it is worth is what the hold of that sum in a sandbox is worth. -/
noncomputable def Tryz.pinned : Pinned := { name := "ytkoefclkpdpdpaagreat", sum := "2454f358d8da563a96fda1f9335a90e2c3fd07b07137fc45099fdb52bcfd1cc2", checked := Tryz.checked }
namespace Rows
def none {H : Type} : Left H := { results := [], args := [] }

/-- 'dewpondlaw20.BoundEnds': WHATEVER THE INPUT: true; the input reads as it did. -/
def boundEndsSpec : ChangeSpec := { name := "boundEnds", fn := fun _ => fun
  | [d] => { results := [.lit (.bool true)], args := [d] }
  | _ => none }
def boundEndsRow : OpenClaim := { program := "ytkoefclkpdpdpaagreat", sum := "2454f358d8da563a96fda1f9335a90e2c3fd07b07137fc45099fdb52bcfd1cc2", func := "dewpond/dewpondlaw20.BoundEnds", spec := "boundEnds", inPlace := ["math/bits.Add64"], unfollowed := true, recurses := true, named := ["math/bits.divideError", "math/bits.overflowError"], apart := false }
def BoundEndsSaid : Prop := boundEndsRow.holds Tryz.pinned (OpenSpec.ofChange boundEndsSpec)

/-- ITS FALSE NEIGHBOUR: 'it returns false'. Refute it at one input. -/
def boundEndsWrong : ChangeSpec := { name := "boundEnds", fn := fun _ => fun
  | [d] => { results := [.lit (.bool false)], args := [d] }
  | _ => none }
def BoundEndsWrongFalsely : Prop := boundEndsRow.holds Tryz.pinned (OpenSpec.ofChange boundEndsWrong)

/-- 'dewpondlaw20.BoundSums': WHATEVER THE INPUT: true; the input reads as it did. -/
def boundSumsSpec : ChangeSpec := { name := "boundSums", fn := fun _ => fun
  | [d] => { results := [.lit (.bool true)], args := [d] }
  | _ => none }
def boundSumsRow : OpenClaim := { program := "ytkoefclkpdpdpaagreat", sum := "2454f358d8da563a96fda1f9335a90e2c3fd07b07137fc45099fdb52bcfd1cc2", func := "dewpond/dewpondlaw20.BoundSums", spec := "boundSums", inPlace := ["math/bits.Add64"], unfollowed := true, recurses := true, named := ["math/bits.divideError", "math/bits.overflowError"], apart := false }
def BoundSumsSaid : Prop := boundSumsRow.holds Tryz.pinned (OpenSpec.ofChange boundSumsSpec)

/-- ITS FALSE NEIGHBOUR: 'it returns false'. Refute it at one input. -/
def boundSumsWrong : ChangeSpec := { name := "boundSums", fn := fun _ => fun
  | [d] => { results := [.lit (.bool false)], args := [d] }
  | _ => none }
def BoundSumsWrongFalsely : Prop := boundSumsRow.holds Tryz.pinned (OpenSpec.ofChange boundSumsWrong)

/-- 'dewpondlaw20.BoundWorst': WHATEVER THE INPUT: true; the input reads as it did. -/
def boundWorstSpec : ChangeSpec := { name := "boundWorst", fn := fun _ => fun
  | [d1, d2, d3] => { results := [.lit (.bool true)], args := [d1, d2, d3] }
  | _ => none }
def boundWorstRow : OpenClaim := { program := "ytkoefclkpdpdpaagreat", sum := "2454f358d8da563a96fda1f9335a90e2c3fd07b07137fc45099fdb52bcfd1cc2", func := "dewpond/dewpondlaw20.BoundWorst", spec := "boundWorst", inPlace := ["math/bits.Add64"], unfollowed := true, recurses := true, named := ["math/bits.divideError", "math/bits.overflowError"], apart := false }
def BoundWorstSaid : Prop := boundWorstRow.holds Tryz.pinned (OpenSpec.ofChange boundWorstSpec)

/-- ITS FALSE NEIGHBOUR: 'it returns false'. Refute it at one input. -/
def boundWorstWrong : ChangeSpec := { name := "boundWorst", fn := fun _ => fun
  | [d1, d2, d3] => { results := [.lit (.bool false)], args := [d1, d2, d3] }
  | _ => none }
def BoundWorstWrongFalsely : Prop := boundWorstRow.holds Tryz.pinned (OpenSpec.ofChange boundWorstWrong)

/-- 'dewpondlaw20.BoundHolds': WHATEVER THE INPUT: true; the input reads as it did. -/
def boundHoldsSpec : ChangeSpec := { name := "boundHolds", fn := fun _ => fun
  | [d1, d2] => { results := [.lit (.bool true)], args := [d1, d2] }
  | _ => none }
def boundHoldsRow : OpenClaim := { program := "ytkoefclkpdpdpaagreat", sum := "2454f358d8da563a96fda1f9335a90e2c3fd07b07137fc45099fdb52bcfd1cc2", func := "dewpond/dewpondlaw20.BoundHolds", spec := "boundHolds", inPlace := ["math/bits.Add64"], unfollowed := true, recurses := true, named := ["math/bits.divideError", "math/bits.overflowError"], apart := false }
def BoundHoldsSaid : Prop := boundHoldsRow.holds Tryz.pinned (OpenSpec.ofChange boundHoldsSpec)

/-- ITS FALSE NEIGHBOUR: 'it returns false'. Refute it at one input. -/
def boundHoldsWrong : ChangeSpec := { name := "boundHolds", fn := fun _ => fun
  | [d1, d2] => { results := [.lit (.bool false)], args := [d1, d2] }
  | _ => none }
def BoundHoldsWrongFalsely : Prop := boundHoldsRow.holds Tryz.pinned (OpenSpec.ofChange boundHoldsWrong)

/-- 'dewpondlaw20.BoundNobody': WHATEVER THE INPUT: true; the input reads as it did. -/
def boundNobodySpec : ChangeSpec := { name := "boundNobody", fn := fun _ => fun
  | [d1, d2] => { results := [.lit (.bool true)], args := [d1, d2] }
  | _ => none }
def boundNobodyRow : OpenClaim := { program := "ytkoefclkpdpdpaagreat", sum := "2454f358d8da563a96fda1f9335a90e2c3fd07b07137fc45099fdb52bcfd1cc2", func := "dewpond/dewpondlaw20.BoundNobody", spec := "boundNobody", inPlace := ["math/bits.Add64"], unfollowed := true, recurses := true, named := ["math/bits.divideError", "math/bits.overflowError"], apart := false }
def BoundNobodySaid : Prop := boundNobodyRow.holds Tryz.pinned (OpenSpec.ofChange boundNobodySpec)

/-- ITS FALSE NEIGHBOUR: 'it returns false'. Refute it at one input. -/
def boundNobodyWrong : ChangeSpec := { name := "boundNobody", fn := fun _ => fun
  | [d1, d2] => { results := [.lit (.bool false)], args := [d1, d2] }
  | _ => none }
def BoundNobodyWrongFalsely : Prop := boundNobodyRow.holds Tryz.pinned (OpenSpec.ofChange boundNobodyWrong)

/- THE SECOND FORM. 'bulk': how many values and letters a reading holds, each counted each time it is reached (what is shared counts as often as it is met; a slice's spare places count too). A statement '..UptoSaid' is the law's where the arguments, and the package variables that the reading takes, are together of bulk at most 1048576: NARROWER than '..Said'. Prove '..Said' where nothing that the law and all that it calls make is longer than what came in: it says more and counts as full. Else prove '..UptoSaid'. A law counts once. -/
mutual
def uptoBulk {H : Type} : DataW H → Nat
  | .lit (.string bytes) => bytes.length + 1
  | .lit _ => 1
  | .nil => 1
  | .ptr d => uptoBulk d + 1
  | .slice elems spare => uptoBulkAll elems + uptoBulkAll spare + 1
  | .agg parts => uptoBulkAll parts + 1
  | .iface _ d => uptoBulk d + 1
  | .map entries => uptoBulkEntries entries + 1
  | .held _ => 1
def uptoBulkAll {H : Type} : List (DataW H) → Nat
  | [] => 0
  | d :: r => uptoBulk d + uptoBulkAll r
def uptoBulkEntries {H : Type} : List (Lit × DataW H) → Nat
  | [] => 0
  | x :: r => uptoBulkEntry x + uptoBulkEntries r
def uptoBulkEntry {H : Type} : Lit × DataW H → Nat
  | (.string bytes, d) => bytes.length + uptoBulk d + 1
  | (_, d) => uptoBulk d + 1
 end
def uptoSmall : (H : Type) → List (DataW H) → Bool := fun _ ds => decide (uptoBulkAll ds ≤ 1048576)
def OpenSpec.upto (s : _root_.Go.ChangeSpec) : _root_.Go.OpenSpec := { _root_.Go.OpenSpec.ofChange s with cond := some uptoSmall }

/-- 'dewpondlaw20.BoundEnds', WHERE WHAT IT READS IS OF BULK AT MOST 1048576: true; the input reads as it did. -/
def boundEndsUptoRow : OpenClaim := { program := "ytkoefclkpdpdpaagreat", sum := "2454f358d8da563a96fda1f9335a90e2c3fd07b07137fc45099fdb52bcfd1cc2", func := "dewpond/dewpondlaw20.BoundEnds", spec := "boundEnds", inPlace := ["math/bits.Add64"], unfollowed := true, recurses := true, named := ["math/bits.divideError", "math/bits.overflowError"], apart := false, narrowed := true }
def BoundEndsUptoSaid : Prop := boundEndsUptoRow.holds Tryz.pinned (OpenSpec.upto boundEndsSpec)

/-- 'dewpondlaw20.BoundSums', WHERE WHAT IT READS IS OF BULK AT MOST 1048576: true; the input reads as it did. -/
def boundSumsUptoRow : OpenClaim := { program := "ytkoefclkpdpdpaagreat", sum := "2454f358d8da563a96fda1f9335a90e2c3fd07b07137fc45099fdb52bcfd1cc2", func := "dewpond/dewpondlaw20.BoundSums", spec := "boundSums", inPlace := ["math/bits.Add64"], unfollowed := true, recurses := true, named := ["math/bits.divideError", "math/bits.overflowError"], apart := false, narrowed := true }
def BoundSumsUptoSaid : Prop := boundSumsUptoRow.holds Tryz.pinned (OpenSpec.upto boundSumsSpec)

/-- 'dewpondlaw20.BoundWorst', WHERE WHAT IT READS IS OF BULK AT MOST 1048576: true; the input reads as it did. -/
def boundWorstUptoRow : OpenClaim := { program := "ytkoefclkpdpdpaagreat", sum := "2454f358d8da563a96fda1f9335a90e2c3fd07b07137fc45099fdb52bcfd1cc2", func := "dewpond/dewpondlaw20.BoundWorst", spec := "boundWorst", inPlace := ["math/bits.Add64"], unfollowed := true, recurses := true, named := ["math/bits.divideError", "math/bits.overflowError"], apart := false, narrowed := true }
def BoundWorstUptoSaid : Prop := boundWorstUptoRow.holds Tryz.pinned (OpenSpec.upto boundWorstSpec)

/-- 'dewpondlaw20.BoundHolds', WHERE WHAT IT READS IS OF BULK AT MOST 1048576: true; the input reads as it did. -/
def boundHoldsUptoRow : OpenClaim := { program := "ytkoefclkpdpdpaagreat", sum := "2454f358d8da563a96fda1f9335a90e2c3fd07b07137fc45099fdb52bcfd1cc2", func := "dewpond/dewpondlaw20.BoundHolds", spec := "boundHolds", inPlace := ["math/bits.Add64"], unfollowed := true, recurses := true, named := ["math/bits.divideError", "math/bits.overflowError"], apart := false, narrowed := true }
def BoundHoldsUptoSaid : Prop := boundHoldsUptoRow.holds Tryz.pinned (OpenSpec.upto boundHoldsSpec)

/-- 'dewpondlaw20.BoundNobody', WHERE WHAT IT READS IS OF BULK AT MOST 1048576: true; the input reads as it did. -/
def boundNobodyUptoRow : OpenClaim := { program := "ytkoefclkpdpdpaagreat", sum := "2454f358d8da563a96fda1f9335a90e2c3fd07b07137fc45099fdb52bcfd1cc2", func := "dewpond/dewpondlaw20.BoundNobody", spec := "boundNobody", inPlace := ["math/bits.Add64"], unfollowed := true, recurses := true, named := ["math/bits.divideError", "math/bits.overflowError"], apart := false, narrowed := true }
def BoundNobodyUptoSaid : Prop := boundNobodyUptoRow.holds Tryz.pinned (OpenSpec.upto boundNobodySpec)

end Rows
end Go.Proofs.YtkoefclkpdpdpaaGreat
