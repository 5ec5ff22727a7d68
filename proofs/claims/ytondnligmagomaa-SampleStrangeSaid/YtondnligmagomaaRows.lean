/-
  No cell of these rows narrows 'for every input' (looked for: loops, veiled, ifaces, maps, wideKeys, modest, calm, conditions, laid).
  DERIVED. THE GIVEN ROWS OF THIS SEAT. 5 by the template 'for every input the law returns true; each argument reads behind the call as it read before'; 0 by the template 'total and deterministic' (their statements: YtondnligmagomaaTotals.lean).
  GIVEN WITH THE SEED: the statements are not yours to turn. If you find one false, say at which input.
  Laid BY PROGRAM, IN A SANDBOX (cutbox-rows.mjs): the forced cells as the released guide's own fill.sh prints them over the translation 2a9df2c49f7ea96d… (all of the seat's roots in one cut). By AI agents, Wed Nov 11 2026. No macro, syntax, notation, axiom, sorry.
-/
import Derived.Test.YtondnligmagomaaChecked
import GoSem.Claim
import GoSem.ClaimJoined
import GoSem.ClaimMapViews
import Derived.JoinedTies
import Derived.KernelRfl
namespace Go.Proofs.Ytondnligmagomaa
/- THE CELL 'sum', in the pinned program and in every row, IS THE sha256 OF THE DUMP (.gsa) THAT YtondnligmagomaaProg.lean LOADS. Nothing in Lean hashes anything: it is a label: what it is worth is what the hold of that sum in a sandbox is worth. -/
noncomputable def Try.pinned : Pinned := { name := "ytondnligmagomaa", sum := "2a9df2c49f7ea96db967ca16aa0d0a2c81dc22b987288f065bd44ad89ddbea16", checked := Try.checked }
namespace Rows
def none {H : Type} : Left H := { results := [], args := [] }

/-- 'dewpondlaw04.SampleNumbers': WHATEVER THE INPUT: true; the input reads as it did. -/
def sampleNumbersSpec : ChangeSpec := { name := "sampleNumbers", fn := fun _ => fun
  | [d1, d2] => { results := [.lit (.bool true)], args := [d1, d2] }
  | _ => none }
def sampleNumbersRow : OpenClaim := { program := "ytondnligmagomaa", sum := "2a9df2c49f7ea96db967ca16aa0d0a2c81dc22b987288f065bd44ad89ddbea16", func := "dewpond/dewpondlaw04.SampleNumbers", spec := "sampleNumbers", apart := false }
def SampleNumbersSaid : Prop := sampleNumbersRow.holds Try.pinned (OpenSpec.ofChange sampleNumbersSpec)

/-- ITS FALSE NEIGHBOUR: 'it returns false'. Refute it at one input. -/
def sampleNumbersWrong : ChangeSpec := { name := "sampleNumbers", fn := fun _ => fun
  | [d1, d2] => { results := [.lit (.bool false)], args := [d1, d2] }
  | _ => none }
def SampleNumbersWrongFalsely : Prop := sampleNumbersRow.holds Try.pinned (OpenSpec.ofChange sampleNumbersWrong)

/-- 'dewpondlaw04.SampleStrange': WHATEVER THE INPUT: true; the input reads as it did. -/
def sampleStrangeSpec : ChangeSpec := { name := "sampleStrange", fn := fun _ => fun
  | [d1, d2, d3] => { results := [.lit (.bool true)], args := [d1, d2, d3] }
  | _ => none }
def sampleStrangeRow : OpenClaim := { program := "ytondnligmagomaa", sum := "2a9df2c49f7ea96db967ca16aa0d0a2c81dc22b987288f065bd44ad89ddbea16", func := "dewpond/dewpondlaw04.SampleStrange", spec := "sampleStrange", apart := false }
def SampleStrangeSaid : Prop := sampleStrangeRow.holds Try.pinned (OpenSpec.ofChange sampleStrangeSpec)

/-- ITS FALSE NEIGHBOUR: 'it returns false'. Refute it at one input. -/
def sampleStrangeWrong : ChangeSpec := { name := "sampleStrange", fn := fun _ => fun
  | [d1, d2, d3] => { results := [.lit (.bool false)], args := [d1, d2, d3] }
  | _ => none }
def SampleStrangeWrongFalsely : Prop := sampleStrangeRow.holds Try.pinned (OpenSpec.ofChange sampleStrangeWrong)

/-- 'dewpondlaw04.SampleExact': WHATEVER THE INPUT: true; the input reads as it did. -/
def sampleExactSpec : ChangeSpec := { name := "sampleExact", fn := fun _ => fun
  | [d1, d2] => { results := [.lit (.bool true)], args := [d1, d2] }
  | _ => none }
def sampleExactRow : OpenClaim := { program := "ytondnligmagomaa", sum := "2a9df2c49f7ea96db967ca16aa0d0a2c81dc22b987288f065bd44ad89ddbea16", func := "dewpond/dewpondlaw04.SampleExact", spec := "sampleExact", apart := false }
def SampleExactSaid : Prop := sampleExactRow.holds Try.pinned (OpenSpec.ofChange sampleExactSpec)

/-- ITS FALSE NEIGHBOUR: 'it returns false'. Refute it at one input. -/
def sampleExactWrong : ChangeSpec := { name := "sampleExact", fn := fun _ => fun
  | [d1, d2] => { results := [.lit (.bool false)], args := [d1, d2] }
  | _ => none }
def SampleExactWrongFalsely : Prop := sampleExactRow.holds Try.pinned (OpenSpec.ofChange sampleExactWrong)

/-- 'dewpondlaw04.SampleAll': WHATEVER THE INPUT: true; the input reads as it did. -/
def sampleAllSpec : ChangeSpec := { name := "sampleAll", fn := fun _ => fun
  | [d] => { results := [.lit (.bool true)], args := [d] }
  | _ => none }
def sampleAllRow : OpenClaim := { program := "ytondnligmagomaa", sum := "2a9df2c49f7ea96db967ca16aa0d0a2c81dc22b987288f065bd44ad89ddbea16", func := "dewpond/dewpondlaw04.SampleAll", spec := "sampleAll", apart := false }
def SampleAllSaid : Prop := sampleAllRow.holds Try.pinned (OpenSpec.ofChange sampleAllSpec)

/-- ITS FALSE NEIGHBOUR: 'it returns false'. Refute it at one input. -/
def sampleAllWrong : ChangeSpec := { name := "sampleAll", fn := fun _ => fun
  | [d] => { results := [.lit (.bool false)], args := [d] }
  | _ => none }
def SampleAllWrongFalsely : Prop := sampleAllRow.holds Try.pinned (OpenSpec.ofChange sampleAllWrong)

/-- 'dewpondlaw04.SamplePacks': WHATEVER THE INPUT: true; the input reads as it did. -/
def samplePacksSpec : ChangeSpec := { name := "samplePacks", fn := fun _ => fun
  | [d] => { results := [.lit (.bool true)], args := [d] }
  | _ => none }
def samplePacksRow : OpenClaim := { program := "ytondnligmagomaa", sum := "2a9df2c49f7ea96db967ca16aa0d0a2c81dc22b987288f065bd44ad89ddbea16", func := "dewpond/dewpondlaw04.SamplePacks", spec := "samplePacks", apart := false }
def SamplePacksSaid : Prop := samplePacksRow.holds Try.pinned (OpenSpec.ofChange samplePacksSpec)

/-- ITS FALSE NEIGHBOUR: 'it returns false'. Refute it at one input. -/
def samplePacksWrong : ChangeSpec := { name := "samplePacks", fn := fun _ => fun
  | [d] => { results := [.lit (.bool false)], args := [d] }
  | _ => none }
def SamplePacksWrongFalsely : Prop := samplePacksRow.holds Try.pinned (OpenSpec.ofChange samplePacksWrong)

/- THE SECOND FORM. 'bulk': how many values and letters a reading holds, each counted each time it is reached (what is shared counts as often as it is met; a slice's spare places count too). A statement '..UptoSaid' is the law's where the arguments, and the package variables that the reading takes, are together of bulk at most 1048576: NARROWER than '..Said'. Prove '..Said' where nothing that the law and all that it calls make is longer than what came in: it says more and counts as full. Else prove '..UptoSaid'. A law counts once. -/
mutual
def uptoBulk {H : Type} : DataW H → Nat
  | .lit (.string bytes) => bytes.length + 1
  | .lit _ => 1
  | .nil => 1
  | .ptr d => uptoBulk d + 1
  | .slice elems spare => uptoBulkAll elems + uptoBulkAll spare + 1
  | .agg parts => uptoBulkAll parts + 1
  | .iface _ d => uptoBulk d + 1
  | .map entries => uptoBulkEntries entries + 1
  | .held _ => 1
def uptoBulkAll {H : Type} : List (DataW H) → Nat
  | [] => 0
  | d :: r => uptoBulk d + uptoBulkAll r
def uptoBulkEntries {H : Type} : List (Lit × DataW H) → Nat
  | [] => 0
  | x :: r => uptoBulkEntry x + uptoBulkEntries r
def uptoBulkEntry {H : Type} : Lit × DataW H → Nat
  | (.string bytes, d) => bytes.length + uptoBulk d + 1
  | (_, d) => uptoBulk d + 1
 end
def uptoSmall : (H : Type) → List (DataW H) → Bool := fun _ ds => decide (uptoBulkAll ds ≤ 1048576)
def OpenSpec.upto (s : _root_.Go.ChangeSpec) : _root_.Go.OpenSpec := { _root_.Go.OpenSpec.ofChange s with cond := some uptoSmall }

/-- 'dewpondlaw04.SampleNumbers', WHERE WHAT IT READS IS OF BULK AT MOST 1048576: true; the input reads as it did. -/
def sampleNumbersUptoRow : OpenClaim := { program := "ytondnligmagomaa", sum := "2a9df2c49f7ea96db967ca16aa0d0a2c81dc22b987288f065bd44ad89ddbea16", func := "dewpond/dewpondlaw04.SampleNumbers", spec := "sampleNumbers", apart := false, narrowed := true }
def SampleNumbersUptoSaid : Prop := sampleNumbersUptoRow.holds Try.pinned (OpenSpec.upto sampleNumbersSpec)

/-- 'dewpondlaw04.SampleStrange', WHERE WHAT IT READS IS OF BULK AT MOST 1048576: true; the input reads as it did. -/
def sampleStrangeUptoRow : OpenClaim := { program := "ytondnligmagomaa", sum := "2a9df2c49f7ea96db967ca16aa0d0a2c81dc22b987288f065bd44ad89ddbea16", func := "dewpond/dewpondlaw04.SampleStrange", spec := "sampleStrange", apart := false, narrowed := true }
def SampleStrangeUptoSaid : Prop := sampleStrangeUptoRow.holds Try.pinned (OpenSpec.upto sampleStrangeSpec)

/-- 'dewpondlaw04.SampleExact', WHERE WHAT IT READS IS OF BULK AT MOST 1048576: true; the input reads as it did. -/
def sampleExactUptoRow : OpenClaim := { program := "ytondnligmagomaa", sum := "2a9df2c49f7ea96db967ca16aa0d0a2c81dc22b987288f065bd44ad89ddbea16", func := "dewpond/dewpondlaw04.SampleExact", spec := "sampleExact", apart := false, narrowed := true }
def SampleExactUptoSaid : Prop := sampleExactUptoRow.holds Try.pinned (OpenSpec.upto sampleExactSpec)

/-- 'dewpondlaw04.SampleAll', WHERE WHAT IT READS IS OF BULK AT MOST 1048576: true; the input reads as it did. -/
def sampleAllUptoRow : OpenClaim := { program := "ytondnligmagomaa", sum := "2a9df2c49f7ea96db967ca16aa0d0a2c81dc22b987288f065bd44ad89ddbea16", func := "dewpond/dewpondlaw04.SampleAll", spec := "sampleAll", apart := false, narrowed := true }
def SampleAllUptoSaid : Prop := sampleAllUptoRow.holds Try.pinned (OpenSpec.upto sampleAllSpec)

/-- 'dewpondlaw04.SamplePacks', WHERE WHAT IT READS IS OF BULK AT MOST 1048576: true; the input reads as it did. -/
def samplePacksUptoRow : OpenClaim := { program := "ytondnligmagomaa", sum := "2a9df2c49f7ea96db967ca16aa0d0a2c81dc22b987288f065bd44ad89ddbea16", func := "dewpond/dewpondlaw04.SamplePacks", spec := "samplePacks", apart := false, narrowed := true }
def SamplePacksUptoSaid : Prop := samplePacksUptoRow.holds Try.pinned (OpenSpec.upto samplePacksSpec)

end Rows
end Go.Proofs.Ytondnligmagomaa
