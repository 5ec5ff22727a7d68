/-
  No cell of these rows narrows 'for every input' (looked for: loops, veiled, ifaces, maps, wideKeys, modest, calm, conditions, laid).
  DERIVED. THE GIVEN ROWS OF THIS SEAT. 3 by the template 'for every input the law returns true; each argument reads behind the call as it read before'; 0 by the template 'total and deterministic' (their statements: YtabbpcpnabecmaaGreatTotals.lean).
  GIVEN WITH THE SEED: the statements are not yours to turn. If you find one false, say at which input.
  Laid BY PROGRAM, IN A SANDBOX (cutbox-rows.mjs): the forced cells as the released guide's own fill.sh prints them over the translation f3329a1a9765ce79… (all of the seat's roots in one cut). By AI agents, Wed Nov 11 2026. No macro, syntax, notation, axiom, sorry.
-/
import Derived.Test.YtabbpcpnabecmaaGreatChecked
import GoSem.Claim
import GoSem.ClaimJoined
import GoSem.ClaimMapViews
import Derived.JoinedTies
import Derived.KernelRfl
namespace Go.Proofs.YtabbpcpnabecmaaGreat
/- THE CELL 'sum', in the pinned program and in every row, IS THE sha256 OF THE DUMP (.gsa) THAT YtabbpcpnabecmaaGreatProg.lean LOADS. Nothing in Lean hashes anything: it is a label: what it is worth is what the hold of that sum in a sandbox is worth. -/
noncomputable def Tryz.pinned : Pinned := { name := "ytabbpcpnabecmaagreat", sum := "f3329a1a9765ce79ebbb60a6c5ecf0766c27e1ffe62ed4d612fcd67d644f1a6e", checked := Tryz.checked }
namespace Rows
def none {H : Type} : Left H := { results := [], args := [] }

/-- 'dewpondlaw12.PressRuns': WHATEVER THE INPUT: true; the input reads as it did. -/
def pressRunsSpec : ChangeSpec := { name := "pressRuns", fn := fun _ => fun
  | [d1, d2, d3, d4] => { results := [.lit (.bool true)], args := [d1, d2, d3, d4] }
  | _ => none }
def pressRunsRow : OpenClaim := { program := "ytabbpcpnabecmaagreat", sum := "f3329a1a9765ce79ebbb60a6c5ecf0766c27e1ffe62ed4d612fcd67d644f1a6e", func := "dewpond/dewpondlaw12.PressRuns", spec := "pressRuns", unfollowed := true, recurses := true, apart := false }
def PressRunsSaid : Prop := pressRunsRow.holds Tryz.pinned (OpenSpec.ofChange pressRunsSpec)

/-- ITS FALSE NEIGHBOUR: 'it returns false'. Refute it at one input. -/
def pressRunsWrong : ChangeSpec := { name := "pressRuns", fn := fun _ => fun
  | [d1, d2, d3, d4] => { results := [.lit (.bool false)], args := [d1, d2, d3, d4] }
  | _ => none }
def PressRunsWrongFalsely : Prop := pressRunsRow.holds Tryz.pinned (OpenSpec.ofChange pressRunsWrong)

/-- 'dewpondlaw12.PressTells': WHATEVER THE INPUT: true; the input reads as it did. -/
def pressTellsSpec : ChangeSpec := { name := "pressTells", fn := fun _ => fun
  | [d1, d2, d3, d4] => { results := [.lit (.bool true)], args := [d1, d2, d3, d4] }
  | _ => none }
def pressTellsRow : OpenClaim := { program := "ytabbpcpnabecmaagreat", sum := "f3329a1a9765ce79ebbb60a6c5ecf0766c27e1ffe62ed4d612fcd67d644f1a6e", func := "dewpond/dewpondlaw12.PressTells", spec := "pressTells", unfollowed := true, recurses := true, apart := false }
def PressTellsSaid : Prop := pressTellsRow.holds Tryz.pinned (OpenSpec.ofChange pressTellsSpec)

/-- ITS FALSE NEIGHBOUR: 'it returns false'. Refute it at one input. -/
def pressTellsWrong : ChangeSpec := { name := "pressTells", fn := fun _ => fun
  | [d1, d2, d3, d4] => { results := [.lit (.bool false)], args := [d1, d2, d3, d4] }
  | _ => none }
def PressTellsWrongFalsely : Prop := pressTellsRow.holds Tryz.pinned (OpenSpec.ofChange pressTellsWrong)

/-- 'dewpondlaw12.PressAlike': WHATEVER THE INPUT: true; the input reads as it did. -/
def pressAlikeSpec : ChangeSpec := { name := "pressAlike", fn := fun _ => fun
  | [d1, d2, d3] => { results := [.lit (.bool true)], args := [d1, d2, d3] }
  | _ => none }
def pressAlikeRow : OpenClaim := { program := "ytabbpcpnabecmaagreat", sum := "f3329a1a9765ce79ebbb60a6c5ecf0766c27e1ffe62ed4d612fcd67d644f1a6e", func := "dewpond/dewpondlaw12.PressAlike", spec := "pressAlike", unfollowed := true, recurses := true, apart := false }
def PressAlikeSaid : Prop := pressAlikeRow.holds Tryz.pinned (OpenSpec.ofChange pressAlikeSpec)

/-- ITS FALSE NEIGHBOUR: 'it returns false'. Refute it at one input. -/
def pressAlikeWrong : ChangeSpec := { name := "pressAlike", fn := fun _ => fun
  | [d1, d2, d3] => { results := [.lit (.bool false)], args := [d1, d2, d3] }
  | _ => none }
def PressAlikeWrongFalsely : Prop := pressAlikeRow.holds Tryz.pinned (OpenSpec.ofChange pressAlikeWrong)

/- THE SECOND FORM. 'bulk': how many values and letters a reading holds, each counted each time it is reached (what is shared counts as often as it is met; a slice's spare places count too). A statement '..UptoSaid' is the law's where the arguments, and the package variables that the reading takes, are together of bulk at most 1048576: NARROWER than '..Said'. Prove '..Said' where nothing that the law and all that it calls make is longer than what came in: it says more and counts as full. Else prove '..UptoSaid'. A law counts once. -/
mutual
def uptoBulk {H : Type} : DataW H → Nat
  | .lit (.string bytes) => bytes.length + 1
  | .lit _ => 1
  | .nil => 1
  | .ptr d => uptoBulk d + 1
  | .slice elems spare => uptoBulkAll elems + uptoBulkAll spare + 1
  | .agg parts => uptoBulkAll parts + 1
  | .iface _ d => uptoBulk d + 1
  | .map entries => uptoBulkEntries entries + 1
  | .held _ => 1
def uptoBulkAll {H : Type} : List (DataW H) → Nat
  | [] => 0
  | d :: r => uptoBulk d + uptoBulkAll r
def uptoBulkEntries {H : Type} : List (Lit × DataW H) → Nat
  | [] => 0
  | x :: r => uptoBulkEntry x + uptoBulkEntries r
def uptoBulkEntry {H : Type} : Lit × DataW H → Nat
  | (.string bytes, d) => bytes.length + uptoBulk d + 1
  | (_, d) => uptoBulk d + 1
 end
def uptoSmall : (H : Type) → List (DataW H) → Bool := fun _ ds => decide (uptoBulkAll ds ≤ 1048576)
def OpenSpec.upto (s : _root_.Go.ChangeSpec) : _root_.Go.OpenSpec := { _root_.Go.OpenSpec.ofChange s with cond := some uptoSmall }

/-- 'dewpondlaw12.PressRuns', WHERE WHAT IT READS IS OF BULK AT MOST 1048576: true; the input reads as it did. -/
def pressRunsUptoRow : OpenClaim := { program := "ytabbpcpnabecmaagreat", sum := "f3329a1a9765ce79ebbb60a6c5ecf0766c27e1ffe62ed4d612fcd67d644f1a6e", func := "dewpond/dewpondlaw12.PressRuns", spec := "pressRuns", unfollowed := true, recurses := true, apart := false, narrowed := true }
def PressRunsUptoSaid : Prop := pressRunsUptoRow.holds Tryz.pinned (OpenSpec.upto pressRunsSpec)

/-- 'dewpondlaw12.PressTells', WHERE WHAT IT READS IS OF BULK AT MOST 1048576: true; the input reads as it did. -/
def pressTellsUptoRow : OpenClaim := { program := "ytabbpcpnabecmaagreat", sum := "f3329a1a9765ce79ebbb60a6c5ecf0766c27e1ffe62ed4d612fcd67d644f1a6e", func := "dewpond/dewpondlaw12.PressTells", spec := "pressTells", unfollowed := true, recurses := true, apart := false, narrowed := true }
def PressTellsUptoSaid : Prop := pressTellsUptoRow.holds Tryz.pinned (OpenSpec.upto pressTellsSpec)

/-- 'dewpondlaw12.PressAlike', WHERE WHAT IT READS IS OF BULK AT MOST 1048576: true; the input reads as it did. -/
def pressAlikeUptoRow : OpenClaim := { program := "ytabbpcpnabecmaagreat", sum := "f3329a1a9765ce79ebbb60a6c5ecf0766c27e1ffe62ed4d612fcd67d644f1a6e", func := "dewpond/dewpondlaw12.PressAlike", spec := "pressAlike", unfollowed := true, recurses := true, apart := false, narrowed := true }
def PressAlikeUptoSaid : Prop := pressAlikeUptoRow.holds Tryz.pinned (OpenSpec.upto pressAlikeSpec)

end Rows
end Go.Proofs.YtabbpcpnabecmaaGreat
