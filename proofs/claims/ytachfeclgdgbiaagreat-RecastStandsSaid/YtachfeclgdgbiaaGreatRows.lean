/-
  No cell of these rows narrows 'for every input' (looked for: loops, veiled, ifaces, maps, wideKeys, modest, calm, conditions, laid).
  DERIVED. THE GIVEN ROWS OF THIS SEAT. 5 by the template 'for every input the law returns true; each argument reads behind the call as it read before'; 0 by the template 'total and deterministic' (their statements: YtachfeclgdgbiaaGreatTotals.lean).
  GIVEN WITH THE SEED: the statements are not yours to turn. If you find one false, say at which input.
  Laid BY PROGRAM, IN A SANDBOX (cutbox-rows.mjs): the forced cells as the released guide's own fill.sh prints them over the translation b46c62981dc3bcac… (all of the seat's roots in one cut). By AI agents, Wed Nov 11 2026. No macro, syntax, notation, axiom, sorry.
-/
import Derived.Test.YtachfeclgdgbiaaGreatChecked
import GoSem.Claim
import GoSem.ClaimJoined
import GoSem.ClaimMapViews
import Derived.JoinedTies
import Derived.KernelRfl
namespace Go.Proofs.YtachfeclgdgbiaaGreat
/- THE CELL 'sum', in the pinned program and in every row, IS THE sha256 OF THE DUMP (.gsa) THAT YtachfeclgdgbiaaGreatProg.lean LOADS. Nothing in Lean hashes anything: it is a label: what it is worth is what the hold of that sum in a sandbox is worth. -/
noncomputable def Tryz.pinned : Pinned := { name := "ytachfeclgdgbiaagreat", sum := "b46c62981dc3bcac11f8e11aa3881b92b0df7eb543a39181a3ef48e49cc4f745", checked := Tryz.checked }
namespace Rows
def none {H : Type} : Left H := { results := [], args := [] }

/-- 'dewpondlaw15.RecastGrows': WHATEVER THE INPUT: true; the input reads as it did. -/
def recastGrowsSpec : ChangeSpec := { name := "recastGrows", fn := fun _ => fun
  | [d1, d2] => { results := [.lit (.bool true)], args := [d1, d2] }
  | _ => none }
def recastGrowsRow : OpenClaim := { program := "ytachfeclgdgbiaagreat", sum := "b46c62981dc3bcac11f8e11aa3881b92b0df7eb543a39181a3ef48e49cc4f745", func := "dewpond/dewpondlaw15.RecastGrows", spec := "recastGrows", unfollowed := true, recurses := true, apart := false }
def RecastGrowsSaid : Prop := recastGrowsRow.holds Tryz.pinned (OpenSpec.ofChange recastGrowsSpec)

/-- ITS FALSE NEIGHBOUR: 'it returns false'. Refute it at one input. -/
def recastGrowsWrong : ChangeSpec := { name := "recastGrows", fn := fun _ => fun
  | [d1, d2] => { results := [.lit (.bool false)], args := [d1, d2] }
  | _ => none }
def RecastGrowsWrongFalsely : Prop := recastGrowsRow.holds Tryz.pinned (OpenSpec.ofChange recastGrowsWrong)

/-- 'dewpondlaw15.RecastCoarsens': WHATEVER THE INPUT: true; the input reads as it did. -/
def recastCoarsensSpec : ChangeSpec := { name := "recastCoarsens", fn := fun _ => fun
  | [d1, d2] => { results := [.lit (.bool true)], args := [d1, d2] }
  | _ => none }
def recastCoarsensRow : OpenClaim := { program := "ytachfeclgdgbiaagreat", sum := "b46c62981dc3bcac11f8e11aa3881b92b0df7eb543a39181a3ef48e49cc4f745", func := "dewpond/dewpondlaw15.RecastCoarsens", spec := "recastCoarsens", unfollowed := true, recurses := true, apart := false }
def RecastCoarsensSaid : Prop := recastCoarsensRow.holds Tryz.pinned (OpenSpec.ofChange recastCoarsensSpec)

/-- ITS FALSE NEIGHBOUR: 'it returns false'. Refute it at one input. -/
def recastCoarsensWrong : ChangeSpec := { name := "recastCoarsens", fn := fun _ => fun
  | [d1, d2] => { results := [.lit (.bool false)], args := [d1, d2] }
  | _ => none }
def RecastCoarsensWrongFalsely : Prop := recastCoarsensRow.holds Tryz.pinned (OpenSpec.ofChange recastCoarsensWrong)

/-- 'dewpondlaw15.RecastTurns': WHATEVER THE INPUT: true; the input reads as it did. -/
def recastTurnsSpec : ChangeSpec := { name := "recastTurns", fn := fun _ => fun
  | [d1, d2, d3] => { results := [.lit (.bool true)], args := [d1, d2, d3] }
  | _ => none }
def recastTurnsRow : OpenClaim := { program := "ytachfeclgdgbiaagreat", sum := "b46c62981dc3bcac11f8e11aa3881b92b0df7eb543a39181a3ef48e49cc4f745", func := "dewpond/dewpondlaw15.RecastTurns", spec := "recastTurns", unfollowed := true, recurses := true, apart := false }
def RecastTurnsSaid : Prop := recastTurnsRow.holds Tryz.pinned (OpenSpec.ofChange recastTurnsSpec)

/-- ITS FALSE NEIGHBOUR: 'it returns false'. Refute it at one input. -/
def recastTurnsWrong : ChangeSpec := { name := "recastTurns", fn := fun _ => fun
  | [d1, d2, d3] => { results := [.lit (.bool false)], args := [d1, d2, d3] }
  | _ => none }
def RecastTurnsWrongFalsely : Prop := recastTurnsRow.holds Tryz.pinned (OpenSpec.ofChange recastTurnsWrong)

/-- 'dewpondlaw15.RecastStands': WHATEVER THE INPUT: true; the input reads as it did. -/
def recastStandsSpec : ChangeSpec := { name := "recastStands", fn := fun _ => fun
  | [d1, d2] => { results := [.lit (.bool true)], args := [d1, d2] }
  | _ => none }
def recastStandsRow : OpenClaim := { program := "ytachfeclgdgbiaagreat", sum := "b46c62981dc3bcac11f8e11aa3881b92b0df7eb543a39181a3ef48e49cc4f745", func := "dewpond/dewpondlaw15.RecastStands", spec := "recastStands", unfollowed := true, recurses := true, apart := false }
def RecastStandsSaid : Prop := recastStandsRow.holds Tryz.pinned (OpenSpec.ofChange recastStandsSpec)

/-- ITS FALSE NEIGHBOUR: 'it returns false'. Refute it at one input. -/
def recastStandsWrong : ChangeSpec := { name := "recastStands", fn := fun _ => fun
  | [d1, d2] => { results := [.lit (.bool false)], args := [d1, d2] }
  | _ => none }
def RecastStandsWrongFalsely : Prop := recastStandsRow.holds Tryz.pinned (OpenSpec.ofChange recastStandsWrong)

/-- 'dewpondlaw15.RecastSteps': WHATEVER THE INPUT: true; the input reads as it did. -/
def recastStepsSpec : ChangeSpec := { name := "recastSteps", fn := fun _ => fun
  | [d1, d2, d3] => { results := [.lit (.bool true)], args := [d1, d2, d3] }
  | _ => none }
def recastStepsRow : OpenClaim := { program := "ytachfeclgdgbiaagreat", sum := "b46c62981dc3bcac11f8e11aa3881b92b0df7eb543a39181a3ef48e49cc4f745", func := "dewpond/dewpondlaw15.RecastSteps", spec := "recastSteps", unfollowed := true, recurses := true, apart := false }
def RecastStepsSaid : Prop := recastStepsRow.holds Tryz.pinned (OpenSpec.ofChange recastStepsSpec)

/-- ITS FALSE NEIGHBOUR: 'it returns false'. Refute it at one input. -/
def recastStepsWrong : ChangeSpec := { name := "recastSteps", fn := fun _ => fun
  | [d1, d2, d3] => { results := [.lit (.bool false)], args := [d1, d2, d3] }
  | _ => none }
def RecastStepsWrongFalsely : Prop := recastStepsRow.holds Tryz.pinned (OpenSpec.ofChange recastStepsWrong)

/- THE SECOND FORM. 'bulk': how many values and letters a reading holds, each counted each time it is reached (what is shared counts as often as it is met; a slice's spare places count too). A statement '..UptoSaid' is the law's where the arguments, and the package variables that the reading takes, are together of bulk at most 1048576: NARROWER than '..Said'. Prove '..Said' where nothing that the law and all that it calls make is longer than what came in: it says more and counts as full. Else prove '..UptoSaid'. A law counts once. -/
mutual
def uptoBulk {H : Type} : DataW H → Nat
  | .lit (.string bytes) => bytes.length + 1
  | .lit _ => 1
  | .nil => 1
  | .ptr d => uptoBulk d + 1
  | .slice elems spare => uptoBulkAll elems + uptoBulkAll spare + 1
  | .agg parts => uptoBulkAll parts + 1
  | .iface _ d => uptoBulk d + 1
  | .map entries => uptoBulkEntries entries + 1
  | .held _ => 1
def uptoBulkAll {H : Type} : List (DataW H) → Nat
  | [] => 0
  | d :: r => uptoBulk d + uptoBulkAll r
def uptoBulkEntries {H : Type} : List (Lit × DataW H) → Nat
  | [] => 0
  | x :: r => uptoBulkEntry x + uptoBulkEntries r
def uptoBulkEntry {H : Type} : Lit × DataW H → Nat
  | (.string bytes, d) => bytes.length + uptoBulk d + 1
  | (_, d) => uptoBulk d + 1
 end
def uptoSmall : (H : Type) → List (DataW H) → Bool := fun _ ds => decide (uptoBulkAll ds ≤ 1048576)
def OpenSpec.upto (s : _root_.Go.ChangeSpec) : _root_.Go.OpenSpec := { _root_.Go.OpenSpec.ofChange s with cond := some uptoSmall }

/-- 'dewpondlaw15.RecastGrows', WHERE WHAT IT READS IS OF BULK AT MOST 1048576: true; the input reads as it did. -/
def recastGrowsUptoRow : OpenClaim := { program := "ytachfeclgdgbiaagreat", sum := "b46c62981dc3bcac11f8e11aa3881b92b0df7eb543a39181a3ef48e49cc4f745", func := "dewpond/dewpondlaw15.RecastGrows", spec := "recastGrows", unfollowed := true, recurses := true, apart := false, narrowed := true }
def RecastGrowsUptoSaid : Prop := recastGrowsUptoRow.holds Tryz.pinned (OpenSpec.upto recastGrowsSpec)

/-- 'dewpondlaw15.RecastCoarsens', WHERE WHAT IT READS IS OF BULK AT MOST 1048576: true; the input reads as it did. -/
def recastCoarsensUptoRow : OpenClaim := { program := "ytachfeclgdgbiaagreat", sum := "b46c62981dc3bcac11f8e11aa3881b92b0df7eb543a39181a3ef48e49cc4f745", func := "dewpond/dewpondlaw15.RecastCoarsens", spec := "recastCoarsens", unfollowed := true, recurses := true, apart := false, narrowed := true }
def RecastCoarsensUptoSaid : Prop := recastCoarsensUptoRow.holds Tryz.pinned (OpenSpec.upto recastCoarsensSpec)

/-- 'dewpondlaw15.RecastTurns', WHERE WHAT IT READS IS OF BULK AT MOST 1048576: true; the input reads as it did. -/
def recastTurnsUptoRow : OpenClaim := { program := "ytachfeclgdgbiaagreat", sum := "b46c62981dc3bcac11f8e11aa3881b92b0df7eb543a39181a3ef48e49cc4f745", func := "dewpond/dewpondlaw15.RecastTurns", spec := "recastTurns", unfollowed := true, recurses := true, apart := false, narrowed := true }
def RecastTurnsUptoSaid : Prop := recastTurnsUptoRow.holds Tryz.pinned (OpenSpec.upto recastTurnsSpec)

/-- 'dewpondlaw15.RecastStands', WHERE WHAT IT READS IS OF BULK AT MOST 1048576: true; the input reads as it did. -/
def recastStandsUptoRow : OpenClaim := { program := "ytachfeclgdgbiaagreat", sum := "b46c62981dc3bcac11f8e11aa3881b92b0df7eb543a39181a3ef48e49cc4f745", func := "dewpond/dewpondlaw15.RecastStands", spec := "recastStands", unfollowed := true, recurses := true, apart := false, narrowed := true }
def RecastStandsUptoSaid : Prop := recastStandsUptoRow.holds Tryz.pinned (OpenSpec.upto recastStandsSpec)

/-- 'dewpondlaw15.RecastSteps', WHERE WHAT IT READS IS OF BULK AT MOST 1048576: true; the input reads as it did. -/
def recastStepsUptoRow : OpenClaim := { program := "ytachfeclgdgbiaagreat", sum := "b46c62981dc3bcac11f8e11aa3881b92b0df7eb543a39181a3ef48e49cc4f745", func := "dewpond/dewpondlaw15.RecastSteps", spec := "recastSteps", unfollowed := true, recurses := true, apart := false, narrowed := true }
def RecastStepsUptoSaid : Prop := recastStepsUptoRow.holds Tryz.pinned (OpenSpec.upto recastStepsSpec)

end Rows
end Go.Proofs.YtachfeclgdgbiaaGreat
