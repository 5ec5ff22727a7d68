/-
  No cell of these rows narrows 'for every input' (looked for: loops, veiled, ifaces, maps, wideKeys, modest, calm, conditions, laid).
  DERIVED. THE GIVEN ROWS OF THIS SEAT. 5 by the template 'for every input the law returns true; each argument reads behind the call as it read before'; 0 by the template 'total and deterministic' (their statements: YtelekchdbiimiaaGreatTotals.lean).
  GIVEN WITH THE SEED: the statements are not yours to turn. If you find one false, say at which input.
  Laid BY PROGRAM, IN A SANDBOX (cutbox-rows.mjs): the forced cells as the released guide's own fill.sh prints them over the translation 718ab621f8d0838f… (all of the seat's roots in one cut). By AI agents, Wed Nov 11 2026. No macro, syntax, notation, axiom, sorry.
-/
import Derived.Test.YtelekchdbiimiaaGreatChecked
import GoSem.Claim
import GoSem.ClaimJoined
import GoSem.ClaimMapViews
import Derived.JoinedTies
import Derived.KernelRfl
namespace Go.Proofs.YtelekchdbiimiaaGreat
/- THE CELL 'sum', in the pinned program and in every row, IS THE sha256 OF THE DUMP (.gsa) THAT YtelekchdbiimiaaGreatProg.lean LOADS. Nothing in Lean hashes anything: it is a label: what it is worth is what the hold of that sum in a sandbox is worth. -/
noncomputable def Tryz.pinned : Pinned := { name := "ytelekchdbiimiaagreat", sum := "718ab621f8d0838fa21128441aced9f2c312ad206c8a0f6e25da768d8da2e3d8", checked := Tryz.checked }
namespace Rows
def none {H : Type} : Left H := { results := [], args := [] }

/-- 'dewpondlaw21.GapSides': WHATEVER THE INPUT: true; the input reads as it did. -/
def gapSidesSpec : ChangeSpec := { name := "gapSides", fn := fun _ => fun
  | [d1, d2, d3] => { results := [.lit (.bool true)], args := [d1, d2, d3] }
  | _ => none }
def gapSidesRow : OpenClaim := { program := "ytelekchdbiimiaagreat", sum := "718ab621f8d0838fa21128441aced9f2c312ad206c8a0f6e25da768d8da2e3d8", func := "dewpond/dewpondlaw21.GapSides", spec := "gapSides", unfollowed := true, recurses := true, named := ["math/bits.divideError", "math/bits.overflowError"], apart := false }
def GapSidesSaid : Prop := gapSidesRow.holds Tryz.pinned (OpenSpec.ofChange gapSidesSpec)

/-- ITS FALSE NEIGHBOUR: 'it returns false'. Refute it at one input. -/
def gapSidesWrong : ChangeSpec := { name := "gapSides", fn := fun _ => fun
  | [d1, d2, d3] => { results := [.lit (.bool false)], args := [d1, d2, d3] }
  | _ => none }
def GapSidesWrongFalsely : Prop := gapSidesRow.holds Tryz.pinned (OpenSpec.ofChange gapSidesWrong)

/-- 'dewpondlaw21.GapMost': WHATEVER THE INPUT: true; the input reads as it did. -/
def gapMostSpec : ChangeSpec := { name := "gapMost", fn := fun _ => fun
  | [d1, d2, d3] => { results := [.lit (.bool true)], args := [d1, d2, d3] }
  | _ => none }
def gapMostRow : OpenClaim := { program := "ytelekchdbiimiaagreat", sum := "718ab621f8d0838fa21128441aced9f2c312ad206c8a0f6e25da768d8da2e3d8", func := "dewpond/dewpondlaw21.GapMost", spec := "gapMost", unfollowed := true, recurses := true, named := ["math/bits.divideError", "math/bits.overflowError"], apart := false }
def GapMostSaid : Prop := gapMostRow.holds Tryz.pinned (OpenSpec.ofChange gapMostSpec)

/-- ITS FALSE NEIGHBOUR: 'it returns false'. Refute it at one input. -/
def gapMostWrong : ChangeSpec := { name := "gapMost", fn := fun _ => fun
  | [d1, d2, d3] => { results := [.lit (.bool false)], args := [d1, d2, d3] }
  | _ => none }
def GapMostWrongFalsely : Prop := gapMostRow.holds Tryz.pinned (OpenSpec.ofChange gapMostWrong)

/-- 'dewpondlaw21.GapHolds': WHATEVER THE INPUT: true; the input reads as it did. -/
def gapHoldsSpec : ChangeSpec := { name := "gapHolds", fn := fun _ => fun
  | [d1, d2, d3] => { results := [.lit (.bool true)], args := [d1, d2, d3] }
  | _ => none }
def gapHoldsRow : OpenClaim := { program := "ytelekchdbiimiaagreat", sum := "718ab621f8d0838fa21128441aced9f2c312ad206c8a0f6e25da768d8da2e3d8", func := "dewpond/dewpondlaw21.GapHolds", spec := "gapHolds", unfollowed := true, recurses := true, named := ["math/bits.divideError", "math/bits.overflowError"], apart := false }
def GapHoldsSaid : Prop := gapHoldsRow.holds Tryz.pinned (OpenSpec.ofChange gapHoldsSpec)

/-- ITS FALSE NEIGHBOUR: 'it returns false'. Refute it at one input. -/
def gapHoldsWrong : ChangeSpec := { name := "gapHolds", fn := fun _ => fun
  | [d1, d2, d3] => { results := [.lit (.bool false)], args := [d1, d2, d3] }
  | _ => none }
def GapHoldsWrongFalsely : Prop := gapHoldsRow.holds Tryz.pinned (OpenSpec.ofChange gapHoldsWrong)

/-- 'dewpondlaw21.GapTurned': WHATEVER THE INPUT: true; the input reads as it did. -/
def gapTurnedSpec : ChangeSpec := { name := "gapTurned", fn := fun _ => fun
  | [d1, d2, d3] => { results := [.lit (.bool true)], args := [d1, d2, d3] }
  | _ => none }
def gapTurnedRow : OpenClaim := { program := "ytelekchdbiimiaagreat", sum := "718ab621f8d0838fa21128441aced9f2c312ad206c8a0f6e25da768d8da2e3d8", func := "dewpond/dewpondlaw21.GapTurned", spec := "gapTurned", unfollowed := true, recurses := true, named := ["math/bits.divideError", "math/bits.overflowError"], apart := false }
def GapTurnedSaid : Prop := gapTurnedRow.holds Tryz.pinned (OpenSpec.ofChange gapTurnedSpec)

/-- ITS FALSE NEIGHBOUR: 'it returns false'. Refute it at one input. -/
def gapTurnedWrong : ChangeSpec := { name := "gapTurned", fn := fun _ => fun
  | [d1, d2, d3] => { results := [.lit (.bool false)], args := [d1, d2, d3] }
  | _ => none }
def GapTurnedWrongFalsely : Prop := gapTurnedRow.holds Tryz.pinned (OpenSpec.ofChange gapTurnedWrong)

/-- 'dewpondlaw21.GapNobody': WHATEVER THE INPUT: true; the input reads as it did. -/
def gapNobodySpec : ChangeSpec := { name := "gapNobody", fn := fun _ => fun
  | [d1, d2] => { results := [.lit (.bool true)], args := [d1, d2] }
  | _ => none }
def gapNobodyRow : OpenClaim := { program := "ytelekchdbiimiaagreat", sum := "718ab621f8d0838fa21128441aced9f2c312ad206c8a0f6e25da768d8da2e3d8", func := "dewpond/dewpondlaw21.GapNobody", spec := "gapNobody", unfollowed := true, recurses := true, named := ["math/bits.divideError", "math/bits.overflowError"], apart := false }
def GapNobodySaid : Prop := gapNobodyRow.holds Tryz.pinned (OpenSpec.ofChange gapNobodySpec)

/-- ITS FALSE NEIGHBOUR: 'it returns false'. Refute it at one input. -/
def gapNobodyWrong : ChangeSpec := { name := "gapNobody", fn := fun _ => fun
  | [d1, d2] => { results := [.lit (.bool false)], args := [d1, d2] }
  | _ => none }
def GapNobodyWrongFalsely : Prop := gapNobodyRow.holds Tryz.pinned (OpenSpec.ofChange gapNobodyWrong)

/- THE SECOND FORM. 'bulk': how many values and letters a reading holds, each counted each time it is reached (what is shared counts as often as it is met; a slice's spare places count too). A statement '..UptoSaid' is the law's where the arguments, and the package variables that the reading takes, are together of bulk at most 1048576: NARROWER than '..Said'. Prove '..Said' where nothing that the law and all that it calls make is longer than what came in: it says more and counts as full. Else prove '..UptoSaid'. A law counts once. -/
mutual
def uptoBulk {H : Type} : DataW H → Nat
  | .lit (.string bytes) => bytes.length + 1
  | .lit _ => 1
  | .nil => 1
  | .ptr d => uptoBulk d + 1
  | .slice elems spare => uptoBulkAll elems + uptoBulkAll spare + 1
  | .agg parts => uptoBulkAll parts + 1
  | .iface _ d => uptoBulk d + 1
  | .map entries => uptoBulkEntries entries + 1
  | .held _ => 1
def uptoBulkAll {H : Type} : List (DataW H) → Nat
  | [] => 0
  | d :: r => uptoBulk d + uptoBulkAll r
def uptoBulkEntries {H : Type} : List (Lit × DataW H) → Nat
  | [] => 0
  | x :: r => uptoBulkEntry x + uptoBulkEntries r
def uptoBulkEntry {H : Type} : Lit × DataW H → Nat
  | (.string bytes, d) => bytes.length + uptoBulk d + 1
  | (_, d) => uptoBulk d + 1
 end
def uptoSmall : (H : Type) → List (DataW H) → Bool := fun _ ds => decide (uptoBulkAll ds ≤ 1048576)
def OpenSpec.upto (s : _root_.Go.ChangeSpec) : _root_.Go.OpenSpec := { _root_.Go.OpenSpec.ofChange s with cond := some uptoSmall }

/-- 'dewpondlaw21.GapSides', WHERE WHAT IT READS IS OF BULK AT MOST 1048576: true; the input reads as it did. -/
def gapSidesUptoRow : OpenClaim := { program := "ytelekchdbiimiaagreat", sum := "718ab621f8d0838fa21128441aced9f2c312ad206c8a0f6e25da768d8da2e3d8", func := "dewpond/dewpondlaw21.GapSides", spec := "gapSides", unfollowed := true, recurses := true, named := ["math/bits.divideError", "math/bits.overflowError"], apart := false, narrowed := true }
def GapSidesUptoSaid : Prop := gapSidesUptoRow.holds Tryz.pinned (OpenSpec.upto gapSidesSpec)

/-- 'dewpondlaw21.GapMost', WHERE WHAT IT READS IS OF BULK AT MOST 1048576: true; the input reads as it did. -/
def gapMostUptoRow : OpenClaim := { program := "ytelekchdbiimiaagreat", sum := "718ab621f8d0838fa21128441aced9f2c312ad206c8a0f6e25da768d8da2e3d8", func := "dewpond/dewpondlaw21.GapMost", spec := "gapMost", unfollowed := true, recurses := true, named := ["math/bits.divideError", "math/bits.overflowError"], apart := false, narrowed := true }
def GapMostUptoSaid : Prop := gapMostUptoRow.holds Tryz.pinned (OpenSpec.upto gapMostSpec)

/-- 'dewpondlaw21.GapHolds', WHERE WHAT IT READS IS OF BULK AT MOST 1048576: true; the input reads as it did. -/
def gapHoldsUptoRow : OpenClaim := { program := "ytelekchdbiimiaagreat", sum := "718ab621f8d0838fa21128441aced9f2c312ad206c8a0f6e25da768d8da2e3d8", func := "dewpond/dewpondlaw21.GapHolds", spec := "gapHolds", unfollowed := true, recurses := true, named := ["math/bits.divideError", "math/bits.overflowError"], apart := false, narrowed := true }
def GapHoldsUptoSaid : Prop := gapHoldsUptoRow.holds Tryz.pinned (OpenSpec.upto gapHoldsSpec)

/-- 'dewpondlaw21.GapTurned', WHERE WHAT IT READS IS OF BULK AT MOST 1048576: true; the input reads as it did. -/
def gapTurnedUptoRow : OpenClaim := { program := "ytelekchdbiimiaagreat", sum := "718ab621f8d0838fa21128441aced9f2c312ad206c8a0f6e25da768d8da2e3d8", func := "dewpond/dewpondlaw21.GapTurned", spec := "gapTurned", unfollowed := true, recurses := true, named := ["math/bits.divideError", "math/bits.overflowError"], apart := false, narrowed := true }
def GapTurnedUptoSaid : Prop := gapTurnedUptoRow.holds Tryz.pinned (OpenSpec.upto gapTurnedSpec)

/-- 'dewpondlaw21.GapNobody', WHERE WHAT IT READS IS OF BULK AT MOST 1048576: true; the input reads as it did. -/
def gapNobodyUptoRow : OpenClaim := { program := "ytelekchdbiimiaagreat", sum := "718ab621f8d0838fa21128441aced9f2c312ad206c8a0f6e25da768d8da2e3d8", func := "dewpond/dewpondlaw21.GapNobody", spec := "gapNobody", unfollowed := true, recurses := true, named := ["math/bits.divideError", "math/bits.overflowError"], apart := false, narrowed := true }
def GapNobodyUptoSaid : Prop := gapNobodyUptoRow.holds Tryz.pinned (OpenSpec.upto gapNobodySpec)

end Rows
end Go.Proofs.YtelekchdbiimiaaGreat
