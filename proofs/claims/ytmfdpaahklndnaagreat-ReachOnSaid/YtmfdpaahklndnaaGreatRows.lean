/-
  No cell of these rows narrows 'for every input' (looked for: loops, veiled, ifaces, maps, wideKeys, modest, calm, conditions, laid).
  DERIVED. THE GIVEN ROWS OF THIS SEAT. 4 by the template 'for every input the law returns true; each argument reads behind the call as it read before'; 0 by the template 'total and deterministic' (their statements: YtmfdpaahklndnaaGreatTotals.lean).
  GIVEN WITH THE SEED: the statements are not yours to turn. If you find one false, say at which input.
  Laid BY PROGRAM, IN A SANDBOX (cutbox-rows.mjs): the forced cells as the released guide's own fill.sh prints them over the translation 7e32c0952c1f6ab4… (all of the seat's roots in one cut). By AI agents, Wed Nov 11 2026. No macro, syntax, notation, axiom, sorry.
-/
import Derived.Test.YtmfdpaahklndnaaGreatChecked
import GoSem.Claim
import GoSem.ClaimJoined
import GoSem.ClaimMapViews
import Derived.JoinedTies
import Derived.KernelRfl
namespace Go.Proofs.YtmfdpaahklndnaaGreat
/- THE CELL 'sum', in the pinned program and in every row, IS THE sha256 OF THE DUMP (.gsa) THAT YtmfdpaahklndnaaGreatProg.lean LOADS. Nothing in Lean hashes anything: it is a label: what it is worth is what the hold of that sum in a sandbox is worth. -/
noncomputable def Tryz.pinned : Pinned := { name := "ytmfdpaahklndnaagreat", sum := "7e32c0952c1f6ab4353381b1e264bba0f937b6a46d6a6be76fb5408caa682585", checked := Tryz.checked }
namespace Rows
def none {H : Type} : Left H := { results := [], args := [] }

/-- 'dewpondlaw18.ReachBetween': WHATEVER THE INPUT: true; the input reads as it did. -/
def reachBetweenSpec : ChangeSpec := { name := "reachBetween", fn := fun _ => fun
  | [d1, d2] => { results := [.lit (.bool true)], args := [d1, d2] }
  | _ => none }
def reachBetweenRow : OpenClaim := { program := "ytmfdpaahklndnaagreat", sum := "7e32c0952c1f6ab4353381b1e264bba0f937b6a46d6a6be76fb5408caa682585", func := "dewpond/dewpondlaw18.ReachBetween", spec := "reachBetween", unfollowed := true, recurses := true, named := ["math/bits.divideError", "math/bits.overflowError"], apart := false }
def ReachBetweenSaid : Prop := reachBetweenRow.holds Tryz.pinned (OpenSpec.ofChange reachBetweenSpec)

/-- ITS FALSE NEIGHBOUR: 'it returns false'. Refute it at one input. -/
def reachBetweenWrong : ChangeSpec := { name := "reachBetween", fn := fun _ => fun
  | [d1, d2] => { results := [.lit (.bool false)], args := [d1, d2] }
  | _ => none }
def ReachBetweenWrongFalsely : Prop := reachBetweenRow.holds Tryz.pinned (OpenSpec.ofChange reachBetweenWrong)

/-- 'dewpondlaw18.ReachOn': WHATEVER THE INPUT: true; the input reads as it did. -/
def reachOnSpec : ChangeSpec := { name := "reachOn", fn := fun _ => fun
  | [d1, d2] => { results := [.lit (.bool true)], args := [d1, d2] }
  | _ => none }
def reachOnRow : OpenClaim := { program := "ytmfdpaahklndnaagreat", sum := "7e32c0952c1f6ab4353381b1e264bba0f937b6a46d6a6be76fb5408caa682585", func := "dewpond/dewpondlaw18.ReachOn", spec := "reachOn", unfollowed := true, recurses := true, apart := false }
def ReachOnSaid : Prop := reachOnRow.holds Tryz.pinned (OpenSpec.ofChange reachOnSpec)

/-- ITS FALSE NEIGHBOUR: 'it returns false'. Refute it at one input. -/
def reachOnWrong : ChangeSpec := { name := "reachOn", fn := fun _ => fun
  | [d1, d2] => { results := [.lit (.bool false)], args := [d1, d2] }
  | _ => none }
def ReachOnWrongFalsely : Prop := reachOnRow.holds Tryz.pinned (OpenSpec.ofChange reachOnWrong)

/-- 'dewpondlaw18.ReachHolds': WHATEVER THE INPUT: true; the input reads as it did. -/
def reachHoldsSpec : ChangeSpec := { name := "reachHolds", fn := fun _ => fun
  | [d1, d2, d3] => { results := [.lit (.bool true)], args := [d1, d2, d3] }
  | _ => none }
def reachHoldsRow : OpenClaim := { program := "ytmfdpaahklndnaagreat", sum := "7e32c0952c1f6ab4353381b1e264bba0f937b6a46d6a6be76fb5408caa682585", func := "dewpond/dewpondlaw18.ReachHolds", spec := "reachHolds", unfollowed := true, recurses := true, apart := false }
def ReachHoldsSaid : Prop := reachHoldsRow.holds Tryz.pinned (OpenSpec.ofChange reachHoldsSpec)

/-- ITS FALSE NEIGHBOUR: 'it returns false'. Refute it at one input. -/
def reachHoldsWrong : ChangeSpec := { name := "reachHolds", fn := fun _ => fun
  | [d1, d2, d3] => { results := [.lit (.bool false)], args := [d1, d2, d3] }
  | _ => none }
def ReachHoldsWrongFalsely : Prop := reachHoldsRow.holds Tryz.pinned (OpenSpec.ofChange reachHoldsWrong)

/-- 'dewpondlaw18.ReachRest': WHATEVER THE INPUT: true; the input reads as it did. -/
def reachRestSpec : ChangeSpec := { name := "reachRest", fn := fun _ => fun
  | [d1, d2, d3] => { results := [.lit (.bool true)], args := [d1, d2, d3] }
  | _ => none }
def reachRestRow : OpenClaim := { program := "ytmfdpaahklndnaagreat", sum := "7e32c0952c1f6ab4353381b1e264bba0f937b6a46d6a6be76fb5408caa682585", func := "dewpond/dewpondlaw18.ReachRest", spec := "reachRest", unfollowed := true, recurses := true, apart := false }
def ReachRestSaid : Prop := reachRestRow.holds Tryz.pinned (OpenSpec.ofChange reachRestSpec)

/-- ITS FALSE NEIGHBOUR: 'it returns false'. Refute it at one input. -/
def reachRestWrong : ChangeSpec := { name := "reachRest", fn := fun _ => fun
  | [d1, d2, d3] => { results := [.lit (.bool false)], args := [d1, d2, d3] }
  | _ => none }
def ReachRestWrongFalsely : Prop := reachRestRow.holds Tryz.pinned (OpenSpec.ofChange reachRestWrong)

/- THE SECOND FORM. 'bulk': how many values and letters a reading holds, each counted each time it is reached (what is shared counts as often as it is met; a slice's spare places count too). A statement '..UptoSaid' is the law's where the arguments, and the package variables that the reading takes, are together of bulk at most 1048576: NARROWER than '..Said'. Prove '..Said' where nothing that the law and all that it calls make is longer than what came in: it says more and counts as full. Else prove '..UptoSaid'. A law counts once. -/
mutual
def uptoBulk {H : Type} : DataW H → Nat
  | .lit (.string bytes) => bytes.length + 1
  | .lit _ => 1
  | .nil => 1
  | .ptr d => uptoBulk d + 1
  | .slice elems spare => uptoBulkAll elems + uptoBulkAll spare + 1
  | .agg parts => uptoBulkAll parts + 1
  | .iface _ d => uptoBulk d + 1
  | .map entries => uptoBulkEntries entries + 1
  | .held _ => 1
def uptoBulkAll {H : Type} : List (DataW H) → Nat
  | [] => 0
  | d :: r => uptoBulk d + uptoBulkAll r
def uptoBulkEntries {H : Type} : List (Lit × DataW H) → Nat
  | [] => 0
  | x :: r => uptoBulkEntry x + uptoBulkEntries r
def uptoBulkEntry {H : Type} : Lit × DataW H → Nat
  | (.string bytes, d) => bytes.length + uptoBulk d + 1
  | (_, d) => uptoBulk d + 1
 end
def uptoSmall : (H : Type) → List (DataW H) → Bool := fun _ ds => decide (uptoBulkAll ds ≤ 1048576)
def OpenSpec.upto (s : _root_.Go.ChangeSpec) : _root_.Go.OpenSpec := { _root_.Go.OpenSpec.ofChange s with cond := some uptoSmall }

/-- 'dewpondlaw18.ReachBetween', WHERE WHAT IT READS IS OF BULK AT MOST 1048576: true; the input reads as it did. -/
def reachBetweenUptoRow : OpenClaim := { program := "ytmfdpaahklndnaagreat", sum := "7e32c0952c1f6ab4353381b1e264bba0f937b6a46d6a6be76fb5408caa682585", func := "dewpond/dewpondlaw18.ReachBetween", spec := "reachBetween", unfollowed := true, recurses := true, named := ["math/bits.divideError", "math/bits.overflowError"], apart := false, narrowed := true }
def ReachBetweenUptoSaid : Prop := reachBetweenUptoRow.holds Tryz.pinned (OpenSpec.upto reachBetweenSpec)

/-- 'dewpondlaw18.ReachOn', WHERE WHAT IT READS IS OF BULK AT MOST 1048576: true; the input reads as it did. -/
def reachOnUptoRow : OpenClaim := { program := "ytmfdpaahklndnaagreat", sum := "7e32c0952c1f6ab4353381b1e264bba0f937b6a46d6a6be76fb5408caa682585", func := "dewpond/dewpondlaw18.ReachOn", spec := "reachOn", unfollowed := true, recurses := true, apart := false, narrowed := true }
def ReachOnUptoSaid : Prop := reachOnUptoRow.holds Tryz.pinned (OpenSpec.upto reachOnSpec)

/-- 'dewpondlaw18.ReachHolds', WHERE WHAT IT READS IS OF BULK AT MOST 1048576: true; the input reads as it did. -/
def reachHoldsUptoRow : OpenClaim := { program := "ytmfdpaahklndnaagreat", sum := "7e32c0952c1f6ab4353381b1e264bba0f937b6a46d6a6be76fb5408caa682585", func := "dewpond/dewpondlaw18.ReachHolds", spec := "reachHolds", unfollowed := true, recurses := true, apart := false, narrowed := true }
def ReachHoldsUptoSaid : Prop := reachHoldsUptoRow.holds Tryz.pinned (OpenSpec.upto reachHoldsSpec)

/-- 'dewpondlaw18.ReachRest', WHERE WHAT IT READS IS OF BULK AT MOST 1048576: true; the input reads as it did. -/
def reachRestUptoRow : OpenClaim := { program := "ytmfdpaahklndnaagreat", sum := "7e32c0952c1f6ab4353381b1e264bba0f937b6a46d6a6be76fb5408caa682585", func := "dewpond/dewpondlaw18.ReachRest", spec := "reachRest", unfollowed := true, recurses := true, apart := false, narrowed := true }
def ReachRestUptoSaid : Prop := reachRestUptoRow.holds Tryz.pinned (OpenSpec.upto reachRestSpec)

end Rows
end Go.Proofs.YtmfdpaahklndnaaGreat
