/-
  No cell of these rows narrows 'for every input' (looked for: loops, veiled, ifaces, maps, wideKeys, modest, calm, conditions, laid).
  DERIVED. THE GIVEN ROWS OF THIS SEAT. 8 by the template 'for every input the law returns true; each argument reads behind the call as it read before'; 0 by the template 'total and deterministic' (their statements: YtjhkflkffbdafaaTotals.lean).
  GIVEN WITH THE SEED: the statements are not yours to turn. If you find one false, say at which input.
  Laid BY PROGRAM, IN A SANDBOX (cutbox-rows.mjs): the forced cells as the released guide's own fill.sh prints them over the translation feac3f3fe7a3673d… (all of the seat's roots in one cut). By AI agents, Wed Nov 11 2026. No macro, syntax, notation, axiom, sorry.
-/
import Derived.Test.YtjhkflkffbdafaaChecked
import GoSem.Claim
import GoSem.ClaimJoined
import GoSem.ClaimMapViews
import Derived.JoinedTies
import Derived.KernelRfl
namespace Go.Proofs.Ytjhkflkffbdafaa
/- THE CELL 'sum', in the pinned program and in every row, IS THE sha256 OF THE DUMP (.gsa) THAT YtjhkflkffbdafaaProg.lean LOADS. Nothing in Lean hashes anything: it is a label: what it is worth is what the hold of that sum in a sandbox is worth. -/
noncomputable def Try.pinned : Pinned := { name := "ytjhkflkffbdafaa", sum := "feac3f3fe7a3673d1f4a6b4fa8fb0ad01e4c2ef4ba7ce2713a9ebb1ceaa88d87", checked := Try.checked }
namespace Rows
def none {H : Type} : Left H := { results := [], args := [] }

/-- 'dewpondlaw01.ReckonSums': WHATEVER THE INPUT: true; the input reads as it did. -/
def reckonSumsSpec : ChangeSpec := { name := "reckonSums", fn := fun _ => fun
  | [d1, d2] => { results := [.lit (.bool true)], args := [d1, d2] }
  | _ => none }
def reckonSumsRow : OpenClaim := { program := "ytjhkflkffbdafaa", sum := "feac3f3fe7a3673d1f4a6b4fa8fb0ad01e4c2ef4ba7ce2713a9ebb1ceaa88d87", func := "dewpond/dewpondlaw01.ReckonSums", spec := "reckonSums", named := ["math/bits.divideError", "math/bits.overflowError"], apart := false }
def ReckonSumsSaid : Prop := reckonSumsRow.holds Try.pinned (OpenSpec.ofChange reckonSumsSpec)

/-- ITS FALSE NEIGHBOUR: 'it returns false'. Refute it at one input. -/
def reckonSumsWrong : ChangeSpec := { name := "reckonSums", fn := fun _ => fun
  | [d1, d2] => { results := [.lit (.bool false)], args := [d1, d2] }
  | _ => none }
def ReckonSumsWrongFalsely : Prop := reckonSumsRow.holds Try.pinned (OpenSpec.ofChange reckonSumsWrong)

/-- 'dewpondlaw01.ReckonProducts': WHATEVER THE INPUT: true; the input reads as it did. -/
def reckonProductsSpec : ChangeSpec := { name := "reckonProducts", fn := fun _ => fun
  | [d1, d2] => { results := [.lit (.bool true)], args := [d1, d2] }
  | _ => none }
def reckonProductsRow : OpenClaim := { program := "ytjhkflkffbdafaa", sum := "feac3f3fe7a3673d1f4a6b4fa8fb0ad01e4c2ef4ba7ce2713a9ebb1ceaa88d87", func := "dewpond/dewpondlaw01.ReckonProducts", spec := "reckonProducts", named := ["math/bits.divideError", "math/bits.overflowError"], apart := false }
def ReckonProductsSaid : Prop := reckonProductsRow.holds Try.pinned (OpenSpec.ofChange reckonProductsSpec)

/-- ITS FALSE NEIGHBOUR: 'it returns false'. Refute it at one input. -/
def reckonProductsWrong : ChangeSpec := { name := "reckonProducts", fn := fun _ => fun
  | [d1, d2] => { results := [.lit (.bool false)], args := [d1, d2] }
  | _ => none }
def ReckonProductsWrongFalsely : Prop := reckonProductsRow.holds Try.pinned (OpenSpec.ofChange reckonProductsWrong)

/-- 'dewpondlaw01.ReckonParts': WHATEVER THE INPUT: true; the input reads as it did. -/
def reckonPartsSpec : ChangeSpec := { name := "reckonParts", fn := fun _ => fun
  | [d1, d2] => { results := [.lit (.bool true)], args := [d1, d2] }
  | _ => none }
def reckonPartsRow : OpenClaim := { program := "ytjhkflkffbdafaa", sum := "feac3f3fe7a3673d1f4a6b4fa8fb0ad01e4c2ef4ba7ce2713a9ebb1ceaa88d87", func := "dewpond/dewpondlaw01.ReckonParts", spec := "reckonParts", named := ["math/bits.divideError", "math/bits.overflowError"], apart := false }
def ReckonPartsSaid : Prop := reckonPartsRow.holds Try.pinned (OpenSpec.ofChange reckonPartsSpec)

/-- ITS FALSE NEIGHBOUR: 'it returns false'. Refute it at one input. -/
def reckonPartsWrong : ChangeSpec := { name := "reckonParts", fn := fun _ => fun
  | [d1, d2] => { results := [.lit (.bool false)], args := [d1, d2] }
  | _ => none }
def ReckonPartsWrongFalsely : Prop := reckonPartsRow.holds Try.pinned (OpenSpec.ofChange reckonPartsWrong)

/-- 'dewpondlaw01.ReckonShares': WHATEVER THE INPUT: true; the input reads as it did. -/
def reckonSharesSpec : ChangeSpec := { name := "reckonShares", fn := fun _ => fun
  | [d1, d2, d3] => { results := [.lit (.bool true)], args := [d1, d2, d3] }
  | _ => none }
def reckonSharesRow : OpenClaim := { program := "ytjhkflkffbdafaa", sum := "feac3f3fe7a3673d1f4a6b4fa8fb0ad01e4c2ef4ba7ce2713a9ebb1ceaa88d87", func := "dewpond/dewpondlaw01.ReckonShares", spec := "reckonShares", named := ["math/bits.divideError", "math/bits.overflowError"], apart := false }
def ReckonSharesSaid : Prop := reckonSharesRow.holds Try.pinned (OpenSpec.ofChange reckonSharesSpec)

/-- ITS FALSE NEIGHBOUR: 'it returns false'. Refute it at one input. -/
def reckonSharesWrong : ChangeSpec := { name := "reckonShares", fn := fun _ => fun
  | [d1, d2, d3] => { results := [.lit (.bool false)], args := [d1, d2, d3] }
  | _ => none }
def ReckonSharesWrongFalsely : Prop := reckonSharesRow.holds Try.pinned (OpenSpec.ofChange reckonSharesWrong)

/-- 'dewpondlaw01.ReckonOrders': WHATEVER THE INPUT: true; the input reads as it did. -/
def reckonOrdersSpec : ChangeSpec := { name := "reckonOrders", fn := fun _ => fun
  | [d] => { results := [.lit (.bool true)], args := [d] }
  | _ => none }
def reckonOrdersRow : OpenClaim := { program := "ytjhkflkffbdafaa", sum := "feac3f3fe7a3673d1f4a6b4fa8fb0ad01e4c2ef4ba7ce2713a9ebb1ceaa88d87", func := "dewpond/dewpondlaw01.ReckonOrders", spec := "reckonOrders", named := ["math/bits.divideError", "math/bits.overflowError"], apart := false }
def ReckonOrdersSaid : Prop := reckonOrdersRow.holds Try.pinned (OpenSpec.ofChange reckonOrdersSpec)

/-- ITS FALSE NEIGHBOUR: 'it returns false'. Refute it at one input. -/
def reckonOrdersWrong : ChangeSpec := { name := "reckonOrders", fn := fun _ => fun
  | [d] => { results := [.lit (.bool false)], args := [d] }
  | _ => none }
def ReckonOrdersWrongFalsely : Prop := reckonOrdersRow.holds Try.pinned (OpenSpec.ofChange reckonOrdersWrong)

/-- 'dewpondlaw01.ReckonPowers': WHATEVER THE INPUT: true; the input reads as it did. -/
def reckonPowersSpec : ChangeSpec := { name := "reckonPowers", fn := fun _ => fun
  | [d1, d2] => { results := [.lit (.bool true)], args := [d1, d2] }
  | _ => none }
def reckonPowersRow : OpenClaim := { program := "ytjhkflkffbdafaa", sum := "feac3f3fe7a3673d1f4a6b4fa8fb0ad01e4c2ef4ba7ce2713a9ebb1ceaa88d87", func := "dewpond/dewpondlaw01.ReckonPowers", spec := "reckonPowers", named := ["math/bits.divideError", "math/bits.overflowError"], apart := false }
def ReckonPowersSaid : Prop := reckonPowersRow.holds Try.pinned (OpenSpec.ofChange reckonPowersSpec)

/-- ITS FALSE NEIGHBOUR: 'it returns false'. Refute it at one input. -/
def reckonPowersWrong : ChangeSpec := { name := "reckonPowers", fn := fun _ => fun
  | [d1, d2] => { results := [.lit (.bool false)], args := [d1, d2] }
  | _ => none }
def ReckonPowersWrongFalsely : Prop := reckonPowersRow.holds Try.pinned (OpenSpec.ofChange reckonPowersWrong)

/-- 'dewpondlaw01.ReckonWides': WHATEVER THE INPUT: true; the input reads as it did. -/
def reckonWidesSpec : ChangeSpec := { name := "reckonWides", fn := fun _ => fun
  | [d1, d2, d3] => { results := [.lit (.bool true)], args := [d1, d2, d3] }
  | _ => none }
def reckonWidesRow : OpenClaim := { program := "ytjhkflkffbdafaa", sum := "feac3f3fe7a3673d1f4a6b4fa8fb0ad01e4c2ef4ba7ce2713a9ebb1ceaa88d87", func := "dewpond/dewpondlaw01.ReckonWides", spec := "reckonWides", inPlace := ["math/bits.Add64"], named := ["math/bits.divideError", "math/bits.overflowError"], apart := false }
def ReckonWidesSaid : Prop := reckonWidesRow.holds Try.pinned (OpenSpec.ofChange reckonWidesSpec)

/-- ITS FALSE NEIGHBOUR: 'it returns false'. Refute it at one input. -/
def reckonWidesWrong : ChangeSpec := { name := "reckonWides", fn := fun _ => fun
  | [d1, d2, d3] => { results := [.lit (.bool false)], args := [d1, d2, d3] }
  | _ => none }
def ReckonWidesWrongFalsely : Prop := reckonWidesRow.holds Try.pinned (OpenSpec.ofChange reckonWidesWrong)

/-- 'dewpondlaw01.ReckonBack': WHATEVER THE INPUT: true; the input reads as it did. -/
def reckonBackSpec : ChangeSpec := { name := "reckonBack", fn := fun _ => fun
  | [d1, d2, d3] => { results := [.lit (.bool true)], args := [d1, d2, d3] }
  | _ => none }
def reckonBackRow : OpenClaim := { program := "ytjhkflkffbdafaa", sum := "feac3f3fe7a3673d1f4a6b4fa8fb0ad01e4c2ef4ba7ce2713a9ebb1ceaa88d87", func := "dewpond/dewpondlaw01.ReckonBack", spec := "reckonBack", named := ["math/bits.divideError", "math/bits.overflowError"], apart := false }
def ReckonBackSaid : Prop := reckonBackRow.holds Try.pinned (OpenSpec.ofChange reckonBackSpec)

/-- ITS FALSE NEIGHBOUR: 'it returns false'. Refute it at one input. -/
def reckonBackWrong : ChangeSpec := { name := "reckonBack", fn := fun _ => fun
  | [d1, d2, d3] => { results := [.lit (.bool false)], args := [d1, d2, d3] }
  | _ => none }
def ReckonBackWrongFalsely : Prop := reckonBackRow.holds Try.pinned (OpenSpec.ofChange reckonBackWrong)

/- THE SECOND FORM. 'bulk': how many values and letters a reading holds, each counted each time it is reached (what is shared counts as often as it is met; a slice's spare places count too). A statement '..UptoSaid' is the law's where the arguments, and the package variables that the reading takes, are together of bulk at most 1048576: NARROWER than '..Said'. Prove '..Said' where nothing that the law and all that it calls make is longer than what came in: it says more and counts as full. Else prove '..UptoSaid'. A law counts once. -/
mutual
def uptoBulk {H : Type} : DataW H → Nat
  | .lit (.string bytes) => bytes.length + 1
  | .lit _ => 1
  | .nil => 1
  | .ptr d => uptoBulk d + 1
  | .slice elems spare => uptoBulkAll elems + uptoBulkAll spare + 1
  | .agg parts => uptoBulkAll parts + 1
  | .iface _ d => uptoBulk d + 1
  | .map entries => uptoBulkEntries entries + 1
  | .held _ => 1
def uptoBulkAll {H : Type} : List (DataW H) → Nat
  | [] => 0
  | d :: r => uptoBulk d + uptoBulkAll r
def uptoBulkEntries {H : Type} : List (Lit × DataW H) → Nat
  | [] => 0
  | x :: r => uptoBulkEntry x + uptoBulkEntries r
def uptoBulkEntry {H : Type} : Lit × DataW H → Nat
  | (.string bytes, d) => bytes.length + uptoBulk d + 1
  | (_, d) => uptoBulk d + 1
 end
def uptoSmall : (H : Type) → List (DataW H) → Bool := fun _ ds => decide (uptoBulkAll ds ≤ 1048576)
def OpenSpec.upto (s : _root_.Go.ChangeSpec) : _root_.Go.OpenSpec := { _root_.Go.OpenSpec.ofChange s with cond := some uptoSmall }

/-- 'dewpondlaw01.ReckonSums', WHERE WHAT IT READS IS OF BULK AT MOST 1048576: true; the input reads as it did. -/
def reckonSumsUptoRow : OpenClaim := { program := "ytjhkflkffbdafaa", sum := "feac3f3fe7a3673d1f4a6b4fa8fb0ad01e4c2ef4ba7ce2713a9ebb1ceaa88d87", func := "dewpond/dewpondlaw01.ReckonSums", spec := "reckonSums", named := ["math/bits.divideError", "math/bits.overflowError"], apart := false, narrowed := true }
def ReckonSumsUptoSaid : Prop := reckonSumsUptoRow.holds Try.pinned (OpenSpec.upto reckonSumsSpec)

/-- 'dewpondlaw01.ReckonProducts', WHERE WHAT IT READS IS OF BULK AT MOST 1048576: true; the input reads as it did. -/
def reckonProductsUptoRow : OpenClaim := { program := "ytjhkflkffbdafaa", sum := "feac3f3fe7a3673d1f4a6b4fa8fb0ad01e4c2ef4ba7ce2713a9ebb1ceaa88d87", func := "dewpond/dewpondlaw01.ReckonProducts", spec := "reckonProducts", named := ["math/bits.divideError", "math/bits.overflowError"], apart := false, narrowed := true }
def ReckonProductsUptoSaid : Prop := reckonProductsUptoRow.holds Try.pinned (OpenSpec.upto reckonProductsSpec)

/-- 'dewpondlaw01.ReckonParts', WHERE WHAT IT READS IS OF BULK AT MOST 1048576: true; the input reads as it did. -/
def reckonPartsUptoRow : OpenClaim := { program := "ytjhkflkffbdafaa", sum := "feac3f3fe7a3673d1f4a6b4fa8fb0ad01e4c2ef4ba7ce2713a9ebb1ceaa88d87", func := "dewpond/dewpondlaw01.ReckonParts", spec := "reckonParts", named := ["math/bits.divideError", "math/bits.overflowError"], apart := false, narrowed := true }
def ReckonPartsUptoSaid : Prop := reckonPartsUptoRow.holds Try.pinned (OpenSpec.upto reckonPartsSpec)

/-- 'dewpondlaw01.ReckonShares', WHERE WHAT IT READS IS OF BULK AT MOST 1048576: true; the input reads as it did. -/
def reckonSharesUptoRow : OpenClaim := { program := "ytjhkflkffbdafaa", sum := "feac3f3fe7a3673d1f4a6b4fa8fb0ad01e4c2ef4ba7ce2713a9ebb1ceaa88d87", func := "dewpond/dewpondlaw01.ReckonShares", spec := "reckonShares", named := ["math/bits.divideError", "math/bits.overflowError"], apart := false, narrowed := true }
def ReckonSharesUptoSaid : Prop := reckonSharesUptoRow.holds Try.pinned (OpenSpec.upto reckonSharesSpec)

/-- 'dewpondlaw01.ReckonOrders', WHERE WHAT IT READS IS OF BULK AT MOST 1048576: true; the input reads as it did. -/
def reckonOrdersUptoRow : OpenClaim := { program := "ytjhkflkffbdafaa", sum := "feac3f3fe7a3673d1f4a6b4fa8fb0ad01e4c2ef4ba7ce2713a9ebb1ceaa88d87", func := "dewpond/dewpondlaw01.ReckonOrders", spec := "reckonOrders", named := ["math/bits.divideError", "math/bits.overflowError"], apart := false, narrowed := true }
def ReckonOrdersUptoSaid : Prop := reckonOrdersUptoRow.holds Try.pinned (OpenSpec.upto reckonOrdersSpec)

/-- 'dewpondlaw01.ReckonPowers', WHERE WHAT IT READS IS OF BULK AT MOST 1048576: true; the input reads as it did. -/
def reckonPowersUptoRow : OpenClaim := { program := "ytjhkflkffbdafaa", sum := "feac3f3fe7a3673d1f4a6b4fa8fb0ad01e4c2ef4ba7ce2713a9ebb1ceaa88d87", func := "dewpond/dewpondlaw01.ReckonPowers", spec := "reckonPowers", named := ["math/bits.divideError", "math/bits.overflowError"], apart := false, narrowed := true }
def ReckonPowersUptoSaid : Prop := reckonPowersUptoRow.holds Try.pinned (OpenSpec.upto reckonPowersSpec)

/-- 'dewpondlaw01.ReckonWides', WHERE WHAT IT READS IS OF BULK AT MOST 1048576: true; the input reads as it did. -/
def reckonWidesUptoRow : OpenClaim := { program := "ytjhkflkffbdafaa", sum := "feac3f3fe7a3673d1f4a6b4fa8fb0ad01e4c2ef4ba7ce2713a9ebb1ceaa88d87", func := "dewpond/dewpondlaw01.ReckonWides", spec := "reckonWides", inPlace := ["math/bits.Add64"], named := ["math/bits.divideError", "math/bits.overflowError"], apart := false, narrowed := true }
def ReckonWidesUptoSaid : Prop := reckonWidesUptoRow.holds Try.pinned (OpenSpec.upto reckonWidesSpec)

/-- 'dewpondlaw01.ReckonBack', WHERE WHAT IT READS IS OF BULK AT MOST 1048576: true; the input reads as it did. -/
def reckonBackUptoRow : OpenClaim := { program := "ytjhkflkffbdafaa", sum := "feac3f3fe7a3673d1f4a6b4fa8fb0ad01e4c2ef4ba7ce2713a9ebb1ceaa88d87", func := "dewpond/dewpondlaw01.ReckonBack", spec := "reckonBack", named := ["math/bits.divideError", "math/bits.overflowError"], apart := false, narrowed := true }
def ReckonBackUptoSaid : Prop := reckonBackUptoRow.holds Try.pinned (OpenSpec.upto reckonBackSpec)

end Rows
end Go.Proofs.Ytjhkflkffbdafaa
