/-
  No cell of these rows narrows 'for every input' (looked for: loops, veiled, ifaces, maps, wideKeys, modest, calm, conditions, laid).
  DERIVED. THE GIVEN ROWS OF THIS SEAT. 6 by the template 'for every input the law returns true; each argument reads behind the call as it read before'; 0 by the template 'total and deterministic' (their statements: YtfilmblpikcpnaaGreatTotals.lean).
  GIVEN WITH THE SEED: the statements are not yours to turn. If you find one false, say at which input.
  Laid BY PROGRAM, IN A SANDBOX (cutbox-rows.mjs): the forced cells as the released guide's own fill.sh prints them over the translation e3bf108d2b63d403… (all of the seat's roots in one cut). By AI agents, Wed Nov 11 2026. No macro, syntax, notation, axiom, sorry.
-/
import Derived.Test.YtfilmblpikcpnaaGreatChecked
import GoSem.Claim
import GoSem.ClaimJoined
import GoSem.ClaimMapViews
import Derived.JoinedTies
import Derived.KernelRfl
namespace Go.Proofs.YtfilmblpikcpnaaGreat
/- THE CELL 'sum', in the pinned program and in every row, IS THE sha256 OF THE DUMP (.gsa) THAT YtfilmblpikcpnaaGreatProg.lean LOADS. Nothing in Lean hashes anything: it is a label: what it is worth is what the hold of that sum in a sandbox is worth. -/
noncomputable def Tryz.pinned : Pinned := { name := "ytfilmblpikcpnaagreat", sum := "e3bf108d2b63d4037f12fb0ff1d8e1d6dcf5922c92baaf7b06b9f2fbe751e5ac", checked := Tryz.checked }
namespace Rows
def none {H : Type} : Left H := { results := [], args := [] }

/-- 'dewpondlaw13.DigestPlays': WHATEVER THE INPUT: true; the input reads as it did. -/
def digestPlaysSpec : ChangeSpec := { name := "digestPlays", fn := fun _ => fun
  | [d1, d2] => { results := [.lit (.bool true)], args := [d1, d2] }
  | _ => none }
def digestPlaysRow : OpenClaim := { program := "ytfilmblpikcpnaagreat", sum := "e3bf108d2b63d4037f12fb0ff1d8e1d6dcf5922c92baaf7b06b9f2fbe751e5ac", func := "dewpond/dewpondlaw13.DigestPlays", spec := "digestPlays", unfollowed := true, recurses := true, apart := false }
def DigestPlaysSaid : Prop := digestPlaysRow.holds Tryz.pinned (OpenSpec.ofChange digestPlaysSpec)

/-- ITS FALSE NEIGHBOUR: 'it returns false'. Refute it at one input. -/
def digestPlaysWrong : ChangeSpec := { name := "digestPlays", fn := fun _ => fun
  | [d1, d2] => { results := [.lit (.bool false)], args := [d1, d2] }
  | _ => none }
def DigestPlaysWrongFalsely : Prop := digestPlaysRow.holds Tryz.pinned (OpenSpec.ofChange digestPlaysWrong)

/-- 'dewpondlaw13.DigestLoads': WHATEVER THE INPUT: true; the input reads as it did. -/
def digestLoadsSpec : ChangeSpec := { name := "digestLoads", fn := fun _ => fun
  | [d1, d2] => { results := [.lit (.bool true)], args := [d1, d2] }
  | _ => none }
def digestLoadsRow : OpenClaim := { program := "ytfilmblpikcpnaagreat", sum := "e3bf108d2b63d4037f12fb0ff1d8e1d6dcf5922c92baaf7b06b9f2fbe751e5ac", func := "dewpond/dewpondlaw13.DigestLoads", spec := "digestLoads", unfollowed := true, recurses := true, apart := false }
def DigestLoadsSaid : Prop := digestLoadsRow.holds Tryz.pinned (OpenSpec.ofChange digestLoadsSpec)

/-- ITS FALSE NEIGHBOUR: 'it returns false'. Refute it at one input. -/
def digestLoadsWrong : ChangeSpec := { name := "digestLoads", fn := fun _ => fun
  | [d1, d2] => { results := [.lit (.bool false)], args := [d1, d2] }
  | _ => none }
def DigestLoadsWrongFalsely : Prop := digestLoadsRow.holds Tryz.pinned (OpenSpec.ofChange digestLoadsWrong)

/-- 'dewpondlaw13.DigestBounds': WHATEVER THE INPUT: true; the input reads as it did. -/
def digestBoundsSpec : ChangeSpec := { name := "digestBounds", fn := fun _ => fun
  | [d1, d2] => { results := [.lit (.bool true)], args := [d1, d2] }
  | _ => none }
def digestBoundsRow : OpenClaim := { program := "ytfilmblpikcpnaagreat", sum := "e3bf108d2b63d4037f12fb0ff1d8e1d6dcf5922c92baaf7b06b9f2fbe751e5ac", func := "dewpond/dewpondlaw13.DigestBounds", spec := "digestBounds", unfollowed := true, recurses := true, apart := false }
def DigestBoundsSaid : Prop := digestBoundsRow.holds Tryz.pinned (OpenSpec.ofChange digestBoundsSpec)

/-- ITS FALSE NEIGHBOUR: 'it returns false'. Refute it at one input. -/
def digestBoundsWrong : ChangeSpec := { name := "digestBounds", fn := fun _ => fun
  | [d1, d2] => { results := [.lit (.bool false)], args := [d1, d2] }
  | _ => none }
def DigestBoundsWrongFalsely : Prop := digestBoundsRow.holds Tryz.pinned (OpenSpec.ofChange digestBoundsWrong)

/-- 'dewpondlaw13.DigestStands': WHATEVER THE INPUT: true; the input reads as it did. -/
def digestStandsSpec : ChangeSpec := { name := "digestStands", fn := fun _ => fun
  | [d1, d2, d3] => { results := [.lit (.bool true)], args := [d1, d2, d3] }
  | _ => none }
def digestStandsRow : OpenClaim := { program := "ytfilmblpikcpnaagreat", sum := "e3bf108d2b63d4037f12fb0ff1d8e1d6dcf5922c92baaf7b06b9f2fbe751e5ac", func := "dewpond/dewpondlaw13.DigestStands", spec := "digestStands", unfollowed := true, recurses := true, apart := false }
def DigestStandsSaid : Prop := digestStandsRow.holds Tryz.pinned (OpenSpec.ofChange digestStandsSpec)

/-- ITS FALSE NEIGHBOUR: 'it returns false'. Refute it at one input. -/
def digestStandsWrong : ChangeSpec := { name := "digestStands", fn := fun _ => fun
  | [d1, d2, d3] => { results := [.lit (.bool false)], args := [d1, d2, d3] }
  | _ => none }
def DigestStandsWrongFalsely : Prop := digestStandsRow.holds Tryz.pinned (OpenSpec.ofChange digestStandsWrong)

/-- 'dewpondlaw13.DigestAlike': WHATEVER THE INPUT: true; the input reads as it did. -/
def digestAlikeSpec : ChangeSpec := { name := "digestAlike", fn := fun _ => fun
  | [d1, d2, d3] => { results := [.lit (.bool true)], args := [d1, d2, d3] }
  | _ => none }
def digestAlikeRow : OpenClaim := { program := "ytfilmblpikcpnaagreat", sum := "e3bf108d2b63d4037f12fb0ff1d8e1d6dcf5922c92baaf7b06b9f2fbe751e5ac", func := "dewpond/dewpondlaw13.DigestAlike", spec := "digestAlike", unfollowed := true, recurses := true, apart := false }
def DigestAlikeSaid : Prop := digestAlikeRow.holds Tryz.pinned (OpenSpec.ofChange digestAlikeSpec)

/-- ITS FALSE NEIGHBOUR: 'it returns false'. Refute it at one input. -/
def digestAlikeWrong : ChangeSpec := { name := "digestAlike", fn := fun _ => fun
  | [d1, d2, d3] => { results := [.lit (.bool false)], args := [d1, d2, d3] }
  | _ => none }
def DigestAlikeWrongFalsely : Prop := digestAlikeRow.holds Tryz.pinned (OpenSpec.ofChange digestAlikeWrong)

/-- 'dewpondlaw13.DigestNobody': WHATEVER THE INPUT: true; the input reads as it did. -/
def digestNobodySpec : ChangeSpec := { name := "digestNobody", fn := fun _ => fun
  | [d1, d2] => { results := [.lit (.bool true)], args := [d1, d2] }
  | _ => none }
def digestNobodyRow : OpenClaim := { program := "ytfilmblpikcpnaagreat", sum := "e3bf108d2b63d4037f12fb0ff1d8e1d6dcf5922c92baaf7b06b9f2fbe751e5ac", func := "dewpond/dewpondlaw13.DigestNobody", spec := "digestNobody", unfollowed := true, recurses := true, apart := false }
def DigestNobodySaid : Prop := digestNobodyRow.holds Tryz.pinned (OpenSpec.ofChange digestNobodySpec)

/-- ITS FALSE NEIGHBOUR: 'it returns false'. Refute it at one input. -/
def digestNobodyWrong : ChangeSpec := { name := "digestNobody", fn := fun _ => fun
  | [d1, d2] => { results := [.lit (.bool false)], args := [d1, d2] }
  | _ => none }
def DigestNobodyWrongFalsely : Prop := digestNobodyRow.holds Tryz.pinned (OpenSpec.ofChange digestNobodyWrong)

/- THE SECOND FORM. 'bulk': how many values and letters a reading holds, each counted each time it is reached (what is shared counts as often as it is met; a slice's spare places count too). A statement '..UptoSaid' is the law's where the arguments, and the package variables that the reading takes, are together of bulk at most 1048576: NARROWER than '..Said'. Prove '..Said' where nothing that the law and all that it calls make is longer than what came in: it says more and counts as full. Else prove '..UptoSaid'. A law counts once. -/
mutual
def uptoBulk {H : Type} : DataW H → Nat
  | .lit (.string bytes) => bytes.length + 1
  | .lit _ => 1
  | .nil => 1
  | .ptr d => uptoBulk d + 1
  | .slice elems spare => uptoBulkAll elems + uptoBulkAll spare + 1
  | .agg parts => uptoBulkAll parts + 1
  | .iface _ d => uptoBulk d + 1
  | .map entries => uptoBulkEntries entries + 1
  | .held _ => 1
def uptoBulkAll {H : Type} : List (DataW H) → Nat
  | [] => 0
  | d :: r => uptoBulk d + uptoBulkAll r
def uptoBulkEntries {H : Type} : List (Lit × DataW H) → Nat
  | [] => 0
  | x :: r => uptoBulkEntry x + uptoBulkEntries r
def uptoBulkEntry {H : Type} : Lit × DataW H → Nat
  | (.string bytes, d) => bytes.length + uptoBulk d + 1
  | (_, d) => uptoBulk d + 1
 end
def uptoSmall : (H : Type) → List (DataW H) → Bool := fun _ ds => decide (uptoBulkAll ds ≤ 1048576)
def OpenSpec.upto (s : _root_.Go.ChangeSpec) : _root_.Go.OpenSpec := { _root_.Go.OpenSpec.ofChange s with cond := some uptoSmall }

/-- 'dewpondlaw13.DigestPlays', WHERE WHAT IT READS IS OF BULK AT MOST 1048576: true; the input reads as it did. -/
def digestPlaysUptoRow : OpenClaim := { program := "ytfilmblpikcpnaagreat", sum := "e3bf108d2b63d4037f12fb0ff1d8e1d6dcf5922c92baaf7b06b9f2fbe751e5ac", func := "dewpond/dewpondlaw13.DigestPlays", spec := "digestPlays", unfollowed := true, recurses := true, apart := false, narrowed := true }
def DigestPlaysUptoSaid : Prop := digestPlaysUptoRow.holds Tryz.pinned (OpenSpec.upto digestPlaysSpec)

/-- 'dewpondlaw13.DigestLoads', WHERE WHAT IT READS IS OF BULK AT MOST 1048576: true; the input reads as it did. -/
def digestLoadsUptoRow : OpenClaim := { program := "ytfilmblpikcpnaagreat", sum := "e3bf108d2b63d4037f12fb0ff1d8e1d6dcf5922c92baaf7b06b9f2fbe751e5ac", func := "dewpond/dewpondlaw13.DigestLoads", spec := "digestLoads", unfollowed := true, recurses := true, apart := false, narrowed := true }
def DigestLoadsUptoSaid : Prop := digestLoadsUptoRow.holds Tryz.pinned (OpenSpec.upto digestLoadsSpec)

/-- 'dewpondlaw13.DigestBounds', WHERE WHAT IT READS IS OF BULK AT MOST 1048576: true; the input reads as it did. -/
def digestBoundsUptoRow : OpenClaim := { program := "ytfilmblpikcpnaagreat", sum := "e3bf108d2b63d4037f12fb0ff1d8e1d6dcf5922c92baaf7b06b9f2fbe751e5ac", func := "dewpond/dewpondlaw13.DigestBounds", spec := "digestBounds", unfollowed := true, recurses := true, apart := false, narrowed := true }
def DigestBoundsUptoSaid : Prop := digestBoundsUptoRow.holds Tryz.pinned (OpenSpec.upto digestBoundsSpec)

/-- 'dewpondlaw13.DigestStands', WHERE WHAT IT READS IS OF BULK AT MOST 1048576: true; the input reads as it did. -/
def digestStandsUptoRow : OpenClaim := { program := "ytfilmblpikcpnaagreat", sum := "e3bf108d2b63d4037f12fb0ff1d8e1d6dcf5922c92baaf7b06b9f2fbe751e5ac", func := "dewpond/dewpondlaw13.DigestStands", spec := "digestStands", unfollowed := true, recurses := true, apart := false, narrowed := true }
def DigestStandsUptoSaid : Prop := digestStandsUptoRow.holds Tryz.pinned (OpenSpec.upto digestStandsSpec)

/-- 'dewpondlaw13.DigestAlike', WHERE WHAT IT READS IS OF BULK AT MOST 1048576: true; the input reads as it did. -/
def digestAlikeUptoRow : OpenClaim := { program := "ytfilmblpikcpnaagreat", sum := "e3bf108d2b63d4037f12fb0ff1d8e1d6dcf5922c92baaf7b06b9f2fbe751e5ac", func := "dewpond/dewpondlaw13.DigestAlike", spec := "digestAlike", unfollowed := true, recurses := true, apart := false, narrowed := true }
def DigestAlikeUptoSaid : Prop := digestAlikeUptoRow.holds Tryz.pinned (OpenSpec.upto digestAlikeSpec)

/-- 'dewpondlaw13.DigestNobody', WHERE WHAT IT READS IS OF BULK AT MOST 1048576: true; the input reads as it did. -/
def digestNobodyUptoRow : OpenClaim := { program := "ytfilmblpikcpnaagreat", sum := "e3bf108d2b63d4037f12fb0ff1d8e1d6dcf5922c92baaf7b06b9f2fbe751e5ac", func := "dewpond/dewpondlaw13.DigestNobody", spec := "digestNobody", unfollowed := true, recurses := true, apart := false, narrowed := true }
def DigestNobodyUptoSaid : Prop := digestNobodyUptoRow.holds Tryz.pinned (OpenSpec.upto digestNobodySpec)

end Rows
end Go.Proofs.YtfilmblpikcpnaaGreat
