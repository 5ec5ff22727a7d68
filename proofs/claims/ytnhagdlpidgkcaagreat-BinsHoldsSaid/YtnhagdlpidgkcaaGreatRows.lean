/-
  No cell of these rows narrows 'for every input' (looked for: loops, veiled, ifaces, maps, wideKeys, modest, calm, conditions, laid).
  DERIVED. THE GIVEN ROWS OF THIS SEAT. 6 by the template 'for every input the law returns true; each argument reads behind the call as it read before'; 0 by the template 'total and deterministic' (their statements: YtnhagdlpidgkcaaGreatTotals.lean).
  GIVEN WITH THE SEED: the statements are not yours to turn. If you find one false, say at which input.
  Laid BY PROGRAM, IN A SANDBOX (cutbox-rows.mjs): the forced cells as the released guide's own fill.sh prints them over the translation 5b45e8b015c7e106… (all of the seat's roots in one cut). By AI agents, Wed Nov 11 2026. No macro, syntax, notation, axiom, sorry.
-/
import Derived.Test.YtnhagdlpidgkcaaGreatChecked
import GoSem.Claim
import GoSem.ClaimJoined
import GoSem.ClaimMapViews
import Derived.JoinedTies
import Derived.KernelRfl
namespace Go.Proofs.YtnhagdlpidgkcaaGreat
/- THE CELL 'sum', in the pinned program and in every row, IS THE sha256 OF THE DUMP (.gsa) THAT YtnhagdlpidgkcaaGreatProg.lean LOADS. Nothing in Lean hashes anything: it is a label: what it is worth is what the hold of that sum in a sandbox is worth. -/
noncomputable def Tryz.pinned : Pinned := { name := "ytnhagdlpidgkcaagreat", sum := "5b45e8b015c7e1063a081f2ae58a867f43703efe7000bd039ce9f1940fb17d05", checked := Tryz.checked }
namespace Rows
def none {H : Type} : Left H := { results := [], args := [] }

/-- 'dewpondlaw19.BinsOf': WHATEVER THE INPUT: true; the input reads as it did. -/
def binsOfSpec : ChangeSpec := { name := "binsOf", fn := fun _ => fun
  | [d1, d2] => { results := [.lit (.bool true)], args := [d1, d2] }
  | _ => none }
def binsOfRow : OpenClaim := { program := "ytnhagdlpidgkcaagreat", sum := "5b45e8b015c7e1063a081f2ae58a867f43703efe7000bd039ce9f1940fb17d05", func := "dewpond/dewpondlaw19.BinsOf", spec := "binsOf", unfollowed := true, recurses := true, named := ["math/bits.divideError", "math/bits.overflowError"], apart := false }
def BinsOfSaid : Prop := binsOfRow.holds Tryz.pinned (OpenSpec.ofChange binsOfSpec)

/-- ITS FALSE NEIGHBOUR: 'it returns false'. Refute it at one input. -/
def binsOfWrong : ChangeSpec := { name := "binsOf", fn := fun _ => fun
  | [d1, d2] => { results := [.lit (.bool false)], args := [d1, d2] }
  | _ => none }
def BinsOfWrongFalsely : Prop := binsOfRow.holds Tryz.pinned (OpenSpec.ofChange binsOfWrong)

/-- 'dewpondlaw19.BinsBounds': WHATEVER THE INPUT: true; the input reads as it did. -/
def binsBoundsSpec : ChangeSpec := { name := "binsBounds", fn := fun _ => fun
  | [d1, d2] => { results := [.lit (.bool true)], args := [d1, d2] }
  | _ => none }
def binsBoundsRow : OpenClaim := { program := "ytnhagdlpidgkcaagreat", sum := "5b45e8b015c7e1063a081f2ae58a867f43703efe7000bd039ce9f1940fb17d05", func := "dewpond/dewpondlaw19.BinsBounds", spec := "binsBounds", unfollowed := true, recurses := true, named := ["math/bits.divideError", "math/bits.overflowError"], apart := false }
def BinsBoundsSaid : Prop := binsBoundsRow.holds Tryz.pinned (OpenSpec.ofChange binsBoundsSpec)

/-- ITS FALSE NEIGHBOUR: 'it returns false'. Refute it at one input. -/
def binsBoundsWrong : ChangeSpec := { name := "binsBounds", fn := fun _ => fun
  | [d1, d2] => { results := [.lit (.bool false)], args := [d1, d2] }
  | _ => none }
def BinsBoundsWrongFalsely : Prop := binsBoundsRow.holds Tryz.pinned (OpenSpec.ofChange binsBoundsWrong)

/-- 'dewpondlaw19.BinsEven': WHATEVER THE INPUT: true; the input reads as it did. -/
def binsEvenSpec : ChangeSpec := { name := "binsEven", fn := fun _ => fun
  | [d1, d2] => { results := [.lit (.bool true)], args := [d1, d2] }
  | _ => none }
def binsEvenRow : OpenClaim := { program := "ytnhagdlpidgkcaagreat", sum := "5b45e8b015c7e1063a081f2ae58a867f43703efe7000bd039ce9f1940fb17d05", func := "dewpond/dewpondlaw19.BinsEven", spec := "binsEven", unfollowed := true, recurses := true, named := ["math/bits.divideError", "math/bits.overflowError"], apart := false }
def BinsEvenSaid : Prop := binsEvenRow.holds Tryz.pinned (OpenSpec.ofChange binsEvenSpec)

/-- ITS FALSE NEIGHBOUR: 'it returns false'. Refute it at one input. -/
def binsEvenWrong : ChangeSpec := { name := "binsEven", fn := fun _ => fun
  | [d1, d2] => { results := [.lit (.bool false)], args := [d1, d2] }
  | _ => none }
def BinsEvenWrongFalsely : Prop := binsEvenRow.holds Tryz.pinned (OpenSpec.ofChange binsEvenWrong)

/-- 'dewpondlaw19.BinsBars': WHATEVER THE INPUT: true; the input reads as it did. -/
def binsBarsSpec : ChangeSpec := { name := "binsBars", fn := fun _ => fun
  | [d1, d2] => { results := [.lit (.bool true)], args := [d1, d2] }
  | _ => none }
def binsBarsRow : OpenClaim := { program := "ytnhagdlpidgkcaagreat", sum := "5b45e8b015c7e1063a081f2ae58a867f43703efe7000bd039ce9f1940fb17d05", func := "dewpond/dewpondlaw19.BinsBars", spec := "binsBars", unfollowed := true, recurses := true, named := ["math/bits.divideError", "math/bits.overflowError"], apart := false }
def BinsBarsSaid : Prop := binsBarsRow.holds Tryz.pinned (OpenSpec.ofChange binsBarsSpec)

/-- ITS FALSE NEIGHBOUR: 'it returns false'. Refute it at one input. -/
def binsBarsWrong : ChangeSpec := { name := "binsBars", fn := fun _ => fun
  | [d1, d2] => { results := [.lit (.bool false)], args := [d1, d2] }
  | _ => none }
def BinsBarsWrongFalsely : Prop := binsBarsRow.holds Tryz.pinned (OpenSpec.ofChange binsBarsWrong)

/-- 'dewpondlaw19.BinsHolds': WHATEVER THE INPUT: true; the input reads as it did. -/
def binsHoldsSpec : ChangeSpec := { name := "binsHolds", fn := fun _ => fun
  | [d1, d2] => { results := [.lit (.bool true)], args := [d1, d2] }
  | _ => none }
def binsHoldsRow : OpenClaim := { program := "ytnhagdlpidgkcaagreat", sum := "5b45e8b015c7e1063a081f2ae58a867f43703efe7000bd039ce9f1940fb17d05", func := "dewpond/dewpondlaw19.BinsHolds", spec := "binsHolds", unfollowed := true, recurses := true, named := ["math/bits.divideError", "math/bits.overflowError"], apart := false }
def BinsHoldsSaid : Prop := binsHoldsRow.holds Tryz.pinned (OpenSpec.ofChange binsHoldsSpec)

/-- ITS FALSE NEIGHBOUR: 'it returns false'. Refute it at one input. -/
def binsHoldsWrong : ChangeSpec := { name := "binsHolds", fn := fun _ => fun
  | [d1, d2] => { results := [.lit (.bool false)], args := [d1, d2] }
  | _ => none }
def BinsHoldsWrongFalsely : Prop := binsHoldsRow.holds Tryz.pinned (OpenSpec.ofChange binsHoldsWrong)

/-- 'dewpondlaw19.BinsJoin': WHATEVER THE INPUT: true; the input reads as it did. -/
def binsJoinSpec : ChangeSpec := { name := "binsJoin", fn := fun _ => fun
  | [d1, d2, d3] => { results := [.lit (.bool true)], args := [d1, d2, d3] }
  | _ => none }
def binsJoinRow : OpenClaim := { program := "ytnhagdlpidgkcaagreat", sum := "5b45e8b015c7e1063a081f2ae58a867f43703efe7000bd039ce9f1940fb17d05", func := "dewpond/dewpondlaw19.BinsJoin", spec := "binsJoin", unfollowed := true, recurses := true, named := ["math/bits.divideError", "math/bits.overflowError"], apart := false }
def BinsJoinSaid : Prop := binsJoinRow.holds Tryz.pinned (OpenSpec.ofChange binsJoinSpec)

/-- ITS FALSE NEIGHBOUR: 'it returns false'. Refute it at one input. -/
def binsJoinWrong : ChangeSpec := { name := "binsJoin", fn := fun _ => fun
  | [d1, d2, d3] => { results := [.lit (.bool false)], args := [d1, d2, d3] }
  | _ => none }
def BinsJoinWrongFalsely : Prop := binsJoinRow.holds Tryz.pinned (OpenSpec.ofChange binsJoinWrong)

/- THE SECOND FORM. 'bulk': how many values and letters a reading holds, each counted each time it is reached (what is shared counts as often as it is met; a slice's spare places count too). A statement '..UptoSaid' is the law's where the arguments, and the package variables that the reading takes, are together of bulk at most 1048576: NARROWER than '..Said'. Prove '..Said' where nothing that the law and all that it calls make is longer than what came in: it says more and counts as full. Else prove '..UptoSaid'. A law counts once. -/
mutual
def uptoBulk {H : Type} : DataW H → Nat
  | .lit (.string bytes) => bytes.length + 1
  | .lit _ => 1
  | .nil => 1
  | .ptr d => uptoBulk d + 1
  | .slice elems spare => uptoBulkAll elems + uptoBulkAll spare + 1
  | .agg parts => uptoBulkAll parts + 1
  | .iface _ d => uptoBulk d + 1
  | .map entries => uptoBulkEntries entries + 1
  | .held _ => 1
def uptoBulkAll {H : Type} : List (DataW H) → Nat
  | [] => 0
  | d :: r => uptoBulk d + uptoBulkAll r
def uptoBulkEntries {H : Type} : List (Lit × DataW H) → Nat
  | [] => 0
  | x :: r => uptoBulkEntry x + uptoBulkEntries r
def uptoBulkEntry {H : Type} : Lit × DataW H → Nat
  | (.string bytes, d) => bytes.length + uptoBulk d + 1
  | (_, d) => uptoBulk d + 1
 end
def uptoSmall : (H : Type) → List (DataW H) → Bool := fun _ ds => decide (uptoBulkAll ds ≤ 1048576)
def OpenSpec.upto (s : _root_.Go.ChangeSpec) : _root_.Go.OpenSpec := { _root_.Go.OpenSpec.ofChange s with cond := some uptoSmall }

/-- 'dewpondlaw19.BinsOf', WHERE WHAT IT READS IS OF BULK AT MOST 1048576: true; the input reads as it did. -/
def binsOfUptoRow : OpenClaim := { program := "ytnhagdlpidgkcaagreat", sum := "5b45e8b015c7e1063a081f2ae58a867f43703efe7000bd039ce9f1940fb17d05", func := "dewpond/dewpondlaw19.BinsOf", spec := "binsOf", unfollowed := true, recurses := true, named := ["math/bits.divideError", "math/bits.overflowError"], apart := false, narrowed := true }
def BinsOfUptoSaid : Prop := binsOfUptoRow.holds Tryz.pinned (OpenSpec.upto binsOfSpec)

/-- 'dewpondlaw19.BinsBounds', WHERE WHAT IT READS IS OF BULK AT MOST 1048576: true; the input reads as it did. -/
def binsBoundsUptoRow : OpenClaim := { program := "ytnhagdlpidgkcaagreat", sum := "5b45e8b015c7e1063a081f2ae58a867f43703efe7000bd039ce9f1940fb17d05", func := "dewpond/dewpondlaw19.BinsBounds", spec := "binsBounds", unfollowed := true, recurses := true, named := ["math/bits.divideError", "math/bits.overflowError"], apart := false, narrowed := true }
def BinsBoundsUptoSaid : Prop := binsBoundsUptoRow.holds Tryz.pinned (OpenSpec.upto binsBoundsSpec)

/-- 'dewpondlaw19.BinsEven', WHERE WHAT IT READS IS OF BULK AT MOST 1048576: true; the input reads as it did. -/
def binsEvenUptoRow : OpenClaim := { program := "ytnhagdlpidgkcaagreat", sum := "5b45e8b015c7e1063a081f2ae58a867f43703efe7000bd039ce9f1940fb17d05", func := "dewpond/dewpondlaw19.BinsEven", spec := "binsEven", unfollowed := true, recurses := true, named := ["math/bits.divideError", "math/bits.overflowError"], apart := false, narrowed := true }
def BinsEvenUptoSaid : Prop := binsEvenUptoRow.holds Tryz.pinned (OpenSpec.upto binsEvenSpec)

/-- 'dewpondlaw19.BinsBars', WHERE WHAT IT READS IS OF BULK AT MOST 1048576: true; the input reads as it did. -/
def binsBarsUptoRow : OpenClaim := { program := "ytnhagdlpidgkcaagreat", sum := "5b45e8b015c7e1063a081f2ae58a867f43703efe7000bd039ce9f1940fb17d05", func := "dewpond/dewpondlaw19.BinsBars", spec := "binsBars", unfollowed := true, recurses := true, named := ["math/bits.divideError", "math/bits.overflowError"], apart := false, narrowed := true }
def BinsBarsUptoSaid : Prop := binsBarsUptoRow.holds Tryz.pinned (OpenSpec.upto binsBarsSpec)

/-- 'dewpondlaw19.BinsHolds', WHERE WHAT IT READS IS OF BULK AT MOST 1048576: true; the input reads as it did. -/
def binsHoldsUptoRow : OpenClaim := { program := "ytnhagdlpidgkcaagreat", sum := "5b45e8b015c7e1063a081f2ae58a867f43703efe7000bd039ce9f1940fb17d05", func := "dewpond/dewpondlaw19.BinsHolds", spec := "binsHolds", unfollowed := true, recurses := true, named := ["math/bits.divideError", "math/bits.overflowError"], apart := false, narrowed := true }
def BinsHoldsUptoSaid : Prop := binsHoldsUptoRow.holds Tryz.pinned (OpenSpec.upto binsHoldsSpec)

/-- 'dewpondlaw19.BinsJoin', WHERE WHAT IT READS IS OF BULK AT MOST 1048576: true; the input reads as it did. -/
def binsJoinUptoRow : OpenClaim := { program := "ytnhagdlpidgkcaagreat", sum := "5b45e8b015c7e1063a081f2ae58a867f43703efe7000bd039ce9f1940fb17d05", func := "dewpond/dewpondlaw19.BinsJoin", spec := "binsJoin", unfollowed := true, recurses := true, named := ["math/bits.divideError", "math/bits.overflowError"], apart := false, narrowed := true }
def BinsJoinUptoSaid : Prop := binsJoinUptoRow.holds Tryz.pinned (OpenSpec.upto binsJoinSpec)

end Rows
end Go.Proofs.YtnhagdlpidgkcaaGreat
