/-
  No cell of these rows narrows 'for every input' (looked for: loops, veiled, ifaces, maps, wideKeys, modest, calm, conditions, laid).
  DERIVED. THE GIVEN ROWS OF THIS SEAT. 5 by the template 'for every input the law returns true; each argument reads behind the call as it read before'; 0 by the template 'total and deterministic' (their statements: YtmcbfoimgefaoaaGreatTotals.lean).
  GIVEN WITH THE SEED: the statements are not yours to turn. If you find one false, say at which input.
  Laid BY PROGRAM, IN A SANDBOX (cutbox-rows.mjs): the forced cells as the released guide's own fill.sh prints them over the translation df7488ebfb552a33… (all of the seat's roots in one cut). By AI agents, Wed Nov 11 2026. No macro, syntax, notation, axiom, sorry.
-/
import Derived.Test.YtmcbfoimgefaoaaGreatChecked
import GoSem.Claim
import GoSem.ClaimJoined
import GoSem.ClaimMapViews
import Derived.JoinedTies
import Derived.KernelRfl
namespace Go.Proofs.YtmcbfoimgefaoaaGreat
/- THE CELL 'sum', in the pinned program and in every row, IS THE sha256 OF THE DUMP (.gsa) THAT YtmcbfoimgefaoaaGreatProg.lean LOADS. Nothing in Lean hashes anything: it is a label: what it is worth is what the hold of that sum in a sandbox is worth. -/
noncomputable def Tryz.pinned : Pinned := { name := "ytmcbfoimgefaoaagreat", sum := "df7488ebfb552a3312d17f162367b5981476ebf731cc920d3d615f271af3c244", checked := Tryz.checked }
namespace Rows
def none {H : Type} : Left H := { results := [], args := [] }

/-- 'dewpondlaw14.BlendLowers': WHATEVER THE INPUT: true; the input reads as it did. -/
def blendLowersSpec : ChangeSpec := { name := "blendLowers", fn := fun _ => fun
  | [d1, d2] => { results := [.lit (.bool true)], args := [d1, d2] }
  | _ => none }
def blendLowersRow : OpenClaim := { program := "ytmcbfoimgefaoaagreat", sum := "df7488ebfb552a3312d17f162367b5981476ebf731cc920d3d615f271af3c244", func := "dewpond/dewpondlaw14.BlendLowers", spec := "blendLowers", unfollowed := true, recurses := true, apart := false }
def BlendLowersSaid : Prop := blendLowersRow.holds Tryz.pinned (OpenSpec.ofChange blendLowersSpec)

/-- ITS FALSE NEIGHBOUR: 'it returns false'. Refute it at one input. -/
def blendLowersWrong : ChangeSpec := { name := "blendLowers", fn := fun _ => fun
  | [d1, d2] => { results := [.lit (.bool false)], args := [d1, d2] }
  | _ => none }
def BlendLowersWrongFalsely : Prop := blendLowersRow.holds Tryz.pinned (OpenSpec.ofChange blendLowersWrong)

/-- 'dewpondlaw14.BlendMerges': WHATEVER THE INPUT: true; the input reads as it did. -/
def blendMergesSpec : ChangeSpec := { name := "blendMerges", fn := fun _ => fun
  | [d1, d2] => { results := [.lit (.bool true)], args := [d1, d2] }
  | _ => none }
def blendMergesRow : OpenClaim := { program := "ytmcbfoimgefaoaagreat", sum := "df7488ebfb552a3312d17f162367b5981476ebf731cc920d3d615f271af3c244", func := "dewpond/dewpondlaw14.BlendMerges", spec := "blendMerges", unfollowed := true, recurses := true, apart := false }
def BlendMergesSaid : Prop := blendMergesRow.holds Tryz.pinned (OpenSpec.ofChange blendMergesSpec)

/-- ITS FALSE NEIGHBOUR: 'it returns false'. Refute it at one input. -/
def blendMergesWrong : ChangeSpec := { name := "blendMerges", fn := fun _ => fun
  | [d1, d2] => { results := [.lit (.bool false)], args := [d1, d2] }
  | _ => none }
def BlendMergesWrongFalsely : Prop := blendMergesRow.holds Tryz.pinned (OpenSpec.ofChange blendMergesWrong)

/-- 'dewpondlaw14.BlendAll': WHATEVER THE INPUT: true; the input reads as it did. -/
def blendAllSpec : ChangeSpec := { name := "blendAll", fn := fun _ => fun
  | [d] => { results := [.lit (.bool true)], args := [d] }
  | _ => none }
def blendAllRow : OpenClaim := { program := "ytmcbfoimgefaoaagreat", sum := "df7488ebfb552a3312d17f162367b5981476ebf731cc920d3d615f271af3c244", func := "dewpond/dewpondlaw14.BlendAll", spec := "blendAll", unfollowed := true, recurses := true, apart := false }
def BlendAllSaid : Prop := blendAllRow.holds Tryz.pinned (OpenSpec.ofChange blendAllSpec)

/-- ITS FALSE NEIGHBOUR: 'it returns false'. Refute it at one input. -/
def blendAllWrong : ChangeSpec := { name := "blendAll", fn := fun _ => fun
  | [d] => { results := [.lit (.bool false)], args := [d] }
  | _ => none }
def BlendAllWrongFalsely : Prop := blendAllRow.holds Tryz.pinned (OpenSpec.ofChange blendAllWrong)

/-- 'dewpondlaw14.BlendStands': WHATEVER THE INPUT: true; the input reads as it did. -/
def blendStandsSpec : ChangeSpec := { name := "blendStands", fn := fun _ => fun
  | [d1, d2, d3] => { results := [.lit (.bool true)], args := [d1, d2, d3] }
  | _ => none }
def blendStandsRow : OpenClaim := { program := "ytmcbfoimgefaoaagreat", sum := "df7488ebfb552a3312d17f162367b5981476ebf731cc920d3d615f271af3c244", func := "dewpond/dewpondlaw14.BlendStands", spec := "blendStands", unfollowed := true, recurses := true, apart := false }
def BlendStandsSaid : Prop := blendStandsRow.holds Tryz.pinned (OpenSpec.ofChange blendStandsSpec)

/-- ITS FALSE NEIGHBOUR: 'it returns false'. Refute it at one input. -/
def blendStandsWrong : ChangeSpec := { name := "blendStands", fn := fun _ => fun
  | [d1, d2, d3] => { results := [.lit (.bool false)], args := [d1, d2, d3] }
  | _ => none }
def BlendStandsWrongFalsely : Prop := blendStandsRow.holds Tryz.pinned (OpenSpec.ofChange blendStandsWrong)

/-- 'dewpondlaw14.BlendNobody': WHATEVER THE INPUT: true; the input reads as it did. -/
def blendNobodySpec : ChangeSpec := { name := "blendNobody", fn := fun _ => fun
  | [d] => { results := [.lit (.bool true)], args := [d] }
  | _ => none }
def blendNobodyRow : OpenClaim := { program := "ytmcbfoimgefaoaagreat", sum := "df7488ebfb552a3312d17f162367b5981476ebf731cc920d3d615f271af3c244", func := "dewpond/dewpondlaw14.BlendNobody", spec := "blendNobody", unfollowed := true, recurses := true, apart := false }
def BlendNobodySaid : Prop := blendNobodyRow.holds Tryz.pinned (OpenSpec.ofChange blendNobodySpec)

/-- ITS FALSE NEIGHBOUR: 'it returns false'. Refute it at one input. -/
def blendNobodyWrong : ChangeSpec := { name := "blendNobody", fn := fun _ => fun
  | [d] => { results := [.lit (.bool false)], args := [d] }
  | _ => none }
def BlendNobodyWrongFalsely : Prop := blendNobodyRow.holds Tryz.pinned (OpenSpec.ofChange blendNobodyWrong)

/- THE SECOND FORM. 'bulk': how many values and letters a reading holds, each counted each time it is reached (what is shared counts as often as it is met; a slice's spare places count too). A statement '..UptoSaid' is the law's where the arguments, and the package variables that the reading takes, are together of bulk at most 1048576: NARROWER than '..Said'. Prove '..Said' where nothing that the law and all that it calls make is longer than what came in: it says more and counts as full. Else prove '..UptoSaid'. A law counts once. -/
mutual
def uptoBulk {H : Type} : DataW H → Nat
  | .lit (.string bytes) => bytes.length + 1
  | .lit _ => 1
  | .nil => 1
  | .ptr d => uptoBulk d + 1
  | .slice elems spare => uptoBulkAll elems + uptoBulkAll spare + 1
  | .agg parts => uptoBulkAll parts + 1
  | .iface _ d => uptoBulk d + 1
  | .map entries => uptoBulkEntries entries + 1
  | .held _ => 1
def uptoBulkAll {H : Type} : List (DataW H) → Nat
  | [] => 0
  | d :: r => uptoBulk d + uptoBulkAll r
def uptoBulkEntries {H : Type} : List (Lit × DataW H) → Nat
  | [] => 0
  | x :: r => uptoBulkEntry x + uptoBulkEntries r
def uptoBulkEntry {H : Type} : Lit × DataW H → Nat
  | (.string bytes, d) => bytes.length + uptoBulk d + 1
  | (_, d) => uptoBulk d + 1
 end
def uptoSmall : (H : Type) → List (DataW H) → Bool := fun _ ds => decide (uptoBulkAll ds ≤ 1048576)
def OpenSpec.upto (s : _root_.Go.ChangeSpec) : _root_.Go.OpenSpec := { _root_.Go.OpenSpec.ofChange s with cond := some uptoSmall }

/-- 'dewpondlaw14.BlendLowers', WHERE WHAT IT READS IS OF BULK AT MOST 1048576: true; the input reads as it did. -/
def blendLowersUptoRow : OpenClaim := { program := "ytmcbfoimgefaoaagreat", sum := "df7488ebfb552a3312d17f162367b5981476ebf731cc920d3d615f271af3c244", func := "dewpond/dewpondlaw14.BlendLowers", spec := "blendLowers", unfollowed := true, recurses := true, apart := false, narrowed := true }
def BlendLowersUptoSaid : Prop := blendLowersUptoRow.holds Tryz.pinned (OpenSpec.upto blendLowersSpec)

/-- 'dewpondlaw14.BlendMerges', WHERE WHAT IT READS IS OF BULK AT MOST 1048576: true; the input reads as it did. -/
def blendMergesUptoRow : OpenClaim := { program := "ytmcbfoimgefaoaagreat", sum := "df7488ebfb552a3312d17f162367b5981476ebf731cc920d3d615f271af3c244", func := "dewpond/dewpondlaw14.BlendMerges", spec := "blendMerges", unfollowed := true, recurses := true, apart := false, narrowed := true }
def BlendMergesUptoSaid : Prop := blendMergesUptoRow.holds Tryz.pinned (OpenSpec.upto blendMergesSpec)

/-- 'dewpondlaw14.BlendAll', WHERE WHAT IT READS IS OF BULK AT MOST 1048576: true; the input reads as it did. -/
def blendAllUptoRow : OpenClaim := { program := "ytmcbfoimgefaoaagreat", sum := "df7488ebfb552a3312d17f162367b5981476ebf731cc920d3d615f271af3c244", func := "dewpond/dewpondlaw14.BlendAll", spec := "blendAll", unfollowed := true, recurses := true, apart := false, narrowed := true }
def BlendAllUptoSaid : Prop := blendAllUptoRow.holds Tryz.pinned (OpenSpec.upto blendAllSpec)

/-- 'dewpondlaw14.BlendStands', WHERE WHAT IT READS IS OF BULK AT MOST 1048576: true; the input reads as it did. -/
def blendStandsUptoRow : OpenClaim := { program := "ytmcbfoimgefaoaagreat", sum := "df7488ebfb552a3312d17f162367b5981476ebf731cc920d3d615f271af3c244", func := "dewpond/dewpondlaw14.BlendStands", spec := "blendStands", unfollowed := true, recurses := true, apart := false, narrowed := true }
def BlendStandsUptoSaid : Prop := blendStandsUptoRow.holds Tryz.pinned (OpenSpec.upto blendStandsSpec)

/-- 'dewpondlaw14.BlendNobody', WHERE WHAT IT READS IS OF BULK AT MOST 1048576: true; the input reads as it did. -/
def blendNobodyUptoRow : OpenClaim := { program := "ytmcbfoimgefaoaagreat", sum := "df7488ebfb552a3312d17f162367b5981476ebf731cc920d3d615f271af3c244", func := "dewpond/dewpondlaw14.BlendNobody", spec := "blendNobody", unfollowed := true, recurses := true, apart := false, narrowed := true }
def BlendNobodyUptoSaid : Prop := blendNobodyUptoRow.holds Tryz.pinned (OpenSpec.upto blendNobodySpec)

end Rows
end Go.Proofs.YtmcbfoimgefaoaaGreat
