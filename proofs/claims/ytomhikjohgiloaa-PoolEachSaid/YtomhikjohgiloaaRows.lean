/-
  No cell of these rows narrows 'for every input' (looked for: loops, veiled, ifaces, maps, wideKeys, modest, calm, conditions, laid).
  DERIVED. THE GIVEN ROWS OF THIS SEAT. 11 by the template 'for every input the law returns true; each argument reads behind the call as it read before'; 0 by the template 'total and deterministic' (their statements: YtomhikjohgiloaaTotals.lean).
  GIVEN WITH THE SEED: the statements are not yours to turn. If you find one false, say at which input.
  Laid BY PROGRAM, IN A SANDBOX (cutbox-rows.mjs): the forced cells as the released guide's own fill.sh prints them over the translation 65c1ae4ff7b80b9e… (all of the seat's roots in one cut). By AI agents, Wed Nov 11 2026. No macro, syntax, notation, axiom, sorry.
-/
import Derived.Test.YtomhikjohgiloaaChecked
import GoSem.Claim
import GoSem.ClaimJoined
import GoSem.ClaimMapViews
import Derived.JoinedTies
import Derived.KernelRfl
namespace Go.Proofs.Ytomhikjohgiloaa
/- THE CELL 'sum', in the pinned program and in every row, IS THE sha256 OF THE DUMP (.gsa) THAT YtomhikjohgiloaaProg.lean LOADS. Nothing in Lean hashes anything: it is a label: what it is worth is what the hold of that sum in a sandbox is worth. -/
noncomputable def Try.pinned : Pinned := { name := "ytomhikjohgiloaa", sum := "65c1ae4ff7b80b9ee5208744424dac52f8558e29b0ee4fc9a5840a6015796bec", checked := Try.checked }
namespace Rows
def none {H : Type} : Left H := { results := [], args := [] }

/-- 'dewpondlaw08.ProbeHomes': WHATEVER THE INPUT: true; the input reads as it did. -/
def probeHomesSpec : ChangeSpec := { name := "probeHomes", fn := fun _ => fun
  | [d1, d2] => { results := [.lit (.bool true)], args := [d1, d2] }
  | _ => none }
def probeHomesRow : OpenClaim := { program := "ytomhikjohgiloaa", sum := "65c1ae4ff7b80b9ee5208744424dac52f8558e29b0ee4fc9a5840a6015796bec", func := "dewpond/dewpondlaw08.ProbeHomes", spec := "probeHomes", apart := false }
def ProbeHomesSaid : Prop := probeHomesRow.holds Try.pinned (OpenSpec.ofChange probeHomesSpec)

/-- ITS FALSE NEIGHBOUR: 'it returns false'. Refute it at one input. -/
def probeHomesWrong : ChangeSpec := { name := "probeHomes", fn := fun _ => fun
  | [d1, d2] => { results := [.lit (.bool false)], args := [d1, d2] }
  | _ => none }
def ProbeHomesWrongFalsely : Prop := probeHomesRow.holds Try.pinned (OpenSpec.ofChange probeHomesWrong)

/-- 'dewpondlaw08.ProbeTables': WHATEVER THE INPUT: true; the input reads as it did. -/
def probeTablesSpec : ChangeSpec := { name := "probeTables", fn := fun _ => fun
  | [d1, d2, d3] => { results := [.lit (.bool true)], args := [d1, d2, d3] }
  | _ => none }
def probeTablesRow : OpenClaim := { program := "ytomhikjohgiloaa", sum := "65c1ae4ff7b80b9ee5208744424dac52f8558e29b0ee4fc9a5840a6015796bec", func := "dewpond/dewpondlaw08.ProbeTables", spec := "probeTables", apart := false }
def ProbeTablesSaid : Prop := probeTablesRow.holds Try.pinned (OpenSpec.ofChange probeTablesSpec)

/-- ITS FALSE NEIGHBOUR: 'it returns false'. Refute it at one input. -/
def probeTablesWrong : ChangeSpec := { name := "probeTables", fn := fun _ => fun
  | [d1, d2, d3] => { results := [.lit (.bool false)], args := [d1, d2, d3] }
  | _ => none }
def ProbeTablesWrongFalsely : Prop := probeTablesRow.holds Try.pinned (OpenSpec.ofChange probeTablesWrong)

/-- 'dewpondlaw08.ProbePlays': WHATEVER THE INPUT: true; the input reads as it did. -/
def probePlaysSpec : ChangeSpec := { name := "probePlays", fn := fun _ => fun
  | [d1, d2] => { results := [.lit (.bool true)], args := [d1, d2] }
  | _ => none }
def probePlaysRow : OpenClaim := { program := "ytomhikjohgiloaa", sum := "65c1ae4ff7b80b9ee5208744424dac52f8558e29b0ee4fc9a5840a6015796bec", func := "dewpond/dewpondlaw08.ProbePlays", spec := "probePlays", unfollowed := true, recurses := true, apart := false }
def ProbePlaysSaid : Prop := probePlaysRow.holds Try.pinned (OpenSpec.ofChange probePlaysSpec)

/-- ITS FALSE NEIGHBOUR: 'it returns false'. Refute it at one input. -/
def probePlaysWrong : ChangeSpec := { name := "probePlays", fn := fun _ => fun
  | [d1, d2] => { results := [.lit (.bool false)], args := [d1, d2] }
  | _ => none }
def ProbePlaysWrongFalsely : Prop := probePlaysRow.holds Try.pinned (OpenSpec.ofChange probePlaysWrong)

/-- 'dewpondlaw08.ProbeReach': WHATEVER THE INPUT: true; the input reads as it did. -/
def probeReachSpec : ChangeSpec := { name := "probeReach", fn := fun _ => fun
  | [d1, d2, d3] => { results := [.lit (.bool true)], args := [d1, d2, d3] }
  | _ => none }
def probeReachRow : OpenClaim := { program := "ytomhikjohgiloaa", sum := "65c1ae4ff7b80b9ee5208744424dac52f8558e29b0ee4fc9a5840a6015796bec", func := "dewpond/dewpondlaw08.ProbeReach", spec := "probeReach", apart := false }
def ProbeReachSaid : Prop := probeReachRow.holds Try.pinned (OpenSpec.ofChange probeReachSpec)

/-- ITS FALSE NEIGHBOUR: 'it returns false'. Refute it at one input. -/
def probeReachWrong : ChangeSpec := { name := "probeReach", fn := fun _ => fun
  | [d1, d2, d3] => { results := [.lit (.bool false)], args := [d1, d2, d3] }
  | _ => none }
def ProbeReachWrongFalsely : Prop := probeReachRow.holds Try.pinned (OpenSpec.ofChange probeReachWrong)

/-- 'dewpondlaw08.ProbeApart': WHATEVER THE INPUT: true; the input reads as it did. -/
def probeApartSpec : ChangeSpec := { name := "probeApart", fn := fun _ => fun
  | [d1, d2, d3, d4] => { results := [.lit (.bool true)], args := [d1, d2, d3, d4] }
  | _ => none }
def probeApartRow : OpenClaim := { program := "ytomhikjohgiloaa", sum := "65c1ae4ff7b80b9ee5208744424dac52f8558e29b0ee4fc9a5840a6015796bec", func := "dewpond/dewpondlaw08.ProbeApart", spec := "probeApart", unfollowed := true, recurses := true, apart := false }
def ProbeApartSaid : Prop := probeApartRow.holds Try.pinned (OpenSpec.ofChange probeApartSpec)

/-- ITS FALSE NEIGHBOUR: 'it returns false'. Refute it at one input. -/
def probeApartWrong : ChangeSpec := { name := "probeApart", fn := fun _ => fun
  | [d1, d2, d3, d4] => { results := [.lit (.bool false)], args := [d1, d2, d3, d4] }
  | _ => none }
def ProbeApartWrongFalsely : Prop := probeApartRow.holds Try.pinned (OpenSpec.ofChange probeApartWrong)

/-- 'dewpondlaw09.PoolPlays': WHATEVER THE INPUT: true; the input reads as it did. -/
def poolPlaysSpec : ChangeSpec := { name := "poolPlays", fn := fun _ => fun
  | [d1, d2, d3] => { results := [.lit (.bool true)], args := [d1, d2, d3] }
  | _ => none }
def poolPlaysRow : OpenClaim := { program := "ytomhikjohgiloaa", sum := "65c1ae4ff7b80b9ee5208744424dac52f8558e29b0ee4fc9a5840a6015796bec", func := "dewpond/dewpondlaw09.PoolPlays", spec := "poolPlays", unfollowed := true, recurses := true, apart := false }
def PoolPlaysSaid : Prop := poolPlaysRow.holds Try.pinned (OpenSpec.ofChange poolPlaysSpec)

/-- ITS FALSE NEIGHBOUR: 'it returns false'. Refute it at one input. -/
def poolPlaysWrong : ChangeSpec := { name := "poolPlays", fn := fun _ => fun
  | [d1, d2, d3] => { results := [.lit (.bool false)], args := [d1, d2, d3] }
  | _ => none }
def PoolPlaysWrongFalsely : Prop := poolPlaysRow.holds Try.pinned (OpenSpec.ofChange poolPlaysWrong)

/-- 'dewpondlaw09.PoolAlike': WHATEVER THE INPUT: true; the input reads as it did. -/
def poolAlikeSpec : ChangeSpec := { name := "poolAlike", fn := fun _ => fun
  | [d1, d2] => { results := [.lit (.bool true)], args := [d1, d2] }
  | _ => none }
def poolAlikeRow : OpenClaim := { program := "ytomhikjohgiloaa", sum := "65c1ae4ff7b80b9ee5208744424dac52f8558e29b0ee4fc9a5840a6015796bec", func := "dewpond/dewpondlaw09.PoolAlike", spec := "poolAlike", unfollowed := true, recurses := true, apart := false }
def PoolAlikeSaid : Prop := poolAlikeRow.holds Try.pinned (OpenSpec.ofChange poolAlikeSpec)

/-- ITS FALSE NEIGHBOUR: 'it returns false'. Refute it at one input. -/
def poolAlikeWrong : ChangeSpec := { name := "poolAlike", fn := fun _ => fun
  | [d1, d2] => { results := [.lit (.bool false)], args := [d1, d2] }
  | _ => none }
def PoolAlikeWrongFalsely : Prop := poolAlikeRow.holds Try.pinned (OpenSpec.ofChange poolAlikeWrong)

/-- 'dewpondlaw09.PoolLoads': WHATEVER THE INPUT: true; the input reads as it did. -/
def poolLoadsSpec : ChangeSpec := { name := "poolLoads", fn := fun _ => fun
  | [d1, d2, d3] => { results := [.lit (.bool true)], args := [d1, d2, d3] }
  | _ => none }
def poolLoadsRow : OpenClaim := { program := "ytomhikjohgiloaa", sum := "65c1ae4ff7b80b9ee5208744424dac52f8558e29b0ee4fc9a5840a6015796bec", func := "dewpond/dewpondlaw09.PoolLoads", spec := "poolLoads", unfollowed := true, recurses := true, apart := false }
def PoolLoadsSaid : Prop := poolLoadsRow.holds Try.pinned (OpenSpec.ofChange poolLoadsSpec)

/-- ITS FALSE NEIGHBOUR: 'it returns false'. Refute it at one input. -/
def poolLoadsWrong : ChangeSpec := { name := "poolLoads", fn := fun _ => fun
  | [d1, d2, d3] => { results := [.lit (.bool false)], args := [d1, d2, d3] }
  | _ => none }
def PoolLoadsWrongFalsely : Prop := poolLoadsRow.holds Try.pinned (OpenSpec.ofChange poolLoadsWrong)

/-- 'dewpondlaw09.PoolTurns': WHATEVER THE INPUT: true; the input reads as it did. -/
def poolTurnsSpec : ChangeSpec := { name := "poolTurns", fn := fun _ => fun
  | [d1, d2, d3] => { results := [.lit (.bool true)], args := [d1, d2, d3] }
  | _ => none }
def poolTurnsRow : OpenClaim := { program := "ytomhikjohgiloaa", sum := "65c1ae4ff7b80b9ee5208744424dac52f8558e29b0ee4fc9a5840a6015796bec", func := "dewpond/dewpondlaw09.PoolTurns", spec := "poolTurns", unfollowed := true, recurses := true, apart := false }
def PoolTurnsSaid : Prop := poolTurnsRow.holds Try.pinned (OpenSpec.ofChange poolTurnsSpec)

/-- ITS FALSE NEIGHBOUR: 'it returns false'. Refute it at one input. -/
def poolTurnsWrong : ChangeSpec := { name := "poolTurns", fn := fun _ => fun
  | [d1, d2, d3] => { results := [.lit (.bool false)], args := [d1, d2, d3] }
  | _ => none }
def PoolTurnsWrongFalsely : Prop := poolTurnsRow.holds Try.pinned (OpenSpec.ofChange poolTurnsWrong)

/-- 'dewpondlaw09.PoolEach': WHATEVER THE INPUT: true; the input reads as it did. -/
def poolEachSpec : ChangeSpec := { name := "poolEach", fn := fun _ => fun
  | [d1, d2, d3] => { results := [.lit (.bool true)], args := [d1, d2, d3] }
  | _ => none }
def poolEachRow : OpenClaim := { program := "ytomhikjohgiloaa", sum := "65c1ae4ff7b80b9ee5208744424dac52f8558e29b0ee4fc9a5840a6015796bec", func := "dewpond/dewpondlaw09.PoolEach", spec := "poolEach", unfollowed := true, recurses := true, apart := false }
def PoolEachSaid : Prop := poolEachRow.holds Try.pinned (OpenSpec.ofChange poolEachSpec)

/-- ITS FALSE NEIGHBOUR: 'it returns false'. Refute it at one input. -/
def poolEachWrong : ChangeSpec := { name := "poolEach", fn := fun _ => fun
  | [d1, d2, d3] => { results := [.lit (.bool false)], args := [d1, d2, d3] }
  | _ => none }
def PoolEachWrongFalsely : Prop := poolEachRow.holds Try.pinned (OpenSpec.ofChange poolEachWrong)

/-- 'dewpondlaw09.PoolNobody': WHATEVER THE INPUT: true; the input reads as it did. -/
def poolNobodySpec : ChangeSpec := { name := "poolNobody", fn := fun _ => fun
  | [d1, d2, d3] => { results := [.lit (.bool true)], args := [d1, d2, d3] }
  | _ => none }
def poolNobodyRow : OpenClaim := { program := "ytomhikjohgiloaa", sum := "65c1ae4ff7b80b9ee5208744424dac52f8558e29b0ee4fc9a5840a6015796bec", func := "dewpond/dewpondlaw09.PoolNobody", spec := "poolNobody", unfollowed := true, recurses := true, apart := false }
def PoolNobodySaid : Prop := poolNobodyRow.holds Try.pinned (OpenSpec.ofChange poolNobodySpec)

/-- ITS FALSE NEIGHBOUR: 'it returns false'. Refute it at one input. -/
def poolNobodyWrong : ChangeSpec := { name := "poolNobody", fn := fun _ => fun
  | [d1, d2, d3] => { results := [.lit (.bool false)], args := [d1, d2, d3] }
  | _ => none }
def PoolNobodyWrongFalsely : Prop := poolNobodyRow.holds Try.pinned (OpenSpec.ofChange poolNobodyWrong)

/- THE SECOND FORM. 'bulk': how many values and letters a reading holds, each counted each time it is reached (what is shared counts as often as it is met; a slice's spare places count too). A statement '..UptoSaid' is the law's where the arguments, and the package variables that the reading takes, are together of bulk at most 1048576: NARROWER than '..Said'. Prove '..Said' where nothing that the law and all that it calls make is longer than what came in: it says more and counts as full. Else prove '..UptoSaid'. A law counts once. -/
mutual
def uptoBulk {H : Type} : DataW H → Nat
  | .lit (.string bytes) => bytes.length + 1
  | .lit _ => 1
  | .nil => 1
  | .ptr d => uptoBulk d + 1
  | .slice elems spare => uptoBulkAll elems + uptoBulkAll spare + 1
  | .agg parts => uptoBulkAll parts + 1
  | .iface _ d => uptoBulk d + 1
  | .map entries => uptoBulkEntries entries + 1
  | .held _ => 1
def uptoBulkAll {H : Type} : List (DataW H) → Nat
  | [] => 0
  | d :: r => uptoBulk d + uptoBulkAll r
def uptoBulkEntries {H : Type} : List (Lit × DataW H) → Nat
  | [] => 0
  | x :: r => uptoBulkEntry x + uptoBulkEntries r
def uptoBulkEntry {H : Type} : Lit × DataW H → Nat
  | (.string bytes, d) => bytes.length + uptoBulk d + 1
  | (_, d) => uptoBulk d + 1
 end
def uptoSmall : (H : Type) → List (DataW H) → Bool := fun _ ds => decide (uptoBulkAll ds ≤ 1048576)
def OpenSpec.upto (s : _root_.Go.ChangeSpec) : _root_.Go.OpenSpec := { _root_.Go.OpenSpec.ofChange s with cond := some uptoSmall }

/-- 'dewpondlaw08.ProbeHomes', WHERE WHAT IT READS IS OF BULK AT MOST 1048576: true; the input reads as it did. -/
def probeHomesUptoRow : OpenClaim := { program := "ytomhikjohgiloaa", sum := "65c1ae4ff7b80b9ee5208744424dac52f8558e29b0ee4fc9a5840a6015796bec", func := "dewpond/dewpondlaw08.ProbeHomes", spec := "probeHomes", apart := false, narrowed := true }
def ProbeHomesUptoSaid : Prop := probeHomesUptoRow.holds Try.pinned (OpenSpec.upto probeHomesSpec)

/-- 'dewpondlaw08.ProbeTables', WHERE WHAT IT READS IS OF BULK AT MOST 1048576: true; the input reads as it did. -/
def probeTablesUptoRow : OpenClaim := { program := "ytomhikjohgiloaa", sum := "65c1ae4ff7b80b9ee5208744424dac52f8558e29b0ee4fc9a5840a6015796bec", func := "dewpond/dewpondlaw08.ProbeTables", spec := "probeTables", apart := false, narrowed := true }
def ProbeTablesUptoSaid : Prop := probeTablesUptoRow.holds Try.pinned (OpenSpec.upto probeTablesSpec)

/-- 'dewpondlaw08.ProbePlays', WHERE WHAT IT READS IS OF BULK AT MOST 1048576: true; the input reads as it did. -/
def probePlaysUptoRow : OpenClaim := { program := "ytomhikjohgiloaa", sum := "65c1ae4ff7b80b9ee5208744424dac52f8558e29b0ee4fc9a5840a6015796bec", func := "dewpond/dewpondlaw08.ProbePlays", spec := "probePlays", unfollowed := true, recurses := true, apart := false, narrowed := true }
def ProbePlaysUptoSaid : Prop := probePlaysUptoRow.holds Try.pinned (OpenSpec.upto probePlaysSpec)

/-- 'dewpondlaw08.ProbeReach', WHERE WHAT IT READS IS OF BULK AT MOST 1048576: true; the input reads as it did. -/
def probeReachUptoRow : OpenClaim := { program := "ytomhikjohgiloaa", sum := "65c1ae4ff7b80b9ee5208744424dac52f8558e29b0ee4fc9a5840a6015796bec", func := "dewpond/dewpondlaw08.ProbeReach", spec := "probeReach", apart := false, narrowed := true }
def ProbeReachUptoSaid : Prop := probeReachUptoRow.holds Try.pinned (OpenSpec.upto probeReachSpec)

/-- 'dewpondlaw08.ProbeApart', WHERE WHAT IT READS IS OF BULK AT MOST 1048576: true; the input reads as it did. -/
def probeApartUptoRow : OpenClaim := { program := "ytomhikjohgiloaa", sum := "65c1ae4ff7b80b9ee5208744424dac52f8558e29b0ee4fc9a5840a6015796bec", func := "dewpond/dewpondlaw08.ProbeApart", spec := "probeApart", unfollowed := true, recurses := true, apart := false, narrowed := true }
def ProbeApartUptoSaid : Prop := probeApartUptoRow.holds Try.pinned (OpenSpec.upto probeApartSpec)

/-- 'dewpondlaw09.PoolPlays', WHERE WHAT IT READS IS OF BULK AT MOST 1048576: true; the input reads as it did. -/
def poolPlaysUptoRow : OpenClaim := { program := "ytomhikjohgiloaa", sum := "65c1ae4ff7b80b9ee5208744424dac52f8558e29b0ee4fc9a5840a6015796bec", func := "dewpond/dewpondlaw09.PoolPlays", spec := "poolPlays", unfollowed := true, recurses := true, apart := false, narrowed := true }
def PoolPlaysUptoSaid : Prop := poolPlaysUptoRow.holds Try.pinned (OpenSpec.upto poolPlaysSpec)

/-- 'dewpondlaw09.PoolAlike', WHERE WHAT IT READS IS OF BULK AT MOST 1048576: true; the input reads as it did. -/
def poolAlikeUptoRow : OpenClaim := { program := "ytomhikjohgiloaa", sum := "65c1ae4ff7b80b9ee5208744424dac52f8558e29b0ee4fc9a5840a6015796bec", func := "dewpond/dewpondlaw09.PoolAlike", spec := "poolAlike", unfollowed := true, recurses := true, apart := false, narrowed := true }
def PoolAlikeUptoSaid : Prop := poolAlikeUptoRow.holds Try.pinned (OpenSpec.upto poolAlikeSpec)

/-- 'dewpondlaw09.PoolLoads', WHERE WHAT IT READS IS OF BULK AT MOST 1048576: true; the input reads as it did. -/
def poolLoadsUptoRow : OpenClaim := { program := "ytomhikjohgiloaa", sum := "65c1ae4ff7b80b9ee5208744424dac52f8558e29b0ee4fc9a5840a6015796bec", func := "dewpond/dewpondlaw09.PoolLoads", spec := "poolLoads", unfollowed := true, recurses := true, apart := false, narrowed := true }
def PoolLoadsUptoSaid : Prop := poolLoadsUptoRow.holds Try.pinned (OpenSpec.upto poolLoadsSpec)

/-- 'dewpondlaw09.PoolTurns', WHERE WHAT IT READS IS OF BULK AT MOST 1048576: true; the input reads as it did. -/
def poolTurnsUptoRow : OpenClaim := { program := "ytomhikjohgiloaa", sum := "65c1ae4ff7b80b9ee5208744424dac52f8558e29b0ee4fc9a5840a6015796bec", func := "dewpond/dewpondlaw09.PoolTurns", spec := "poolTurns", unfollowed := true, recurses := true, apart := false, narrowed := true }
def PoolTurnsUptoSaid : Prop := poolTurnsUptoRow.holds Try.pinned (OpenSpec.upto poolTurnsSpec)

/-- 'dewpondlaw09.PoolEach', WHERE WHAT IT READS IS OF BULK AT MOST 1048576: true; the input reads as it did. -/
def poolEachUptoRow : OpenClaim := { program := "ytomhikjohgiloaa", sum := "65c1ae4ff7b80b9ee5208744424dac52f8558e29b0ee4fc9a5840a6015796bec", func := "dewpond/dewpondlaw09.PoolEach", spec := "poolEach", unfollowed := true, recurses := true, apart := false, narrowed := true }
def PoolEachUptoSaid : Prop := poolEachUptoRow.holds Try.pinned (OpenSpec.upto poolEachSpec)

/-- 'dewpondlaw09.PoolNobody', WHERE WHAT IT READS IS OF BULK AT MOST 1048576: true; the input reads as it did. -/
def poolNobodyUptoRow : OpenClaim := { program := "ytomhikjohgiloaa", sum := "65c1ae4ff7b80b9ee5208744424dac52f8558e29b0ee4fc9a5840a6015796bec", func := "dewpond/dewpondlaw09.PoolNobody", spec := "poolNobody", unfollowed := true, recurses := true, apart := false, narrowed := true }
def PoolNobodyUptoSaid : Prop := poolNobodyUptoRow.holds Try.pinned (OpenSpec.upto poolNobodySpec)

end Rows
end Go.Proofs.Ytomhikjohgiloaa
