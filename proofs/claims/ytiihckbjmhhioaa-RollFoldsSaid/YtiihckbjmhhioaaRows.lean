/-
  No cell of these rows narrows 'for every input' (looked for: loops, veiled, ifaces, maps, wideKeys, modest, calm, conditions, laid).
  DERIVED. THE GIVEN ROWS OF THIS SEAT. 5 by the template 'for every input the law returns true; each argument reads behind the call as it read before'; 0 by the template 'total and deterministic' (their statements: YtiihckbjmhhioaaTotals.lean).
  GIVEN WITH THE SEED: the statements are not yours to turn. If you find one false, say at which input.
  Laid BY PROGRAM, IN A SANDBOX (cutbox-rows.mjs): the forced cells as the released guide's own fill.sh prints them over the translation 3d4342ac761396e3… (all of the seat's roots in one cut). By AI agents, Wed Nov 11 2026. No macro, syntax, notation, axiom, sorry.
-/
import Derived.Test.YtiihckbjmhhioaaChecked
import GoSem.Claim
import GoSem.ClaimJoined
import GoSem.ClaimMapViews
import Derived.JoinedTies
import Derived.KernelRfl
namespace Go.Proofs.Ytiihckbjmhhioaa
/- THE CELL 'sum', in the pinned program and in every row, IS THE sha256 OF THE DUMP (.gsa) THAT YtiihckbjmhhioaaProg.lean LOADS. Nothing in Lean hashes anything: it is a label: what it is worth is what the hold of that sum in a sandbox is worth. -/
noncomputable def Try.pinned : Pinned := { name := "ytiihckbjmhhioaa", sum := "3d4342ac761396e3dd953cfddae7c6c61e1766d2dbf6d9761bdd8a5ac4700673", checked := Try.checked }
namespace Rows
def none {H : Type} : Left H := { results := [], args := [] }

/-- 'dewpondlaw06.RollSorts': WHATEVER THE INPUT: true; the input reads as it did. -/
def rollSortsSpec : ChangeSpec := { name := "rollSorts", fn := fun _ => fun
  | [d1, d2] => { results := [.lit (.bool true)], args := [d1, d2] }
  | _ => none }
def rollSortsRow : OpenClaim := { program := "ytiihckbjmhhioaa", sum := "3d4342ac761396e3dd953cfddae7c6c61e1766d2dbf6d9761bdd8a5ac4700673", func := "dewpond/dewpondlaw06.RollSorts", spec := "rollSorts", unfollowed := true, recurses := true, apart := false }
def RollSortsSaid : Prop := rollSortsRow.holds Try.pinned (OpenSpec.ofChange rollSortsSpec)

/-- ITS FALSE NEIGHBOUR: 'it returns false'. Refute it at one input. -/
def rollSortsWrong : ChangeSpec := { name := "rollSorts", fn := fun _ => fun
  | [d1, d2] => { results := [.lit (.bool false)], args := [d1, d2] }
  | _ => none }
def RollSortsWrongFalsely : Prop := rollSortsRow.holds Try.pinned (OpenSpec.ofChange rollSortsWrong)

/-- 'dewpondlaw06.RollTells': WHATEVER THE INPUT: true; the input reads as it did. -/
def rollTellsSpec : ChangeSpec := { name := "rollTells", fn := fun _ => fun
  | [d1, d2, d3] => { results := [.lit (.bool true)], args := [d1, d2, d3] }
  | _ => none }
def rollTellsRow : OpenClaim := { program := "ytiihckbjmhhioaa", sum := "3d4342ac761396e3dd953cfddae7c6c61e1766d2dbf6d9761bdd8a5ac4700673", func := "dewpond/dewpondlaw06.RollTells", spec := "rollTells", unfollowed := true, recurses := true, apart := false }
def RollTellsSaid : Prop := rollTellsRow.holds Try.pinned (OpenSpec.ofChange rollTellsSpec)

/-- ITS FALSE NEIGHBOUR: 'it returns false'. Refute it at one input. -/
def rollTellsWrong : ChangeSpec := { name := "rollTells", fn := fun _ => fun
  | [d1, d2, d3] => { results := [.lit (.bool false)], args := [d1, d2, d3] }
  | _ => none }
def RollTellsWrongFalsely : Prop := rollTellsRow.holds Try.pinned (OpenSpec.ofChange rollTellsWrong)

/-- 'dewpondlaw06.RollFolds': WHATEVER THE INPUT: true; the input reads as it did. -/
def rollFoldsSpec : ChangeSpec := { name := "rollFolds", fn := fun _ => fun
  | [d1, d2] => { results := [.lit (.bool true)], args := [d1, d2] }
  | _ => none }
def rollFoldsRow : OpenClaim := { program := "ytiihckbjmhhioaa", sum := "3d4342ac761396e3dd953cfddae7c6c61e1766d2dbf6d9761bdd8a5ac4700673", func := "dewpond/dewpondlaw06.RollFolds", spec := "rollFolds", unfollowed := true, recurses := true, apart := false }
def RollFoldsSaid : Prop := rollFoldsRow.holds Try.pinned (OpenSpec.ofChange rollFoldsSpec)

/-- ITS FALSE NEIGHBOUR: 'it returns false'. Refute it at one input. -/
def rollFoldsWrong : ChangeSpec := { name := "rollFolds", fn := fun _ => fun
  | [d1, d2] => { results := [.lit (.bool false)], args := [d1, d2] }
  | _ => none }
def RollFoldsWrongFalsely : Prop := rollFoldsRow.holds Try.pinned (OpenSpec.ofChange rollFoldsWrong)

/-- 'dewpondlaw06.RollPosts': WHATEVER THE INPUT: true; the input reads as it did. -/
def rollPostsSpec : ChangeSpec := { name := "rollPosts", fn := fun _ => fun
  | [d1, d2] => { results := [.lit (.bool true)], args := [d1, d2] }
  | _ => none }
def rollPostsRow : OpenClaim := { program := "ytiihckbjmhhioaa", sum := "3d4342ac761396e3dd953cfddae7c6c61e1766d2dbf6d9761bdd8a5ac4700673", func := "dewpond/dewpondlaw06.RollPosts", spec := "rollPosts", unfollowed := true, recurses := true, apart := false }
def RollPostsSaid : Prop := rollPostsRow.holds Try.pinned (OpenSpec.ofChange rollPostsSpec)

/-- ITS FALSE NEIGHBOUR: 'it returns false'. Refute it at one input. -/
def rollPostsWrong : ChangeSpec := { name := "rollPosts", fn := fun _ => fun
  | [d1, d2] => { results := [.lit (.bool false)], args := [d1, d2] }
  | _ => none }
def RollPostsWrongFalsely : Prop := rollPostsRow.holds Try.pinned (OpenSpec.ofChange rollPostsWrong)

/-- 'dewpondlaw06.RollBack': WHATEVER THE INPUT: true; the input reads as it did. -/
def rollBackSpec : ChangeSpec := { name := "rollBack", fn := fun _ => fun
  | [d1, d2, d3] => { results := [.lit (.bool true)], args := [d1, d2, d3] }
  | _ => none }
def rollBackRow : OpenClaim := { program := "ytiihckbjmhhioaa", sum := "3d4342ac761396e3dd953cfddae7c6c61e1766d2dbf6d9761bdd8a5ac4700673", func := "dewpond/dewpondlaw06.RollBack", spec := "rollBack", unfollowed := true, recurses := true, apart := false }
def RollBackSaid : Prop := rollBackRow.holds Try.pinned (OpenSpec.ofChange rollBackSpec)

/-- ITS FALSE NEIGHBOUR: 'it returns false'. Refute it at one input. -/
def rollBackWrong : ChangeSpec := { name := "rollBack", fn := fun _ => fun
  | [d1, d2, d3] => { results := [.lit (.bool false)], args := [d1, d2, d3] }
  | _ => none }
def RollBackWrongFalsely : Prop := rollBackRow.holds Try.pinned (OpenSpec.ofChange rollBackWrong)

/- THE SECOND FORM. 'bulk': how many values and letters a reading holds, each counted each time it is reached (what is shared counts as often as it is met; a slice's spare places count too). A statement '..UptoSaid' is the law's where the arguments, and the package variables that the reading takes, are together of bulk at most 1048576: NARROWER than '..Said'. Prove '..Said' where nothing that the law and all that it calls make is longer than what came in: it says more and counts as full. Else prove '..UptoSaid'. A law counts once. -/
mutual
def uptoBulk {H : Type} : DataW H → Nat
  | .lit (.string bytes) => bytes.length + 1
  | .lit _ => 1
  | .nil => 1
  | .ptr d => uptoBulk d + 1
  | .slice elems spare => uptoBulkAll elems + uptoBulkAll spare + 1
  | .agg parts => uptoBulkAll parts + 1
  | .iface _ d => uptoBulk d + 1
  | .map entries => uptoBulkEntries entries + 1
  | .held _ => 1
def uptoBulkAll {H : Type} : List (DataW H) → Nat
  | [] => 0
  | d :: r => uptoBulk d + uptoBulkAll r
def uptoBulkEntries {H : Type} : List (Lit × DataW H) → Nat
  | [] => 0
  | x :: r => uptoBulkEntry x + uptoBulkEntries r
def uptoBulkEntry {H : Type} : Lit × DataW H → Nat
  | (.string bytes, d) => bytes.length + uptoBulk d + 1
  | (_, d) => uptoBulk d + 1
 end
def uptoSmall : (H : Type) → List (DataW H) → Bool := fun _ ds => decide (uptoBulkAll ds ≤ 1048576)
def OpenSpec.upto (s : _root_.Go.ChangeSpec) : _root_.Go.OpenSpec := { _root_.Go.OpenSpec.ofChange s with cond := some uptoSmall }

/-- 'dewpondlaw06.RollSorts', WHERE WHAT IT READS IS OF BULK AT MOST 1048576: true; the input reads as it did. -/
def rollSortsUptoRow : OpenClaim := { program := "ytiihckbjmhhioaa", sum := "3d4342ac761396e3dd953cfddae7c6c61e1766d2dbf6d9761bdd8a5ac4700673", func := "dewpond/dewpondlaw06.RollSorts", spec := "rollSorts", unfollowed := true, recurses := true, apart := false, narrowed := true }
def RollSortsUptoSaid : Prop := rollSortsUptoRow.holds Try.pinned (OpenSpec.upto rollSortsSpec)

/-- 'dewpondlaw06.RollTells', WHERE WHAT IT READS IS OF BULK AT MOST 1048576: true; the input reads as it did. -/
def rollTellsUptoRow : OpenClaim := { program := "ytiihckbjmhhioaa", sum := "3d4342ac761396e3dd953cfddae7c6c61e1766d2dbf6d9761bdd8a5ac4700673", func := "dewpond/dewpondlaw06.RollTells", spec := "rollTells", unfollowed := true, recurses := true, apart := false, narrowed := true }
def RollTellsUptoSaid : Prop := rollTellsUptoRow.holds Try.pinned (OpenSpec.upto rollTellsSpec)

/-- 'dewpondlaw06.RollFolds', WHERE WHAT IT READS IS OF BULK AT MOST 1048576: true; the input reads as it did. -/
def rollFoldsUptoRow : OpenClaim := { program := "ytiihckbjmhhioaa", sum := "3d4342ac761396e3dd953cfddae7c6c61e1766d2dbf6d9761bdd8a5ac4700673", func := "dewpond/dewpondlaw06.RollFolds", spec := "rollFolds", unfollowed := true, recurses := true, apart := false, narrowed := true }
def RollFoldsUptoSaid : Prop := rollFoldsUptoRow.holds Try.pinned (OpenSpec.upto rollFoldsSpec)

/-- 'dewpondlaw06.RollPosts', WHERE WHAT IT READS IS OF BULK AT MOST 1048576: true; the input reads as it did. -/
def rollPostsUptoRow : OpenClaim := { program := "ytiihckbjmhhioaa", sum := "3d4342ac761396e3dd953cfddae7c6c61e1766d2dbf6d9761bdd8a5ac4700673", func := "dewpond/dewpondlaw06.RollPosts", spec := "rollPosts", unfollowed := true, recurses := true, apart := false, narrowed := true }
def RollPostsUptoSaid : Prop := rollPostsUptoRow.holds Try.pinned (OpenSpec.upto rollPostsSpec)

/-- 'dewpondlaw06.RollBack', WHERE WHAT IT READS IS OF BULK AT MOST 1048576: true; the input reads as it did. -/
def rollBackUptoRow : OpenClaim := { program := "ytiihckbjmhhioaa", sum := "3d4342ac761396e3dd953cfddae7c6c61e1766d2dbf6d9761bdd8a5ac4700673", func := "dewpond/dewpondlaw06.RollBack", spec := "rollBack", unfollowed := true, recurses := true, apart := false, narrowed := true }
def RollBackUptoSaid : Prop := rollBackUptoRow.holds Try.pinned (OpenSpec.upto rollBackSpec)

end Rows
end Go.Proofs.Ytiihckbjmhhioaa
