/- The document's answers of package dewpondref07: Total, Get, Add, Take, Do. -/
import Derived.Test.YtabbpcpnabecmaaMmy
import Derived.Test.YtabbpcpnabecmaaK4
import Derived.Test.YtabbpcpnabecmaaRoRef3
import Derived.Laws.AppendOwnNone
import Derived.WalkSpells
namespace Go.Proofs.Ytabbpcpnabecmaa
set_option linter.unusedVariables false
set_option maxRecDepth 100000
open Go.RowKit

/-- a slice is the one that came in, or lies in new memory -/
def NewB (v0 v : Value) (k : Nat) : Prop := v = v0 ∨ ∀ b, v.ownBlock = some b → k ≤ b
theorem newB_of {w : World} {base k : Nat} {e : TypeId} {size n : Nat} {v0 v : Value} {xs : List Value} (o : w.ownsRow base e size v n xs) (h : k ≤ base) : NewB v0 v k := .inr fun b hb => Nat.le_trans h (World.ownsRow.lt o b hb).1
theorem NewB.mono {v0 v : Value} {k k' : Nat} (h : NewB v0 v k) (hk : k' ≤ k) : NewB v0 v k' := h.imp id fun q b hb => Nat.le_trans hk (q b hb)
/-- a store handed out, and a number -/
def StPost (l : Int) (M : List Nd) (n : Int) (v0 : Value) (w : World) (e : Ending) (w' : World) : Prop :=
  ∃ A m c, e = .returned (.tuple #[.agg #[.int .i64 l, .slice A m c], .int .i64 n]) ∧ OwnNd 46 w' 0 (.slice A m c) M ∧ Below w.heap.size w w' ∧ NewB v0 (.slice A m c) w.heap.size
set_option maxHeartbeats 800000 in
theorem rsTotal_any (l : Int) (A : Option Addr) (n c : Nat) (L : List Nd) (w : World) (h : NodesAt w (.slice A n c) L) (hr : RollC l L) (hn : n ≤ 1000000) :
    Calls Try.prog 13 #[.agg #[.int .i64 l, .slice A n c]] w fun e w' => e = .returned (.int .i64 (sumC L)) ∧ Below w.heap.size w w' := by
  have HN := Lib.hid h
  have NB : Hid (NBds L) := nbds_roll hr
  have T := Lib.hid (tot_yes hr.2.2.2)
  clear h hr
  have hb0 : Below w.heap.size w (w.alloc (.cells #[.int .i64 l, .slice A n c] 28)) := (Below.refl _ _).alloc (Nat.le_refl _) _
  have HB0 := Lib.hid hb0
  clear hb0
  go_enter Try.func13, Try.ntmps13
  go_wp2_with (go_at_call 34; refine (rTotal_any _ _ _ L _ (HN.out.below HB0.out) NB.out hn).mono ?_; rintro e w1 ⟨rfl, hb1⟩)
  go_ret
  exact ⟨ret_i (by rw [T.out.1]), HB0.out.trans (hb1.mono (by simp))⟩
/-- the list with one more is folded: it has so many weights -/
theorem fold_one_more {l id cc : Int} {L : List Nd} (hr : RollC l L) (hq : rightB l id = true) (hc : ¬ cc < 0) (hf : ¬ 72057594037927935 < sumC L + cc) : foldB (L ++ [(id, cc)]) = true := by
  refine foldC_iff.2 ⟨⟨fun n hn => ?_, ?_⟩, fun n hn => ?_⟩
  · rcases List.mem_append.1 hn with hn | hn
    · exact hr.2.2.2.1 n hn
    · simp at hn; subst hn; show 0 ≤ cc; omega
  · rw [sumC_app]; simp [sumC]; omega
  · rcases List.mem_append.1 hn with hn | hn
    · exact right_pos (hr.2.2.1 n hn).1
    · simp at hn; subst hn; exact right_pos hq
end Go.Proofs.Ytabbpcpnabecmaa
