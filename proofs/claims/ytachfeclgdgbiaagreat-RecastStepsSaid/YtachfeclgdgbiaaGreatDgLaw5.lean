/- The walk of the statement DigestPlays of layer digest: for every input it returns true, and nothing that was there before is changed. -/
import Derived.Test.YtachfeclgdgbiaaGreatDgL
import Derived.Test.YtachfeclgdgbiaaGreatDgR
import Derived.Test.YtachfeclgdgbiaaGreatDrQ
namespace Go.Proofs.YtachfeclgdgbiaaGreat
set_option linter.unusedVariables false
set_option maxRecDepth 100000
open Go.RowKit

/-- what Few tells: if it is so, there are not many calls -/
def FewPost (n : Nat) (w : World) (e : Ending) (w' : World) : Prop := ∃ b, e = .returned (.bool b) ∧ (b = true → n ≤ 60) ∧ Below w.heap.size w w'
theorem few_post {n : Nat} {w w' : World} (b : Bool) (h : b = true → n ≤ 60) (hb : Below w.heap.size w w') : FewPost n w (.returned (.bool b)) w' := ⟨b, rfl, h, hb⟩
set_option maxHeartbeats 3200000 in
theorem dgFew_any (l k kd : Int) (n : Nat) (w : World) (hc : kIs k = true ∧ isP kd l = true) :
    Calls Tryz.prog 30 #[.agg #[.int .i64 l, .int .i64 k, .int .i64 kd], .int .i64 (n : Int)] w (FewPost n w) := by
  have HB0 : Hid (Below w.heap.size w (w.alloc (.cells #[.int .i64 l, .int .i64 k, .int .i64 kd] 23))) := (Below.refl _ _).alloc (Nat.le_refl _) _
  have X0 := Lib.hid (tri_nw w 23 (.int .i64 l) (.int .i64 k) (.int .i64 kd))
  obtain ⟨x0, x1, x2, _, _, _, hz⟩ := tri_all X0.out
  have IS := Lib.hid (fun w => rDgIs_any l k kd w)
  rw [hc.1, hc.2] at IS
  clear hc
  by_cases hn : n ≤ 60
  · have g0 : decide ((n : Int) ≤ 60) = true := decide_eq_true (by omega)
    have HN : Hid (n ≤ 60) := hn
    clear hn
    cases g1 : decide (k ≤ 50) <;> cases g2 : decide (wrap64 (l * k) ≤ 50) <;> cases g3 : (kd == 2) <;> cases g4 : decide (l ≤ 10)
    all_goals
      go_enter Tryz.func30, Tryz.ntmps30
      go_wp2_with fail
      generalize w.alloc (.cells #[.int .i64 l, .int .i64 k, .int .i64 kd] 23) = W at *
      refine (IS.out _).mono ?_
      rintro e w1 ⟨rfl, hb1⟩
      obtain ⟨x0, x1, x2, _, _, _, hz⟩ := tri_all (own_below X0.out hb1)
      have B1 := Lib.hid (HB0.out.trans (hb1.mono HB0.out.size))
      clear hb1
      go_wp2_with fail
      go_ret
      exact few_post _ (fun _ => HN.out) B1.out
  · have g0 : decide ((n : Int) ≤ 60) = false := decide_eq_false (by omega)
    clear hn
    go_enter Tryz.func30, Tryz.ntmps30
    go_wp2_with fail
    go_ret
    exact few_post false (by simp) HB0.out
end Go.Proofs.YtachfeclgdgbiaaGreat
