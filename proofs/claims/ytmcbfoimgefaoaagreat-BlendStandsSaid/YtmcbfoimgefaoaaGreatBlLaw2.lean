/- What the statements of layer blend call: some. -/
import Derived.Test.YtmcbfoimgefaoaaGreatBlLaw
namespace Go.Proofs.YtmcbfoimgefaoaaGreat
set_option linter.unusedVariables false
set_option maxRecDepth 100000
open Go.RowKit

/-- what some tells: if it is so, there are not many calls -/
def BlSomePost (n : Nat) (w : World) (e : Ending) (w' : World) : Prop := ∃ b, e = .returned (.bool b) ∧ (b = true → n ≤ 100) ∧ Below w.heap.size w w'
theorem blSome_post {n : Nat} {w w' : World} (b : Bool) (h : b = true → n ≤ 100) (hb : Below w.heap.size w w') : BlSomePost n w (.returned (.bool b)) w' := ⟨b, rfl, h, hb⟩
set_option maxHeartbeats 1600000 in
theorem blSome_any (l k kd : Int) (A : Option Addr) (n c : Nat) (w : World) :
    Calls Tryz.prog 18 #[.agg #[.int .i64 l, .int .i64 k, .int .i64 kd, .slice A n c]] w (BlSomePost n w) := by
  have HB0 : Hid (Below w.heap.size w (w.alloc (.cells #[.int .i64 l, .int .i64 k, .int .i64 kd, .slice A n c] 26))) := (Below.refl _ _).alloc (Nat.le_refl _) _
  have X0 := Lib.hid (quad_new w 26 (.int .i64 l) (.int .i64 k) (.int .i64 kd) (.slice A n c))
  obtain ⟨x0, x1, x2, x3, _, _, _, _, hz⟩ := quad_all X0.out
  by_cases hn : n ≤ 100
  · have g0 : decide ((n : Int) ≤ 100) = true := decide_eq_true (by omega)
    have HN : Hid (n ≤ 100) := hn
    clear hn
    cases g1 : (kd == 1) <;> cases g2 : decide (l ≤ 10)
    all_goals
      have g3 : (kd != 1) = !(kd == 1) := rfl
      rw [g1] at g3
      simp only [Bool.not_true, Bool.not_false] at g3
      go_enter Tryz.func18, Tryz.ntmps18
      go_wp2_with fail
      go_ret
      exact blSome_post _ (fun _ => HN.out) HB0.out
  · have g0 : decide ((n : Int) ≤ 100) = false := decide_eq_false (by omega)
    clear hn
    go_enter Tryz.func18, Tryz.ntmps18
    go_wp2_with fail
    go_ret
    exact blSome_post false (by simp) HB0.out

end Go.Proofs.YtmcbfoimgefaoaaGreat
