/- The walk of the statement ReckonBack: for every input it returns true, and nothing that was there before is changed. -/
import Derived.Test.YtjhkflkffbdafaaLaw1
namespace Go.Proofs.Ytjhkflkffbdafaa
set_option linter.unusedVariables false
open Go.RowKit

theorem carry2 {P : Program} {f : FuncId} {args : Array Value} {w0 w : World} {n : Int} {b : Bool} (hb : Below w0.heap.size w0 w) (h : Calls P f args w fun e w' => Ans2 n b w w' e) :
    Calls P f args w fun e w' => e = .returned (.tuple #[.int .i64 n, .bool b]) ∧ Below w0.heap.size w0 w' :=
  h.mono fun _ _ ⟨x, y⟩ => ⟨x, hb.trans (y.mono hb.size)⟩
theorem carry1 {P : Program} {f : FuncId} {args : Array Value} {w0 w : World} {v : Value} (hb : Below w0.heap.size w0 w) (h : Calls P f args w fun e w' => e = .returned v ∧ Below w.heap.size w w') :
    Calls P f args w fun e w' => e = .returned v ∧ Below w0.heap.size w0 w' :=
  h.mono fun _ _ ⟨x, y⟩ => ⟨x, hb.trans (y.mono hb.size)⟩

theorem cmp3_turn (x y : Int) : cmp3 x y = -cmp3 y x := by unfold cmp3; split <;> split <;> (try split) <;> omega
theorem cmp3_bd (x y : Int) : -1 ≤ cmp3 x y ∧ cmp3 x y ≤ 1 := by unfold cmp3; split <;> (try split) <;> omega
theorem ord_turn (a b c : Int) : ordB c a a b = ordB a b c a ∧ ordN a b c a = -ordN c a a b ∧ -1 ≤ ordN c a a b ∧ ordN c a a b ≤ 1 := by
  by_cases h : ordC a b c a
  · have h' : ordC c a a b := ⟨h.2.2.1, h.1, h.1, h.2.1⟩
    rw [(ord_yes h).1, (ord_yes h).2, (ord_yes h').1, (ord_yes h').2]
    exact ⟨rfl, cmp3_turn _ _, cmp3_bd _ _⟩
  · have h' : ¬ ordC c a a b := fun g => h ⟨g.2.1, g.2.2.2, g.1, g.2.1⟩
    rw [(ord_no h).1, (ord_no h).2, (ord_no h').1, (ord_no h').2]
    decide
theorem sum_back {a b : Int} (h : sumB a b = true) : 0 ≤ a ∧ 0 ≤ b ∧ sumN a b ≤ 9223372036854775807 ∧ 0 ≤ sumN a b ∧ subB (sumN a b) b = true ∧ subN (sumN a b) b = a := by
  have hc := of_decide_eq_true h
  rw [(sum_yes hc).1]
  have hs : 0 ≤ a + b ∧ 0 ≤ b ∧ b ≤ a + b := by omega
  rw [(sub_yes hs).1, (sub_yes hs).2]
  exact ⟨hc.1, hc.2.1, hc.2.2, hs.1, rfl, by omega⟩
theorem mul_back {a b : Int} (h : mulB a b = true) : 0 ≤ a ∧ 0 ≤ b ∧ mulN a b ≤ 9223372036854775807 ∧ 0 ≤ mulN a b := by
  have hc := of_decide_eq_true h
  rw [(mul_yes hc).1]
  exact ⟨hc.1, hc.2.1, hc.2.2, Int.mul_nonneg hc.1 hc.2.1⟩
theorem mul_div {a b : Int} (h : mulB a b = true) (hb : 1 ≤ b) : quoB (mulN a b) b = true ∧ quoN (mulN a b) b = a ∧ upB (mulN a b) b = true ∧ upN (mulN a b) b = a := by
  have hc := of_decide_eq_true h
  rw [(mul_yes hc).1]
  have hq : 0 ≤ a * b ∧ 1 ≤ b := ⟨Int.mul_nonneg hc.1 hc.2.1, hb⟩
  have e := Int.mul_ediv_cancel a (show b ≠ 0 by omega)
  rw [(quo_yes hq).1, (quo_yes hq).2, (up_flat hq (Int.mul_emod_left a b)).1, (up_flat hq (Int.mul_emod_left a b)).2, e]
  exact ⟨rfl, rfl, rfl, rfl⟩
theorem div_is {x c q r : Int} (hc : 1 ≤ c) (e : x = q * c + r) (r0 : 0 ≤ r) (r1 : r < c) : x / c = q ∧ x % c = r := by
  have h : x / c = q := by
    rw [Int.ediv_eq_iff_of_pos (by omega)]
    omega
  refine ⟨h, ?_⟩
  rw [Int.emod_def, h, Int.mul_comm]; omega
theorem part_back {a b c : Int} (a0 : 0 ≤ a) (a1 : a ≤ 9223372036854775807) (b0 : 0 ≤ b) (bc : b ≤ c) (hc : 1 ≤ c) :
    partB a b c = true ∧ 0 ≤ partN a b c ∧ partN a b c ≤ a ∧ partUpB a (c - b) c = true ∧ partUpN a (c - b) c = a - partN a b c := by
  have p0 := Int.mul_nonneg a0 b0
  have p1 := Int.mul_le_mul_of_nonneg_left bc a0
  have p2 := Int.mul_le_mul_of_nonneg_right a1 (show 0 ≤ c by omega)
  have q0 := Int.ediv_nonneg p0 (show 0 ≤ c by omega)
  have qe := Int.ediv_mul_add_emod (a * b) c
  have r0 := Int.emod_nonneg (a * b) (show c ≠ 0 by omega)
  have r1 := Int.emod_lt_of_pos (a * b) (show 0 < c by omega)
  have hC : partC a b c := ⟨a0, b0, hc⟩
  have hD : partC a (c - b) c := ⟨a0, by omega, hc⟩
  have hlt : a * b < 9223372036854775808 * c := by omega
  have hN : partN a b c = a * b / c := by rw [(part_yes hC).1]; unfold quotN; rw [if_pos hlt]
  have hB : partB a b c = true := by rw [(part_yes hC).2.2]; unfold quotB; exact decide_eq_true hlt
  generalize a * b / c = q at *
  generalize a * b % c = r at *
  have hqa : q ≤ a := by
    have h : q * c < (a + 1) * c := by rw [Int.add_mul]; omega
    have := lt_of_mul (show 0 < c by omega) h
    omega
  have hx : a * (c - b) = (a - q) * c - r := by rw [Int.mul_sub, Int.sub_mul]; omega
  have hlt2 : a * (c - b) < 9223372036854775808 * c := by rw [hx, Int.sub_mul]; have := Int.mul_nonneg q0 (show 0 ≤ c by omega); omega
  have hN2 : partN a (c - b) c = a * (c - b) / c := by rw [(part_yes hD).1]; unfold quotN; rw [if_pos hlt2]
  have hB2 : partB a (c - b) c = true := by rw [(part_yes hD).2.2]; unfold quotB; exact decide_eq_true hlt2
  have hR2 : partR a (c - b) c = decide (a * (c - b) % c ≠ 0) := by rw [(part_yes hD).2.1]; unfold quotR; rw [decide_eq_true hlt2, Bool.true_and]
  rw [hN]
  refine ⟨hB, q0, hqa, ?_⟩
  by_cases hr : r = 0
  · have d := div_is hc (show a * (c - b) = (a - q) * c + 0 by omega) (by omega) (by omega)
    rw [d.2] at hR2
    have hf : partR a (c - b) c = false := by rw [hR2]; rfl
    rw [(partUp_flat hf).1, (partUp_flat hf).2, hN2, d.1]
    exact ⟨hB2, rfl⟩
  · have e1 : (a - q - 1) * c = (a - q) * c - c := by rw [Int.sub_mul (a - q), Int.one_mul]
    have d := div_is hc (show a * (c - b) = (a - q - 1) * c + (c - r) by omega) (by omega) (by omega)
    rw [d.2] at hR2
    have hf : partR a (c - b) c = true := by rw [hR2]; exact decide_eq_true (by omega)
    have hm := partUp_more hf (by rw [hN2, d.1]; omega)
    rw [hm.1, hm.2, hN2, d.1]
    exact ⟨rfl, by omega⟩

end Go.Proofs.Ytjhkflkffbdafaa
