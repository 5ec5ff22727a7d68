/- The project's call reckon.Order, and the chapter's example that each statement of layer reckon asks as well. -/
import Derived.Test.YtjhkflkffbdafaaRec2
namespace Go.Proofs.Ytjhkflkffbdafaa
set_option linter.unusedVariables false
open Go.RowKit

set_option maxHeartbeats 800000 in
theorem order_any (a b c d : Int) (w : World) (A0 : -9223372036854775808 ≤ a) (A1 : a ≤ 9223372036854775807) (B0 : -9223372036854775808 ≤ b) (B1 : b ≤ 9223372036854775807) (C0 : -9223372036854775808 ≤ c) (C1 : c ≤ 9223372036854775807) (D0 : -9223372036854775808 ≤ d) (D1 : d ≤ 9223372036854775807) :
    Calls Try.prog 26 #[.int .i64 a, .int .i64 b, .int .i64 c, .int .i64 d] w fun e w' => Ans2 (ordN a b c d) (ordB a b c d) w w' e := by
  by_cases h : ordC a b c d
  · have hc : cntB [a, b, c, d] = true := by rw [cnt_four]; exact decide_eq_true h
    have H := Lib.hid (ord_yes h)
    obtain ⟨h1, h2, h3, h4⟩ := h
    have p := mul_words h1 h2 A1 B1
    have q := mul_words h3 h4 C1 D1
    go_enter Try.func26, Try.ntmps26
    go_wp2_with (go_at_call 38; refine (counts_any _ [a, b, c, d] _ (seg_four _ _ _ _ _ _) (by simp)).mono ?_; rintro e w' ⟨rfl, rfl⟩)
    refine (product_any _ _ _ (by omega) (by omega) (by omega) (by omega)).mono ?_
    rintro e w1 ⟨rfl, G1⟩
    go_wp2_with fail
    refine (product_any _ _ _ (by omega) (by omega) (by omega) (by omega)).mono ?_
    rintro e w2 ⟨rfl, G2⟩
    go_wp2_with fail
    refine (compare_any _ _ _ _ _ (by omega) (by omega) (by omega) (by omega) (by omega) (by omega) (by omega) (by omega)).mono ?_
    rintro e w3 ⟨rfl, G3⟩
    rw [wide_whole (a * b), wide_whole (c * d)]
    go_wp2_with fail
    go_ret2
    have z1 := G1.size
    simp at z1
    have z2 := G2.size
    exact ans2 H.out ((((below_one _ _).trans (G1.mono (by simp))).trans (G2.mono (by omega))).trans (G3.mono (by omega)))
  · have hc : cntB [a, b, c, d] = false := by rw [cnt_four]; exact decide_eq_false h
    have H := Lib.hid (ord_no h)
    clear h
    go_enter Try.func26, Try.ntmps26
    go_wp2_with (go_at_call 38; refine (counts_any _ [a, b, c, d] _ (seg_four _ _ _ _ _ _) (by simp)).mono ?_; rintro e w' ⟨rfl, rfl⟩)
    go_ret2
    exact ans2 H.out (below_one _ _)

theorem ex_1 : partN 10 1 3 = 3 ∧ partB 10 1 3 = true := by decide
theorem ex_2 : partUpN 10 1 3 = 4 ∧ partUpB 10 1 3 = true := by decide
theorem ex_3 : partN 9223372036854775807 9223372036854775807 9223372036854775807 = 9223372036854775807 ∧ partB 9223372036854775807 9223372036854775807 9223372036854775807 = true := by decide

set_option maxHeartbeats 800000 in
theorem alive_any (w : World) : Calls Try.prog 15 #[] w fun e w' => e = .returned (.bool true) ∧ Below w.heap.size w w' := by
  obtain ⟨e1, e2⟩ := ex_1
  obtain ⟨e3, e4⟩ := ex_2
  obtain ⟨e5, e6⟩ := ex_3
  go_enter Try.func15, Try.ntmps15
  go_wp2_with fail
  refine (part_any _ _ _ _ (by decide) (by decide) (by decide) (by decide) (by decide) (by decide)).mono ?_
  rintro e w1 ⟨rfl, G1⟩
  go_wp2_with fail
  refine (partUp_any _ _ _ _ (by decide) (by decide) (by decide) (by decide) (by decide) (by decide)).mono ?_
  rintro e w2 ⟨rfl, G2⟩
  go_wp2_with fail
  refine (part_any _ _ _ _ (by decide) (by decide) (by decide) (by decide) (by decide) (by decide)).mono ?_
  rintro e w3 ⟨rfl, G3⟩
  go_wp2_with fail
  go_ret
  exact ⟨rfl, (G1.trans (G2.mono G1.size)).trans (G3.mono (Nat.le_trans G1.size G2.size))⟩

end Go.Proofs.Ytjhkflkffbdafaa
