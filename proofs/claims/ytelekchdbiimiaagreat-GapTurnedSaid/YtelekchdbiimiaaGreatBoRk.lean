/- The document's answers of package dewpondref01 for layer bound: Bits (a number of two words by its digits), Order. -/
import Derived.Test.YtelekchdbiimiaaGreatRfQ
namespace Go.Proofs.YtelekchdbiimiaaGreat
set_option linter.unusedVariables false
open Go.RowKit
set_option maxHeartbeats 1600000 in
theorem rfOrd_any (a b c d : Int) (w : World) (A0 : -9223372036854775808 ≤ a) (A1 : a ≤ 9223372036854775807) (B0 : -9223372036854775808 ≤ b) (B1 : b ≤ 9223372036854775807) (C0 : -9223372036854775808 ≤ c) (C1 : c ≤ 9223372036854775807) (D0 : -9223372036854775808 ≤ d) (D1 : d ≤ 9223372036854775807) :
    Calls Tryz.prog 19 #[.int .i64 a, .int .i64 b, .int .i64 c, .int .i64 d] w fun e w' => Ans2 (ordN a b c d) (ordB a b c d) w w' e := by
  rcases (show a < 0 ∨ (0 ≤ a ∧ b < 0) ∨ (0 ≤ a ∧ 0 ≤ b ∧ c < 0) ∨ (0 ≤ a ∧ 0 ≤ b ∧ 0 ≤ c ∧ d < 0) ∨ (0 ≤ a ∧ 0 ≤ b ∧ 0 ≤ c ∧ 0 ≤ d) by omega) with h | h | h | h | h
  · have H := Lib.hid (ord_no (a := a) (b := b) (c := c) (d := d) (by unfold ordC; omega))
    have hn : decide (0 ≤ a) = false := decide_eq_false (by omega)
    go_enter Tryz.func19, Tryz.ntmps19
    go_wp2
    go_ret2
    exact ans2 H.out (Below.refl _ _)
  · have H := Lib.hid (ord_no (a := a) (b := b) (c := c) (d := d) (by unfold ordC; omega))
    obtain ⟨h1, h2⟩ := h
    have hn : decide (0 ≤ b) = false := decide_eq_false (by omega)
    go_enter Tryz.func19, Tryz.ntmps19
    go_wp2
    go_ret2
    exact ans2 H.out (Below.refl _ _)
  · have H := Lib.hid (ord_no (a := a) (b := b) (c := c) (d := d) (by unfold ordC; omega))
    obtain ⟨h1, h2, h3⟩ := h
    have hn : decide (0 ≤ c) = false := decide_eq_false (by omega)
    go_enter Tryz.func19, Tryz.ntmps19
    go_wp2
    go_ret2
    exact ans2 H.out (Below.refl _ _)
  · have H := Lib.hid (ord_no (a := a) (b := b) (c := c) (d := d) (by unfold ordC; omega))
    obtain ⟨h1, h2, h3, h4⟩ := h
    have hn : decide (0 ≤ d) = false := decide_eq_false (by omega)
    go_enter Tryz.func19, Tryz.ntmps19
    go_wp2
    go_ret2
    exact ans2 H.out (Below.refl _ _)
  · obtain ⟨h1, h2, h3, h4⟩ := h
    have H := Lib.hid (ord_yes (a := a) (b := b) (c := c) (d := d) ⟨h1, h2, h3, h4⟩)
    go_enter Tryz.func19, Tryz.ntmps19
    go_wp2_with (go_at_call 41; refine (rfIs_any _ _).mono ?_; rintro e w' ⟨rfl, rfl⟩)
    refine (digits_any _ _ (by omega) (by omega)).mono ?_
    rintro e w1 ⟨v1, l1, rfl, S1, D1, V1, L1, B1⟩
    have H1 := Lib.hid V1
    clear V1
    go_wp2_with fail
    refine (digits_any _ _ (by omega) (by omega)).mono ?_
    rintro e w2 ⟨v2, l2, rfl, S2, D2, V2, L2, B2⟩
    have H2 := Lib.hid V2
    clear V2
    go_wp2_with fail
    refine (times_any _ _ l1 l2 7 _ (seg_below S1 B2) S2 D1 D2 (by omega) (by omega) (by omega)).mono ?_
    rintro e w3 ⟨v3, l3, rfl, S3, D3, V3, L3, B3⟩
    have hv3 : dv l3 = a * b := by rw [V3, H1.out, H2.out]
    have H3 := Lib.hid hv3
    clear V3 hv3 H1 H2 S1 S2 D1 D2 L1 L2
    have Bt3 : Below w.heap.size w w3 := (B1.trans (B2.mono B1.size)).trans (B3.mono (Nat.le_trans B1.size B2.size))
    clear B1 B2 B3
    go_wp2_with fail
    refine (digits_any _ _ (by omega) (by omega)).mono ?_
    rintro e w4 ⟨v4, l4, rfl, S4, D4, V4, L4, B4⟩
    have H4 := Lib.hid V4
    clear V4
    go_wp2_with fail
    refine (digits_any _ _ (by omega) (by omega)).mono ?_
    rintro e w5 ⟨v5, l5, rfl, S5, D5, V5, L5, B5⟩
    have H5 := Lib.hid V5
    clear V5
    go_wp2_with fail
    refine (times_any _ _ l4 l5 7 _ (seg_below S4 B5) S5 D4 D5 (by omega) (by omega) (by omega)).mono ?_
    rintro e w6 ⟨v6, l6, rfl, S6, D6, V6, L6, B6⟩
    have hv6 : dv l6 = c * d := by rw [V6, H4.out, H5.out]
    have H6 := Lib.hid hv6
    clear V6 hv6 H4 H5 S4 S5 D4 D5 L4 L5
    have Bt6 : Below w3.heap.size w3 w6 := (B4.trans (B5.mono B4.size)).trans (B6.mono (Nat.le_trans B4.size B5.size))
    clear B4 B5 B6
    go_wp2_with fail
    refine (less_any _ _ l3 l6 _ (seg_below S3 Bt6) S6 D3 D6 (by omega) (by omega)).mono ?_
    rintro e w7 ⟨rfl, rfl⟩
    go_wp2_with fail
    go_ret2
    exact ans2 (by rw [H.out.1, H.out.2, H3.out, H6.out]; exact ⟨rfl, rfl⟩) (Bt3.trans (Bt6.mono Bt3.size))
end Go.Proofs.YtelekchdbiimiaaGreat
