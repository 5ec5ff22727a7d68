/- The document's answer for layer reckon: Add, Sub, Mul, Div, Up, Part, PartUp, Order: each answers what the plain numbers say, and nothing that was there before is changed. -/
import Derived.Test.YtjhkflkffbdafaaQuot
import Derived.Test.YtjhkflkffbdafaaSpec
namespace Go.Proofs.Ytjhkflkffbdafaa
set_option linter.unusedVariables false
open Go.RowKit

/-- a number and whether it is one; nothing that was there before is changed -/
def Ans2 (n : Int) (b : Bool) (w w' : World) (e : Ending) : Prop := e = .returned (.tuple #[.int .i64 n, .bool b]) ∧ Below w.heap.size w w'
theorem ans2 {n m : Int} {b c : Bool} {w w' : World} (h : n = m ∧ b = c) (hb : Below w.heap.size w w') : Ans2 n b w w' (.returned (.tuple #[.int .i64 m, .bool c])) := by
  obtain ⟨rfl, rfl⟩ := h; exact ⟨rfl, hb⟩

theorem is_any (n : Int) (w : World) : Calls Try.prog 40 #[.int .i64 n] w fun e w' => e = .returned (.bool (decide (0 ≤ n))) ∧ w = w' := by
  go_enter Try.func40, Try.ntmps40
  go_wp2
  go_ret
  exact ⟨rfl, rfl⟩

set_option maxHeartbeats 400000 in
theorem radd_any (a b : Int) (w : World) (A0 : -9223372036854775808 ≤ a) (A1 : a ≤ 9223372036854775807) (B0 : -9223372036854775808 ≤ b) (B1 : b ≤ 9223372036854775807) :
    Calls Try.prog 12 #[.int .i64 a, .int .i64 b] w fun e w' => Ans2 (sumN a b) (sumB a b) w w' e := by
  rcases (show a < 0 ∨ (0 ≤ a ∧ b < 0) ∨ (0 ≤ a ∧ 0 ≤ b ∧ 9223372036854775807 - b < a) ∨ (0 ≤ a ∧ 0 ≤ b ∧ a ≤ 9223372036854775807 - b) by omega) with h | h | h | h
  · have H := Lib.hid (sum_no (a := a) (b := b) (by omega))
    have hn : decide (0 ≤ a) = false := decide_eq_false (by omega)
    go_enter Try.func12, Try.ntmps12
    go_wp2
    go_ret2
    exact ans2 H.out (Below.refl _ _)
  · have H := Lib.hid (sum_no (a := a) (b := b) (by omega))
    obtain ⟨h1, h2⟩ := h
    have hn : decide (0 ≤ b) = false := decide_eq_false (by omega)
    go_enter Try.func12, Try.ntmps12
    go_wp2
    go_ret2
    exact ans2 H.out (Below.refl _ _)
  · have H := Lib.hid (sum_no (a := a) (b := b) (by omega))
    obtain ⟨h1, h2, h3⟩ := h
    go_enter Try.func12, Try.ntmps12
    go_wp2
    go_ret2
    exact ans2 H.out (Below.refl _ _)
  · have H := Lib.hid (sum_yes (a := a) (b := b) (by omega))
    obtain ⟨h1, h2, h3⟩ := h
    go_enter Try.func12, Try.ntmps12
    go_wp2
    go_ret2
    exact ans2 H.out (Below.refl _ _)

set_option maxHeartbeats 400000 in
theorem rsub_any (a b : Int) (w : World) (A0 : -9223372036854775808 ≤ a) (A1 : a ≤ 9223372036854775807) (B0 : -9223372036854775808 ≤ b) (B1 : b ≤ 9223372036854775807) :
    Calls Try.prog 14 #[.int .i64 a, .int .i64 b] w fun e w' => Ans2 (subN a b) (subB a b) w w' e := by
  rcases (show a < 0 ∨ (0 ≤ a ∧ b < 0) ∨ (0 ≤ a ∧ 0 ≤ b ∧ a < b) ∨ (0 ≤ a ∧ 0 ≤ b ∧ b ≤ a) by omega) with h | h | h | h
  · have H := Lib.hid (sub_no (a := a) (b := b) (by omega))
    have hn : decide (0 ≤ a) = false := decide_eq_false (by omega)
    go_enter Try.func14, Try.ntmps14
    go_wp2
    go_ret2
    exact ans2 H.out (Below.refl _ _)
  · have H := Lib.hid (sub_no (a := a) (b := b) (by omega))
    obtain ⟨h1, h2⟩ := h
    have hn : decide (0 ≤ b) = false := decide_eq_false (by omega)
    go_enter Try.func14, Try.ntmps14
    go_wp2
    go_ret2
    exact ans2 H.out (Below.refl _ _)
  · have H := Lib.hid (sub_no (a := a) (b := b) (by omega))
    obtain ⟨h1, h2, h3⟩ := h
    go_enter Try.func14, Try.ntmps14
    go_wp2
    go_ret2
    exact ans2 H.out (Below.refl _ _)
  · have H := Lib.hid (sub_yes (a := a) (b := b) (by omega))
    obtain ⟨h1, h2, h3⟩ := h
    go_enter Try.func14, Try.ntmps14
    go_wp2
    go_ret2
    exact ans2 H.out (Below.refl _ _)

set_option maxHeartbeats 400000 in
theorem rdiv_any (a b : Int) (w : World) (A0 : -9223372036854775808 ≤ a) (A1 : a ≤ 9223372036854775807) (B0 : -9223372036854775808 ≤ b) (B1 : b ≤ 9223372036854775807) :
    Calls Try.prog 19 #[.int .i64 a, .int .i64 b] w fun e w' => Ans2 (quoN a b) (quoB a b) w w' e := by
  rcases (show a < 0 ∨ (0 ≤ a ∧ b < 1) ∨ (0 ≤ a ∧ 1 ≤ b) by omega) with h | h | h
  · have H := Lib.hid (quo_no (a := a) (b := b) (by omega))
    have hn : decide (0 ≤ a) = false := decide_eq_false (by omega)
    go_enter Try.func19, Try.ntmps19
    go_wp2
    go_ret2
    exact ans2 H.out (Below.refl _ _)
  · have H := Lib.hid (quo_no (a := a) (b := b) (by omega))
    obtain ⟨h1, h2⟩ := h
    go_enter Try.func19, Try.ntmps19
    go_wp2
    go_ret2
    exact ans2 H.out (Below.refl _ _)
  · have H := Lib.hid (quo_yes (a := a) (b := b) (by omega))
    obtain ⟨h1, h2⟩ := h
    go_enter Try.func19, Try.ntmps19
    go_wp2
    go_ret2
    exact ans2 H.out (Below.refl _ _)

set_option maxHeartbeats 400000 in
theorem rup_any (a b : Int) (w : World) (A0 : -9223372036854775808 ≤ a) (A1 : a ≤ 9223372036854775807) (B0 : -9223372036854775808 ≤ b) (B1 : b ≤ 9223372036854775807) :
    Calls Try.prog 21 #[.int .i64 a, .int .i64 b] w fun e w' => Ans2 (upN a b) (upB a b) w w' e := by
  rcases (show a < 0 ∨ (0 ≤ a ∧ b < 1) ∨ (0 ≤ a ∧ 1 ≤ b) by omega) with h | h | h
  · have H := Lib.hid (up_no (a := a) (b := b) (by omega))
    have hn : decide (0 ≤ a) = false := decide_eq_false (by omega)
    go_enter Try.func21, Try.ntmps21
    go_wp2
    go_ret2
    exact ans2 H.out (Below.refl _ _)
  · have H := Lib.hid (up_no (a := a) (b := b) (by omega))
    obtain ⟨h1, h2⟩ := h
    go_enter Try.func21, Try.ntmps21
    go_wp2
    go_ret2
    exact ans2 H.out (Below.refl _ _)
  · obtain ⟨h1, h2⟩ := h
    obtain ⟨D0, D1, D2, D3, D4⟩ := div_bd h1 h2
    by_cases hr : 0 < a % b
    · have H := Lib.hid (up_more (a := a) (b := b) ⟨h1, h2⟩ hr)
      have D5 := D4 hr
      clear D4
      go_enter Try.func21, Try.ntmps21
      go_wp2
      go_ret2
      exact ans2 H.out (Below.refl _ _)
    · have H := Lib.hid (up_flat (a := a) (b := b) ⟨h1, h2⟩ (by omega))
      clear D4
      go_enter Try.func21, Try.ntmps21
      go_wp2
      go_ret2
      exact ans2 H.out (Below.refl _ _)

set_option maxHeartbeats 800000 in
theorem rmul_any (a b : Int) (w : World) (A0 : -9223372036854775808 ≤ a) (A1 : a ≤ 9223372036854775807) (B0 : -9223372036854775808 ≤ b) (B1 : b ≤ 9223372036854775807) :
    Calls Try.prog 17 #[.int .i64 a, .int .i64 b] w fun e w' => Ans2 (mulN a b) (mulB a b) w w' e := by
  rcases (show a < 0 ∨ (0 ≤ a ∧ b < 0) ∨ (0 ≤ a ∧ 0 ≤ b) by omega) with h | h | h
  · have H := Lib.hid (mul_no (a := a) (b := b) (by omega))
    have hn : decide (0 ≤ a) = false := decide_eq_false (by omega)
    go_enter Try.func17, Try.ntmps17
    go_wp2
    go_ret2
    exact ans2 H.out (Below.refl _ _)
  · have H := Lib.hid (mul_no (a := a) (b := b) (by omega))
    obtain ⟨h1, h2⟩ := h
    have hn : decide (0 ≤ b) = false := decide_eq_false (by omega)
    go_enter Try.func17, Try.ntmps17
    go_wp2
    go_ret2
    exact ans2 H.out (Below.refl _ _)
  · obtain ⟨h1, h2⟩ := h
    have H := Lib.hid (mul_quot h1 h2)
    go_enter Try.func17, Try.ntmps17
    go_wp2_with (go_at_call 40; refine (is_any _ _).mono ?_; rintro e w' ⟨rfl, rfl⟩)
    refine (digits_any _ _ (by omega) (by omega)).mono ?_
    rintro e w1 ⟨v1, l1, rfl, S1, D1, V1, L1, B1⟩
    have H1 := Lib.hid V1
    clear V1
    go_wp2_with fail
    refine (digits_any _ _ (by omega) (by omega)).mono ?_
    rintro e w2 ⟨v2, l2, rfl, S2, D2, V2, L2, B2⟩
    have H2 := Lib.hid V2
    clear V2
    go_wp2_with fail
    refine (times_any _ _ l1 l2 7 _ (seg_below S1 B2) S2 D1 D2 (by omega) (by omega) (by omega)).mono ?_
    rintro e w3 ⟨v3, l3, rfl, S3, D3, V3, L3, B3⟩
    have hv3 : dv l3 = a * b := by rw [V3, H1.out, H2.out]
    have H3 := Lib.hid hv3
    clear V3 hv3 H1 H2 S1 S2 D1 D2 L1 L2
    have Bt3 : Below w.heap.size w w3 := (B1.trans (B2.mono B1.size)).trans (B3.mono (Nat.le_trans B1.size B2.size))
    clear B1 B2 B3
    go_wp2_with fail
    refine (quot_any _ l3 1 _ S3 D3 (by omega) (by decide) (by decide)).mono ?_
    rintro e w4 ⟨rfl, B4⟩
    go_wp2_with fail
    go_ret2
    exact ans2 (by rw [H.out.1, H.out.2, H3.out]; exact ⟨rfl, rfl⟩) (Bt3.trans (B4.mono Bt3.size))

set_option maxHeartbeats 800000 in
theorem rpart_any (n m d : Int) (w : World) (N0 : -9223372036854775808 ≤ n) (N1 : n ≤ 9223372036854775807) (M0 : -9223372036854775808 ≤ m) (M1 : m ≤ 9223372036854775807) (D0 : -9223372036854775808 ≤ d) (D1 : d ≤ 9223372036854775807) :
    Calls Try.prog 23 #[.int .i64 n, .int .i64 m, .int .i64 d] w fun e w' => Ans2 (partN n m d) (partB n m d) w w' e := by
  rcases (show n < 0 ∨ (0 ≤ n ∧ m < 0) ∨ (0 ≤ n ∧ 0 ≤ m ∧ d < 1) ∨ (0 ≤ n ∧ 0 ≤ m ∧ 1 ≤ d) by omega) with h | h | h | h
  · have H := Lib.hid (part_no (n := n) (m := m) (d := d) (by unfold partC; omega))
    have hn : decide (0 ≤ n) = false := decide_eq_false (by omega)
    go_enter Try.func23, Try.ntmps23
    go_wp2
    go_ret2
    exact ans2 ⟨H.out.1, H.out.2.2⟩ (Below.refl _ _)
  · have H := Lib.hid (part_no (n := n) (m := m) (d := d) (by unfold partC; omega))
    obtain ⟨h1, h2⟩ := h
    have hn : decide (0 ≤ m) = false := decide_eq_false (by omega)
    go_enter Try.func23, Try.ntmps23
    go_wp2
    go_ret2
    exact ans2 ⟨H.out.1, H.out.2.2⟩ (Below.refl _ _)
  · have H := Lib.hid (part_no (n := n) (m := m) (d := d) (by unfold partC; omega))
    obtain ⟨h1, h2, h3⟩ := h
    go_enter Try.func23, Try.ntmps23
    go_wp2
    go_ret2
    exact ans2 ⟨H.out.1, H.out.2.2⟩ (Below.refl _ _)
  · obtain ⟨h1, h2, h3⟩ := h
    have H := Lib.hid (part_yes (n := n) (m := m) (d := d) ⟨h1, h2, h3⟩)
    go_enter Try.func23, Try.ntmps23
    go_wp2_with (go_at_call 40; refine (is_any _ _).mono ?_; rintro e w' ⟨rfl, rfl⟩)
    refine (digits_any _ _ (by omega) (by omega)).mono ?_
    rintro e w1 ⟨v1, l1, rfl, S1, D1, V1, L1, B1⟩
    have H1 := Lib.hid V1
    clear V1
    go_wp2_with fail
    refine (digits_any _ _ (by omega) (by omega)).mono ?_
    rintro e w2 ⟨v2, l2, rfl, S2, D2, V2, L2, B2⟩
    have H2 := Lib.hid V2
    clear V2
    go_wp2_with fail
    refine (times_any _ _ l1 l2 7 _ (seg_below S1 B2) S2 D1 D2 (by omega) (by omega) (by omega)).mono ?_
    rintro e w3 ⟨v3, l3, rfl, S3, D3, V3, L3, B3⟩
    have hv3 : dv l3 = n * m := by rw [V3, H1.out, H2.out]
    have H3 := Lib.hid hv3
    clear V3 hv3 H1 H2 S1 S2 D1 D2 L1 L2
    have Bt3 : Below w.heap.size w w3 := (B1.trans (B2.mono B1.size)).trans (B3.mono (Nat.le_trans B1.size B2.size))
    clear B1 B2 B3
    go_wp2_with fail
    refine (quot_any _ l3 _ _ S3 D3 (by omega) (by omega) (by omega)).mono ?_
    rintro e w4 ⟨rfl, B4⟩
    go_wp2_with fail
    go_ret2
    exact ans2 (by rw [H.out.1, H.out.2.2, H3.out]; exact ⟨rfl, rfl⟩) (Bt3.trans (B4.mono Bt3.size))

set_option maxHeartbeats 1600000 in
theorem rpartUp_any (n m d : Int) (w : World) (N0 : -9223372036854775808 ≤ n) (N1 : n ≤ 9223372036854775807) (M0 : -9223372036854775808 ≤ m) (M1 : m ≤ 9223372036854775807) (D0 : -9223372036854775808 ≤ d) (D1 : d ≤ 9223372036854775807) :
    Calls Try.prog 25 #[.int .i64 n, .int .i64 m, .int .i64 d] w fun e w' => Ans2 (partUpN n m d) (partUpB n m d) w w' e := by
  rcases (show n < 0 ∨ (0 ≤ n ∧ m < 0) ∨ (0 ≤ n ∧ 0 ≤ m ∧ d < 1) ∨ (0 ≤ n ∧ 0 ≤ m ∧ 1 ≤ d) by omega) with h | h | h | h
  · have H := Lib.hid (partUp_none (n := n) (m := m) (d := d) (by unfold partC; omega))
    have hn : decide (0 ≤ n) = false := decide_eq_false (by omega)
    go_enter Try.func25, Try.ntmps25
    go_wp2
    go_ret2
    exact ans2 H.out (Below.refl _ _)
  · have H := Lib.hid (partUp_none (n := n) (m := m) (d := d) (by unfold partC; omega))
    obtain ⟨h1, h2⟩ := h
    have hn : decide (0 ≤ m) = false := decide_eq_false (by omega)
    go_enter Try.func25, Try.ntmps25
    go_wp2
    go_ret2
    exact ans2 H.out (Below.refl _ _)
  · have H := Lib.hid (partUp_none (n := n) (m := m) (d := d) (by unfold partC; omega))
    obtain ⟨h1, h2, h3⟩ := h
    go_enter Try.func25, Try.ntmps25
    go_wp2
    go_ret2
    exact ans2 H.out (Below.refl _ _)
  · obtain ⟨h1, h2, h3⟩ := h
    have H := Lib.hid (part_yes (n := n) (m := m) (d := d) ⟨h1, h2, h3⟩)
    have bd := part_bd n m d
    go_enter Try.func25, Try.ntmps25
    go_wp2_with (go_at_call 40; refine (is_any _ _).mono ?_; rintro e w' ⟨rfl, rfl⟩)
    refine (digits_any _ _ (by omega) (by omega)).mono ?_
    rintro e w1 ⟨v1, l1, rfl, S1, D1, V1, L1, B1⟩
    have H1 := Lib.hid V1
    clear V1
    go_wp2_with fail
    refine (digits_any _ _ (by omega) (by omega)).mono ?_
    rintro e w2 ⟨v2, l2, rfl, S2, D2, V2, L2, B2⟩
    have H2 := Lib.hid V2
    clear V2
    go_wp2_with fail
    refine (times_any _ _ l1 l2 7 _ (seg_below S1 B2) S2 D1 D2 (by omega) (by omega) (by omega)).mono ?_
    rintro e w3 ⟨v3, l3, rfl, S3, D3, V3, L3, B3⟩
    have hv3 : dv l3 = n * m := by rw [V3, H1.out, H2.out]
    have H3 := Lib.hid hv3
    clear V3 hv3 H1 H2 S1 S2 D1 D2 L1 L2
    have Bt3 : Below w.heap.size w w3 := (B1.trans (B2.mono B1.size)).trans (B3.mono (Nat.le_trans B1.size B2.size))
    clear B1 B2 B3
    go_wp2_with fail
    refine (quot_any _ l3 _ _ S3 D3 (by omega) (by omega) (by omega)).mono ?_
    rintro e w4 ⟨he, B4⟩
    rw [H3.out, ← H.out.1, ← H.out.2.1, ← H.out.2.2] at he
    subst he
    have Bt4 := Bt3.trans (B4.mono Bt3.size)
    clear H H3 B4 Bt3 D3 S3 L3
    by_cases hr : partR n m d = true
    · have ho := part_rest hr
      by_cases hm : partN n m d = 9223372036854775807
      · have H := Lib.hid (partUp_max hr hm)
        have hm' : (partN n m d == 9223372036854775807) = true := by simp [hm]
        clear hm
        go_wp2_with fail
        go_ret2
        exact ans2 H.out Bt4
      · have H := Lib.hid (partUp_more hr (by omega))
        have hm' : (partN n m d == 9223372036854775807) = false := by simp [hm]
        have hm2 : partN n m d ≤ 9223372036854775806 := by omega
        go_wp2_with fail
        go_ret2
        exact ans2 H.out Bt4
    · have hr' : partR n m d = false := by simpa using hr
      have H := Lib.hid (partUp_flat hr')
      clear hr
      by_cases ho : partB n m d = true
      · go_wp2_with fail
        go_ret2
        exact ans2 (by rw [H.out.1, H.out.2, ho]; exact ⟨rfl, rfl⟩) Bt4
      · have ho' : partB n m d = false := by simpa using ho
        clear ho
        go_wp2_with fail
        go_ret2
        exact ans2 (by rw [H.out.1, H.out.2, ho']; exact ⟨rfl, rfl⟩) Bt4

set_option maxHeartbeats 1600000 in
theorem rord_any (a b c d : Int) (w : World) (A0 : -9223372036854775808 ≤ a) (A1 : a ≤ 9223372036854775807) (B0 : -9223372036854775808 ≤ b) (B1 : b ≤ 9223372036854775807) (C0 : -9223372036854775808 ≤ c) (C1 : c ≤ 9223372036854775807) (D0 : -9223372036854775808 ≤ d) (D1 : d ≤ 9223372036854775807) :
    Calls Try.prog 27 #[.int .i64 a, .int .i64 b, .int .i64 c, .int .i64 d] w fun e w' => Ans2 (ordN a b c d) (ordB a b c d) w w' e := by
  rcases (show a < 0 ∨ (0 ≤ a ∧ b < 0) ∨ (0 ≤ a ∧ 0 ≤ b ∧ c < 0) ∨ (0 ≤ a ∧ 0 ≤ b ∧ 0 ≤ c ∧ d < 0) ∨ (0 ≤ a ∧ 0 ≤ b ∧ 0 ≤ c ∧ 0 ≤ d) by omega) with h | h | h | h | h
  · have H := Lib.hid (ord_no (a := a) (b := b) (c := c) (d := d) (by unfold ordC; omega))
    have hn : decide (0 ≤ a) = false := decide_eq_false (by omega)
    go_enter Try.func27, Try.ntmps27
    go_wp2
    go_ret2
    exact ans2 H.out (Below.refl _ _)
  · have H := Lib.hid (ord_no (a := a) (b := b) (c := c) (d := d) (by unfold ordC; omega))
    obtain ⟨h1, h2⟩ := h
    have hn : decide (0 ≤ b) = false := decide_eq_false (by omega)
    go_enter Try.func27, Try.ntmps27
    go_wp2
    go_ret2
    exact ans2 H.out (Below.refl _ _)
  · have H := Lib.hid (ord_no (a := a) (b := b) (c := c) (d := d) (by unfold ordC; omega))
    obtain ⟨h1, h2, h3⟩ := h
    have hn : decide (0 ≤ c) = false := decide_eq_false (by omega)
    go_enter Try.func27, Try.ntmps27
    go_wp2
    go_ret2
    exact ans2 H.out (Below.refl _ _)
  · have H := Lib.hid (ord_no (a := a) (b := b) (c := c) (d := d) (by unfold ordC; omega))
    obtain ⟨h1, h2, h3, h4⟩ := h
    have hn : decide (0 ≤ d) = false := decide_eq_false (by omega)
    go_enter Try.func27, Try.ntmps27
    go_wp2
    go_ret2
    exact ans2 H.out (Below.refl _ _)
  · obtain ⟨h1, h2, h3, h4⟩ := h
    have H := Lib.hid (ord_yes (a := a) (b := b) (c := c) (d := d) ⟨h1, h2, h3, h4⟩)
    go_enter Try.func27, Try.ntmps27
    go_wp2_with (go_at_call 40; refine (is_any _ _).mono ?_; rintro e w' ⟨rfl, rfl⟩)
    refine (digits_any _ _ (by omega) (by omega)).mono ?_
    rintro e w1 ⟨v1, l1, rfl, S1, D1, V1, L1, B1⟩
    have H1 := Lib.hid V1
    clear V1
    go_wp2_with fail
    refine (digits_any _ _ (by omega) (by omega)).mono ?_
    rintro e w2 ⟨v2, l2, rfl, S2, D2, V2, L2, B2⟩
    have H2 := Lib.hid V2
    clear V2
    go_wp2_with fail
    refine (times_any _ _ l1 l2 7 _ (seg_below S1 B2) S2 D1 D2 (by omega) (by omega) (by omega)).mono ?_
    rintro e w3 ⟨v3, l3, rfl, S3, D3, V3, L3, B3⟩
    have hv3 : dv l3 = a * b := by rw [V3, H1.out, H2.out]
    have H3 := Lib.hid hv3
    clear V3 hv3 H1 H2 S1 S2 D1 D2 L1 L2
    have Bt3 : Below w.heap.size w w3 := (B1.trans (B2.mono B1.size)).trans (B3.mono (Nat.le_trans B1.size B2.size))
    clear B1 B2 B3
    go_wp2_with fail
    refine (digits_any _ _ (by omega) (by omega)).mono ?_
    rintro e w4 ⟨v4, l4, rfl, S4, D4, V4, L4, B4⟩
    have H4 := Lib.hid V4
    clear V4
    go_wp2_with fail
    refine (digits_any _ _ (by omega) (by omega)).mono ?_
    rintro e w5 ⟨v5, l5, rfl, S5, D5, V5, L5, B5⟩
    have H5 := Lib.hid V5
    clear V5
    go_wp2_with fail
    refine (times_any _ _ l4 l5 7 _ (seg_below S4 B5) S5 D4 D5 (by omega) (by omega) (by omega)).mono ?_
    rintro e w6 ⟨v6, l6, rfl, S6, D6, V6, L6, B6⟩
    have hv6 : dv l6 = c * d := by rw [V6, H4.out, H5.out]
    have H6 := Lib.hid hv6
    clear V6 hv6 H4 H5 S4 S5 D4 D5 L4 L5
    have Bt6 : Below w3.heap.size w3 w6 := (B4.trans (B5.mono B4.size)).trans (B6.mono (Nat.le_trans B4.size B5.size))
    clear B4 B5 B6
    go_wp2_with fail
    refine (less_any _ _ l3 l6 _ (seg_below S3 Bt6) S6 D3 D6 (by omega) (by omega)).mono ?_
    rintro e w7 ⟨rfl, rfl⟩
    go_wp2_with fail
    go_ret2
    exact ans2 (by rw [H.out.1, H.out.2, H3.out, H6.out]; exact ⟨rfl, rfl⟩) (Bt3.trans (Bt6.mono Bt3.size))

end Go.Proofs.Ytjhkflkffbdafaa
