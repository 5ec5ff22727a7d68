/- The project's package twig: each call answers what the plain numbers say, and nothing that was there before is changed. -/
import Derived.Test.YtfleaaokbjgljaaRk
import Derived.Test.YtfleaaokbjgljaaCore
namespace Go.Proofs.Ytfleaaokbjgljaa
set_option linter.unusedVariables false
open Go.RowKit

theorem universe_any (l : Int) (w : World) (L0 : -9223372036854775808 ≤ l) (L1 : l ≤ 9223372036854775807) :
    Calls Try.prog 48 #[.int .i64 l] w fun e w' => e = .returned (.bool (uniB l)) ∧ w = w' := by
  rcases (show l < 1 ∨ (1 ≤ l ∧ 48 < l) ∨ (1 ≤ l ∧ l ≤ 48) by omega) with h | h | h
  · have H := Lib.hid (uni_no (l := l) (by omega))
    go_enter Try.func48, Try.ntmps48
    go_wp2_with fail
    go_ret
    exact ⟨by rw [H.out]; rfl, rfl⟩
  · have H := Lib.hid (uni_no (l := l) (by omega))
    obtain ⟨h1, h2⟩ := h
    go_enter Try.func48, Try.ntmps48
    go_wp2_with fail
    go_ret
    exact ⟨ret_b (by rw [H.out]; exact decide_eq_false (by omega)), rfl⟩
  · have H := Lib.hid (uni_yes (l := l) (by omega))
    obtain ⟨h1, h2⟩ := h
    go_enter Try.func48, Try.ntmps48
    go_wp2_with fail
    go_ret
    exact ⟨by rw [H.out]; rfl, rfl⟩
set_option maxHeartbeats 400000 in
theorem leaf_any (l x : Int) (w : World) (L0 : -9223372036854775808 ≤ l) (L1 : l ≤ 9223372036854775807) (X0 : -9223372036854775808 ≤ x) (X1 : x ≤ 9223372036854775807) :
    Calls Try.prog 38 #[.int .i64 l, .int .i64 x] w fun e w' => e = .returned (.tuple #[.int .i64 (leafN l x), .bool (leafB l x)]) ∧ w = w' := by
  rcases (show ¬ (1 ≤ l ∧ l ≤ 48) ∨ ((1 ≤ l ∧ l ≤ 48) ∧ x < 0) ∨ ((1 ≤ l ∧ l ≤ 48) ∧ 0 ≤ x ∧ 2 ^ l.toNat ≤ x) ∨ ((1 ≤ l ∧ l ≤ 48) ∧ 0 ≤ x ∧ x < 2 ^ l.toNat) by omega) with h | h | h | h
  · have H := Lib.hid (leaf_no (l := l) (x := x) (by unfold ValC; omega))
    have hu := uni_no h
    clear h
    go_enter Try.func38, Try.ntmps38
    go_wp2_with (go_at_call 48; refine (universe_any _ _ L0 L1).mono ?_; rintro e w1 ⟨rfl, rfl⟩)
    go_ret2
    exact ⟨by rw [H.out.1, H.out.2]; rfl, rfl⟩
  all_goals
    have hu := uni_yes h.1
    have b1 : (2 : Int) ^ l.toNat ≤ 281474976710656 := two_le l.toNat 48 (by omega)
    have b0 : (0 : Int) < 2 ^ l.toNat := two_pos _
    obtain ⟨h1, h2⟩ := h.1
  · have H := Lib.hid (leaf_no (l := l) (x := x) (by unfold ValC; omega))
    have h3 := h.2
    clear h
    go_enter Try.func38, Try.ntmps38
    go_wp2_with (go_at_call 48; refine (universe_any _ _ L0 L1).mono ?_; rintro e w1 ⟨rfl, rfl⟩)
    go_ret2
    exact ⟨by rw [H.out.1, H.out.2]; rfl, rfl⟩
  · have H := Lib.hid (leaf_no (l := l) (x := x) (by unfold ValC; omega))
    obtain ⟨_, h3, h4⟩ := h
    go_enter Try.func38, Try.ntmps38
    go_wp2_with (go_at_call 48; refine (universe_any _ _ L0 L1).mono ?_; rintro e w1 ⟨rfl, rfl⟩)
    go_ret2
    exact ⟨by rw [H.out.1, H.out.2]; rfl, rfl⟩
  · have H := Lib.hid (leaf_yes (l := l) (x := x) (by unfold ValC; omega))
    obtain ⟨_, h3, h4⟩ := h
    go_enter Try.func38, Try.ntmps38
    go_wp2_with (go_at_call 48; refine (universe_any _ _ L0 L1).mono ?_; rintro e w1 ⟨rfl, rfl⟩)
    go_ret2
    exact ⟨by rw [H.out.1, H.out.2]; rfl, rfl⟩

end Go.Proofs.Ytfleaaokbjgljaa
