/- The project's package twig: each call answers what the plain numbers say, and nothing that was there before is changed. -/
import Derived.Test.YtomhikjohgiloaaRk
import Derived.Test.YtomhikjohgiloaaCore
namespace Go.Proofs.Ytomhikjohgiloaa
set_option linter.unusedVariables false
open Go.RowKit

theorem universe_any (l : Int) (w : World) (L0 : -9223372036854775808 ≤ l) (L1 : l ≤ 9223372036854775807) :
    Calls Try.prog 91 #[.int .i64 l] w fun e w' => e = .returned (.bool (uniB l)) ∧ w = w' := by
  rcases (show l < 1 ∨ (1 ≤ l ∧ 48 < l) ∨ (1 ≤ l ∧ l ≤ 48) by omega) with h | h | h
  · have H := Lib.hid (uni_no (l := l) (by omega))
    go_enter Try.func91, Try.ntmps91
    go_wp2_with fail
    go_ret
    exact ⟨by rw [H.out]; rfl, rfl⟩
  · have H := Lib.hid (uni_no (l := l) (by omega))
    obtain ⟨h1, h2⟩ := h
    go_enter Try.func91, Try.ntmps91
    go_wp2_with fail
    go_ret
    exact ⟨ret_b (by rw [H.out]; exact decide_eq_false (by omega)), rfl⟩
  · have H := Lib.hid (uni_yes (l := l) (by omega))
    obtain ⟨h1, h2⟩ := h
    go_enter Try.func91, Try.ntmps91
    go_wp2_with fail
    go_ret
    exact ⟨by rw [H.out]; rfl, rfl⟩
theorem depth_any (id : Int) (w : World) (N0 : -9223372036854775808 ≤ id) (N1 : id ≤ 9223372036854775807) :
    Calls Try.prog 90 #[.int .i64 id] w fun e w' => e = .returned (.tuple #[.int .i64 (logN id), .bool (logB id)]) ∧ w = w' := by
  go_enter Try.func90, Try.ntmps90
  go_wp2_with fail
  refine (log_any _ _ N0 N1).mono ?_
  rintro e w1 ⟨rfl, rfl⟩
  go_wp2_with fail
  go_ret2
  exact ⟨rfl, rfl⟩
set_option maxHeartbeats 400000 in
theorem right_any (l id : Int) (w : World) (L0 : -9223372036854775808 ≤ l) (L1 : l ≤ 9223372036854775807) (N0 : -9223372036854775808 ≤ id) (N1 : id ≤ 9223372036854775807) :
    Calls Try.prog 58 #[.int .i64 l, .int .i64 id] w fun e w' => e = .returned (.bool (rightB l id)) ∧ w = w' := by
  rcases (show ¬ 1 ≤ id ∨ (1 ≤ id ∧ ¬ (1 ≤ l ∧ l ≤ 48)) ∨ (1 ≤ id ∧ 1 ≤ l ∧ l ≤ 48 ∧ ¬ logN id ≤ l) ∨ (1 ≤ id ∧ 1 ≤ l ∧ l ≤ 48 ∧ logN id ≤ l) by omega) with h | h | h | h
  · have H := Lib.hid (right_no (l := l) (id := id) (by unfold RightC; omega))
    have hb := (log_no h).2
    clear h
    go_enter Try.func58, Try.ntmps58
    go_wp2_with (go_at_call 90; refine (depth_any _ _ N0 N1).mono ?_; rintro e w1 ⟨rfl, rfl⟩)
    go_ret
    exact ⟨by rw [H.out]; rfl, rfl⟩
  · have H := Lib.hid (right_no (l := l) (id := id) (by unfold RightC; omega))
    have hb := (log_yes h.1).2
    have hu := uni_no h.2
    clear h
    go_enter Try.func58, Try.ntmps58
    go_wp2_with (first | (go_at_call 90; refine (depth_any _ _ N0 N1).mono ?_; rintro e w1 ⟨rfl, rfl⟩) | (go_at_call 91; refine (universe_any _ _ L0 L1).mono ?_; rintro e w1 ⟨rfl, rfl⟩))
    go_ret
    exact ⟨by rw [H.out]; rfl, rfl⟩
  · have H := Lib.hid (right_no (l := l) (id := id) (by unfold RightC; omega))
    have hb := (log_yes h.1).2
    have hu := uni_yes ⟨h.2.1, h.2.2.1⟩
    have hd : l < logN id := by omega
    clear h
    go_enter Try.func58, Try.ntmps58
    go_wp2_with (first | (go_at_call 90; refine (depth_any _ _ N0 N1).mono ?_; rintro e w1 ⟨rfl, rfl⟩) | (go_at_call 91; refine (universe_any _ _ L0 L1).mono ?_; rintro e w1 ⟨rfl, rfl⟩))
    go_ret
    exact ⟨ret_b (by rw [H.out]; exact decide_eq_false (by omega)), rfl⟩
  · have H := Lib.hid (right_yes (l := l) (id := id) (by unfold RightC; omega))
    have hb := (log_yes h.1).2
    have hu := uni_yes ⟨h.2.1, h.2.2.1⟩
    have hd := h.2.2.2
    clear h
    go_enter Try.func58, Try.ntmps58
    go_wp2_with (first | (go_at_call 90; refine (depth_any _ _ N0 N1).mono ?_; rintro e w1 ⟨rfl, rfl⟩) | (go_at_call 91; refine (universe_any _ _ L0 L1).mono ?_; rintro e w1 ⟨rfl, rfl⟩))
    go_ret
    exact ⟨by rw [H.out]; rfl, rfl⟩

end Go.Proofs.Ytomhikjohgiloaa
