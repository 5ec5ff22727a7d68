/- The document's answer for layer twig: each call answers what the plain numbers say, and nothing that was there before is changed. -/
import Derived.Test.YtabbpcpnabecmaaTw
namespace Go.Proofs.Ytabbpcpnabecmaa
set_option linter.unusedVariables false
open Go.RowKit

theorem rIs_any (l : Int) (w : World) (L0 : -9223372036854775808 ≤ l) (L1 : l ≤ 9223372036854775807) :
    Calls Try.prog 41 #[.int .i64 l] w fun e w' => e = .returned (.bool (uniB l)) ∧ w = w' := by
  rcases (show l < 1 ∨ (1 ≤ l ∧ 48 < l) ∨ (1 ≤ l ∧ l ≤ 48) by omega) with h | h | h
  · have H := Lib.hid (uni_no (l := l) (by omega))
    go_enter Try.func41, Try.ntmps41
    go_wp2_with fail
    go_ret
    exact ⟨by rw [H.out]; rfl, rfl⟩
  · have H := Lib.hid (uni_no (l := l) (by omega))
    obtain ⟨h1, h2⟩ := h
    go_enter Try.func41, Try.ntmps41
    go_wp2_with fail
    go_ret
    exact ⟨ret_b (by rw [H.out]; exact decide_eq_false (by omega)), rfl⟩
  · have H := Lib.hid (uni_yes (l := l) (by omega))
    obtain ⟨h1, h2⟩ := h
    go_enter Try.func41, Try.ntmps41
    go_wp2_with fail
    go_ret
    exact ⟨by rw [H.out]; rfl, rfl⟩
set_option maxHeartbeats 400000 in
theorem rdepth_any (n : Int) (w : World) (N0 : -9223372036854775808 ≤ n) (N1 : n ≤ 9223372036854775807) :
    Calls Try.prog 62 #[.int .i64 n] w fun e w' => e = .returned (.tuple #[.int .i64 (logN n), .bool (logB n)]) ∧ w = w' := by
  by_cases h : 1 ≤ n
  · have H := Lib.hid (log_yes h)
    go_enter Try.func62, Try.ntmps62
    go_wp2_with fail
    go_loop [0, 4] (fun mv ev => ∃ m e : Int, mv = .int .i64 m ∧ ev = .int .i64 e ∧ 1 ≤ m ∧ m ≤ 9223372036854775807 ∧ 0 ≤ e ∧ e ≤ 64 ∧ Hid ((Lib.bitLen n.toNat : Int) = Lib.bitLen m.toNat + e)) (fun mv _ => (intOf mv).toNat)
    case atStart => exact ⟨n, 0, rfl, rfl, h, N1, by decide, by decide, by show _ = _; omega⟩
    case round =>
      obtain ⟨m, e, rfl, rfl, m0, m1, e0, e1, HE⟩ := hrel
      by_cases hm : 1 < m
      · have hf := Lib.bitLen_half m.toNat (by omega) (by omega)
        have hbn := Lib.bitLen_le n.toNat 64 (by omega) (by omega)
        have e2 : (m / 2).toNat = m.toNat / 2 := by omega
        have HN : Hid ((Lib.bitLen n.toNat : Int) = Lib.bitLen (m / 2).toNat + (e + 1)) := by
          have := HE.out; show _ = _; rw [e2]; omega
        have e3 : e + 1 ≤ 64 := by have := HE.out; omega
        clear hf e2 hbn
        go_wp2_with fail
        go_round
        case rel => exact ⟨m / 2, e + 1, rfl, rfl, by omega, by omega, by omega, by omega, HN.out⟩
        case measure => simp [intOf]; omega
      · have hm1 : m = 1 := by omega
        have HF : Hid (logN n = e ∧ logB n = true) := by
          have := HE.out; rw [hm1] at this
          have h1 : Lib.bitLen (1 : Int).toNat = 1 := by decide
          rw [h1] at this
          exact ⟨by rw [H.out.1]; omega, H.out.2⟩
        clear hm1
        go_wp2_with fail
        go_ret2
        exact ⟨by rw [HF.out.1, HF.out.2]; rfl, rfl⟩
  · have H := Lib.hid (log_no h)
    go_enter Try.func62, Try.ntmps62
    go_wp2_with fail
    go_ret2
    exact ⟨by rw [H.out.1, H.out.2]; rfl, rfl⟩
set_option maxHeartbeats 800000 in
theorem rright_any (l id : Int) (w : World) (L0 : -9223372036854775808 ≤ l) (L1 : l ≤ 9223372036854775807) (N0 : -9223372036854775808 ≤ id) (N1 : id ≤ 9223372036854775807) :
    Calls Try.prog 40 #[.int .i64 l, .int .i64 id] w fun e w' => e = .returned (.bool (rightB l id)) ∧ w = w' := by
  rcases (show ¬ (1 ≤ l ∧ l ≤ 48) ∨ ((1 ≤ l ∧ l ≤ 48) ∧ ¬ 1 ≤ id) ∨ ((1 ≤ l ∧ l ≤ 48) ∧ 1 ≤ id ∧ l < logN id) ∨ ((1 ≤ l ∧ l ≤ 48) ∧ 1 ≤ id ∧ logN id ≤ l) by omega) with h | h | h | h
  · have H := Lib.hid (right_no (l := l) (id := id) (by unfold RightC; omega))
    have hu := uni_no h
    clear h
    go_enter Try.func40, Try.ntmps40
    go_wp2_with (first | (go_at_call 62; refine (rdepth_any _ _ (by omega) (by omega)).mono ?_; rintro e w1 ⟨rfl, rfl⟩) | (go_at_call 41; refine (rIs_any _ _ (by omega) (by omega)).mono ?_; rintro e w1 ⟨rfl, rfl⟩))
    go_ret
    exact ⟨by rw [H.out]; rfl, rfl⟩
  · have H := Lib.hid (right_no (l := l) (id := id) (by unfold RightC; omega))
    have hu := uni_yes h.1
    have hb := (log_no h.2).2
    clear h
    go_enter Try.func40, Try.ntmps40
    go_wp2_with (first | (go_at_call 62; refine (rdepth_any _ _ (by omega) (by omega)).mono ?_; rintro e w1 ⟨rfl, rfl⟩) | (go_at_call 41; refine (rIs_any _ _ (by omega) (by omega)).mono ?_; rintro e w1 ⟨rfl, rfl⟩))
    go_ret
    exact ⟨by rw [H.out]; rfl, rfl⟩
  · have H := Lib.hid (right_no (l := l) (id := id) (by unfold RightC; omega))
    have hu := uni_yes h.1
    have hb := (log_yes h.2.1).2
    have hd := h.2.2
    clear h
    go_enter Try.func40, Try.ntmps40
    go_wp2_with (first | (go_at_call 62; refine (rdepth_any _ _ (by omega) (by omega)).mono ?_; rintro e w1 ⟨rfl, rfl⟩) | (go_at_call 41; refine (rIs_any _ _ (by omega) (by omega)).mono ?_; rintro e w1 ⟨rfl, rfl⟩))
    go_ret
    exact ⟨ret_b (by rw [H.out]; exact decide_eq_false (by omega)), rfl⟩
  · have H := Lib.hid (right_yes (l := l) (id := id) (by unfold RightC; omega))
    have hu := uni_yes h.1
    have hb := (log_yes h.2.1).2
    have hd := h.2.2
    clear h
    go_enter Try.func40, Try.ntmps40
    go_wp2_with (first | (go_at_call 62; refine (rdepth_any _ _ (by omega) (by omega)).mono ?_; rintro e w1 ⟨rfl, rfl⟩) | (go_at_call 41; refine (rIs_any _ _ (by omega) (by omega)).mono ?_; rintro e w1 ⟨rfl, rfl⟩))
    go_ret
    exact ⟨by rw [H.out]; rfl, rfl⟩
set_option maxHeartbeats 400000 in
theorem rabove_any (a b : Int) (w : World) (A0 : -9223372036854775808 ≤ a) (A1 : a ≤ 9223372036854775807) (B0 : -9223372036854775808 ≤ b) (B1 : b ≤ 9223372036854775807) :
    Calls Try.prog 39 #[.int .i64 a, .int .i64 b] w fun e w' => e = .returned (.bool (aboveB a b)) ∧ w = w' := by
  by_cases h : 1 ≤ a
  · go_enter Try.func39, Try.ntmps39
    go_wp2_with fail
    go_loop [1] (fun bv => ∃ y : Int, bv = .int .i64 y ∧ -9223372036854775808 ≤ y ∧ y ≤ 9223372036854775807 ∧ Hid (aboveB a b = aboveB a y)) (fun bv => (intOf bv).toNat)
    case atStart => exact ⟨b, rfl, B0, B1, rfl⟩
    case round =>
      obtain ⟨y, rfl, y0, y1, HY⟩ := hrel
      by_cases hy : a < y
      · have HN := Lib.hid (HY.out.trans (above_step h hy y1))
        go_wp2_with fail
        go_round
        case rel => exact ⟨y / 2, rfl, by omega, by omega, HN.out⟩
        case measure => simp [intOf]; omega
      · have HF := Lib.hid (HY.out.trans (above_end h (by omega) A1))
        go_wp2_with fail
        go_ret
        exact ⟨ret_b (by rw [HF.out]), rfl⟩
  · have H := Lib.hid (above_no (a := a) (b := b) (by omega))
    go_enter Try.func39, Try.ntmps39
    go_wp2_with fail
    go_ret
    exact ⟨by rw [H.out]; rfl, rfl⟩

end Go.Proofs.Ytabbpcpnabecmaa
