/- Texts laid together: TwRef, RoRef, RoRef2, RoRef3. -/
import Derived.Test.YtachfeclgdgbiaaGreatTw
import Derived.Test.YtachfeclgdgbiaaGreatRoQ
import Derived.Test.YtachfeclgdgbiaaGreatMmy
import Derived.Laws.AppendOwnNone
/- The document's answer for layer twig: each call answers what the plain numbers say, and nothing that was there before is changed. -/
namespace Go.Proofs.YtachfeclgdgbiaaGreat
set_option linter.unusedVariables false
open Go.RowKit

theorem rIs_any (l : Int) (w : World) (L0 : -9223372036854775808 ≤ l) (L1 : l ≤ 9223372036854775807) :
    Calls Tryz.prog 114 #[.int .i64 l] w fun e w' => e = .returned (.bool (uniB l)) ∧ w = w' := by
  rcases (show l < 1 ∨ (1 ≤ l ∧ 48 < l) ∨ (1 ≤ l ∧ l ≤ 48) by omega) with h | h | h
  · have H := Lib.hid (uni_no (l := l) (by omega))
    go_enter Tryz.func114, Tryz.ntmps114
    go_wp2_with fail
    go_ret
    exact ⟨by rw [H.out]; rfl, rfl⟩
  · have H := Lib.hid (uni_no (l := l) (by omega))
    obtain ⟨h1, h2⟩ := h
    go_enter Tryz.func114, Tryz.ntmps114
    go_wp2_with fail
    go_ret
    exact ⟨ret_b (by rw [H.out]; exact decide_eq_false (by omega)), rfl⟩
  · have H := Lib.hid (uni_yes (l := l) (by omega))
    obtain ⟨h1, h2⟩ := h
    go_enter Tryz.func114, Tryz.ntmps114
    go_wp2_with fail
    go_ret
    exact ⟨by rw [H.out]; rfl, rfl⟩
set_option maxHeartbeats 400000 in
theorem rpower_any (n : Int) (w : World) (h1 : 0 ≤ n) (h2 : n ≤ 62) :
    Calls Tryz.prog 59 #[.int .i64 n] w fun e w' => e = .returned (.int .i64 (2 ^ n.toNat)) ∧ w = w' := by
  go_enter Tryz.func59, Tryz.ntmps59
  go_wp2_with fail
  go_loop [3, 4] (fun nv iv => ∃ (p : Int) (i : Nat), nv = .int .i64 p ∧ iv = .int .i64 i ∧ (i : Int) ≤ n ∧ 1 ≤ p ∧ Hid (p = 2 ^ i)) (fun _ iv => (n - intOf iv).toNat)
  case atStart => exact ⟨1, 0, rfl, rfl, h1, by decide, by show _ = _; rfl⟩
  case round =>
    obtain ⟨p, i, rfl, rfl, i1, p0, HP⟩ := hrel
    by_cases hi : (i : Int) < n
    · have b1 : p ≤ 2305843009213693952 := by rw [HP.out]; exact two_le i 61 (by omega)
      have HN : Hid (2 * p = 2 ^ (i + 1)) := by show _ = _; rw [two_succ, ← HP.out]
      go_wp2_with fail
      go_round
      case rel => exact ⟨2 * p, i + 1, by go_num, by go_num, by omega, by omega, HN.out⟩
      case measure => simp [intOf]; omega
    · have HF : Hid (2 ^ n.toNat = p) := by
        have e2 : i = n.toNat := by omega
        show _ = _; rw [HP.out, e2]
      go_wp2_with fail
      go_ret
      exact ⟨by rw [HF.out]; rfl, rfl⟩
set_option maxHeartbeats 400000 in
theorem rdepth_any (n : Int) (w : World) (N0 : -9223372036854775808 ≤ n) (N1 : n ≤ 9223372036854775807) :
    Calls Tryz.prog 71 #[.int .i64 n] w fun e w' => e = .returned (.tuple #[.int .i64 (logN n), .bool (logB n)]) ∧ w = w' := by
  by_cases h : 1 ≤ n
  · have H := Lib.hid (log_yes h)
    go_enter Tryz.func71, Tryz.ntmps71
    go_wp2_with fail
    go_loop [0, 4] (fun mv ev => ∃ m e : Int, mv = .int .i64 m ∧ ev = .int .i64 e ∧ 1 ≤ m ∧ m ≤ 9223372036854775807 ∧ 0 ≤ e ∧ e ≤ 64 ∧ Hid ((Lib.bitLen n.toNat : Int) = Lib.bitLen m.toNat + e)) (fun mv _ => (intOf mv).toNat)
    case atStart => exact ⟨n, 0, rfl, rfl, h, N1, by decide, by decide, by show _ = _; omega⟩
    case round =>
      obtain ⟨m, e, rfl, rfl, m0, m1, e0, e1, HE⟩ := hrel
      by_cases hm : 1 < m
      · have hf := Lib.bitLen_half m.toNat (by omega) (by omega)
        have hbn := Lib.bitLen_le n.toNat 64 (by omega) (by omega)
        have e2 : (m / 2).toNat = m.toNat / 2 := by omega
        have HN : Hid ((Lib.bitLen n.toNat : Int) = Lib.bitLen (m / 2).toNat + (e + 1)) := by
          have := HE.out; show _ = _; rw [e2]; omega
        have e3 : e + 1 ≤ 64 := by have := HE.out; omega
        clear hf e2 hbn
        go_wp2_with fail
        go_round
        case rel => exact ⟨m / 2, e + 1, rfl, rfl, by omega, by omega, by omega, by omega, HN.out⟩
        case measure => simp [intOf]; omega
      · have hm1 : m = 1 := by omega
        have HF : Hid (logN n = e ∧ logB n = true) := by
          have := HE.out; rw [hm1] at this
          have h1 : Lib.bitLen (1 : Int).toNat = 1 := by decide
          rw [h1] at this
          exact ⟨by rw [H.out.1]; omega, H.out.2⟩
        clear hm1
        go_wp2_with fail
        go_ret2
        exact ⟨by rw [HF.out.1, HF.out.2]; rfl, rfl⟩
  · have H := Lib.hid (log_no h)
    go_enter Tryz.func71, Tryz.ntmps71
    go_wp2_with fail
    go_ret2
    exact ⟨by rw [H.out.1, H.out.2]; rfl, rfl⟩
set_option maxHeartbeats 800000 in
theorem rright_any (l id : Int) (w : World) (L0 : -9223372036854775808 ≤ l) (L1 : l ≤ 9223372036854775807) (N0 : -9223372036854775808 ≤ id) (N1 : id ≤ 9223372036854775807) :
    Calls Tryz.prog 86 #[.int .i64 l, .int .i64 id] w fun e w' => e = .returned (.bool (rightB l id)) ∧ w = w' := by
  rcases (show ¬ (1 ≤ l ∧ l ≤ 48) ∨ ((1 ≤ l ∧ l ≤ 48) ∧ ¬ 1 ≤ id) ∨ ((1 ≤ l ∧ l ≤ 48) ∧ 1 ≤ id ∧ l < logN id) ∨ ((1 ≤ l ∧ l ≤ 48) ∧ 1 ≤ id ∧ logN id ≤ l) by omega) with h | h | h | h
  · have H := Lib.hid (right_no (l := l) (id := id) (by unfold RightC; omega))
    have hu := uni_no h
    clear h
    go_enter Tryz.func86, Tryz.ntmps86
    go_wp2_with (first | (go_at_call 71; refine (rdepth_any _ _ (by omega) (by omega)).mono ?_; rintro e w1 ⟨rfl, rfl⟩) | (go_at_call 114; refine (rIs_any _ _ (by omega) (by omega)).mono ?_; rintro e w1 ⟨rfl, rfl⟩))
    go_ret
    exact ⟨by rw [H.out]; rfl, rfl⟩
  · have H := Lib.hid (right_no (l := l) (id := id) (by unfold RightC; omega))
    have hu := uni_yes h.1
    have hb := (log_no h.2).2
    clear h
    go_enter Tryz.func86, Tryz.ntmps86
    go_wp2_with (first | (go_at_call 71; refine (rdepth_any _ _ (by omega) (by omega)).mono ?_; rintro e w1 ⟨rfl, rfl⟩) | (go_at_call 114; refine (rIs_any _ _ (by omega) (by omega)).mono ?_; rintro e w1 ⟨rfl, rfl⟩))
    go_ret
    exact ⟨by rw [H.out]; rfl, rfl⟩
  · have H := Lib.hid (right_no (l := l) (id := id) (by unfold RightC; omega))
    have hu := uni_yes h.1
    have hb := (log_yes h.2.1).2
    have hd := h.2.2
    clear h
    go_enter Tryz.func86, Tryz.ntmps86
    go_wp2_with (first | (go_at_call 71; refine (rdepth_any _ _ (by omega) (by omega)).mono ?_; rintro e w1 ⟨rfl, rfl⟩) | (go_at_call 114; refine (rIs_any _ _ (by omega) (by omega)).mono ?_; rintro e w1 ⟨rfl, rfl⟩))
    go_ret
    exact ⟨ret_b (by rw [H.out]; exact decide_eq_false (by omega)), rfl⟩
  · have H := Lib.hid (right_yes (l := l) (id := id) (by unfold RightC; omega))
    have hu := uni_yes h.1
    have hb := (log_yes h.2.1).2
    have hd := h.2.2
    clear h
    go_enter Tryz.func86, Tryz.ntmps86
    go_wp2_with (first | (go_at_call 71; refine (rdepth_any _ _ (by omega) (by omega)).mono ?_; rintro e w1 ⟨rfl, rfl⟩) | (go_at_call 114; refine (rIs_any _ _ (by omega) (by omega)).mono ?_; rintro e w1 ⟨rfl, rfl⟩))
    go_ret
    exact ⟨by rw [H.out]; rfl, rfl⟩
set_option maxHeartbeats 400000 in
theorem rleaf_any (l x : Int) (w : World) (L0 : -9223372036854775808 ≤ l) (L1 : l ≤ 9223372036854775807) (X0 : -9223372036854775808 ≤ x) (X1 : x ≤ 9223372036854775807) :
    Calls Tryz.prog 80 #[.int .i64 l, .int .i64 x] w fun e w' => e = .returned (.tuple #[.int .i64 (leafN l x), .bool (leafB l x)]) ∧ w = w' := by
  rcases (show ¬ (1 ≤ l ∧ l ≤ 48) ∨ ((1 ≤ l ∧ l ≤ 48) ∧ x < 0) ∨ ((1 ≤ l ∧ l ≤ 48) ∧ 0 ≤ x ∧ 2 ^ l.toNat ≤ x) ∨ ((1 ≤ l ∧ l ≤ 48) ∧ 0 ≤ x ∧ x < 2 ^ l.toNat) by omega) with h | h | h | h
  · have H := Lib.hid (leaf_no (l := l) (x := x) (by unfold ValC; omega))
    have hu := uni_no h
    clear h
    go_enter Tryz.func80, Tryz.ntmps80
    go_wp2_with (go_at_call 114; refine (rIs_any _ _ (by omega) (by omega)).mono ?_; rintro e w1 ⟨rfl, rfl⟩)
    go_ret2
    exact ⟨by rw [H.out.1, H.out.2]; rfl, rfl⟩
  all_goals
    have hu := uni_yes h.1
    have b1 : (2 : Int) ^ l.toNat ≤ 281474976710656 := two_le l.toNat 48 (by omega)
    have b0 : (0 : Int) < 2 ^ l.toNat := two_pos _
    obtain ⟨h1, h2⟩ := h.1
  · have H := Lib.hid (leaf_no (l := l) (x := x) (by unfold ValC; omega))
    have h3 := h.2
    clear h
    go_enter Tryz.func80, Tryz.ntmps80
    go_wp2_with (first | (go_at_call 114; refine (rIs_any _ _ (by omega) (by omega)).mono ?_; rintro e w1 ⟨rfl, rfl⟩) | (go_at_call 59; refine (rpower_any _ _ (by omega) (by omega)).mono ?_; rintro e w1 ⟨rfl, rfl⟩))
    go_ret2
    exact ⟨by rw [H.out.1, H.out.2]; rfl, rfl⟩
  · have H := Lib.hid (leaf_no (l := l) (x := x) (by unfold ValC; omega))
    obtain ⟨_, h3, h4⟩ := h
    go_enter Tryz.func80, Tryz.ntmps80
    go_wp2_with (first | (go_at_call 114; refine (rIs_any _ _ (by omega) (by omega)).mono ?_; rintro e w1 ⟨rfl, rfl⟩) | (go_at_call 59; refine (rpower_any _ _ (by omega) (by omega)).mono ?_; rintro e w1 ⟨rfl, rfl⟩))
    go_ret2
    exact ⟨by rw [H.out.1, H.out.2]; rfl, rfl⟩
  · have H := Lib.hid (leaf_yes (l := l) (x := x) (by unfold ValC; omega))
    obtain ⟨_, h3, h4⟩ := h
    go_enter Tryz.func80, Tryz.ntmps80
    go_wp2_with (first | (go_at_call 114; refine (rIs_any _ _ (by omega) (by omega)).mono ?_; rintro e w1 ⟨rfl, rfl⟩) | (go_at_call 59; refine (rpower_any _ _ (by omega) (by omega)).mono ?_; rintro e w1 ⟨rfl, rfl⟩))
    go_ret2
    exact ⟨by rw [H.out.1, H.out.2]; rfl, rfl⟩
set_option maxHeartbeats 1600000 in
theorem rends_any (l id : Int) (w : World) (L0 : -9223372036854775808 ≤ l) (L1 : l ≤ 9223372036854775807) (N0 : -9223372036854775808 ≤ id) (N1 : id ≤ 9223372036854775807) :
    Calls Tryz.prog 53 #[.int .i64 l, .int .i64 id] w fun e w' => e = .returned (.tuple #[.int .i64 (loN l id), .int .i64 (hiN l id), .bool (endB l id)]) ∧ w = w' := by
  by_cases h : RightC l id
  · have H := Lib.hid (end_yes h)
    have hu := right_yes h
    have hl := log_bd N1
    have HR := Lib.hid (right_dep h N1)
    obtain ⟨h1, h2, h3, h4⟩ := h
    have b1 : (2 : Int) ^ l.toNat ≤ 281474976710656 := two_le l.toNat 48 (by omega)
    have b0 : (0 : Int) < 2 ^ l.toNat := two_pos _
    go_enter Tryz.func53, Tryz.ntmps53
    go_wp2_with (first | (go_at_call 71; refine (rdepth_any _ _ (by omega) (by omega)).mono ?_; rintro e w1 ⟨rfl, rfl⟩) | (go_at_call 86; refine (rright_any _ _ _ (by omega) (by omega) (by omega) (by omega)).mono ?_; rintro e w1 ⟨rfl, rfl⟩))
    go_loop [7, 8, 9] (fun lv hv dv => ∃ (x y : Int) (i : Nat), lv = .int .i64 x ∧ hv = .int .i64 y ∧ dv = .int .i64 (logN id + i) ∧ logN id + i ≤ l ∧ 0 ≤ x ∧ x ≤ y ∧ y ≤ 562949953421312 ∧ Hid (x = id * 2 ^ i ∧ y = id * 2 ^ i + 2 ^ i - 1)) (fun _ _ dv => (l - intOf dv).toNat)
    case atStart => exact ⟨id, id, 0, rfl, rfl, by simp, by omega, by omega, by omega, by obtain ⟨k, j, _, _, hkj, _, hd, _⟩ := HR.out; have := two_le k 48 (by omega); have := hd.2; omega, by simp, by simp⟩
    case round =>
      obtain ⟨x, y, i, rfl, rfl, rfl, hi, x0, x1, y1, HX⟩ := hrel
      by_cases hlt : logN id + i < l
      · have HN : Hid ((2 * x = id * 2 ^ (i + 1) ∧ 2 * y + 1 = id * 2 ^ (i + 1) + 2 ^ (i + 1) - 1) ∧ 2 * y + 1 ≤ 562949953421312) := by
          obtain ⟨ex, ey⟩ := HX.out
          have e1 : id * 2 ^ (i + 1) = 2 * (id * 2 ^ i) := by rw [two_succ, Int.mul_left_comm]
          refine ⟨⟨by rw [e1, ← ex], by rw [e1, two_succ]; omega⟩, ?_⟩
          obtain ⟨k, j, ek, el, hkj, _, hd, _⟩ := HR.out
          have g1 := Int.mul_le_mul_of_nonneg_right (show id + 1 ≤ 2 * 2 ^ k by have := hd.2; omega) (Int.le_of_lt (two_pos (i + 1)))
          rw [Int.add_mul, Int.mul_assoc, ← two_add, e1] at g1
          have := two_le (k + (i + 1)) 48 (by omega)
          omega
        have hy2 := HN.out.2
        go_wp2_with fail
        go_round
        case rel => exact ⟨2 * x, 2 * y + 1, i + 1, rfl, rfl, by go_num, by omega, by omega, by omega, hy2, HN.out.1⟩
        case measure => simp [intOf]; omega
      · have HF : Hid (loN l id = x - 2 ^ l.toNat ∧ hiN l id = y - 2 ^ l.toNat ∧ endB l id = true) := by
          obtain ⟨ex, ey⟩ := HX.out
          have e : wid l id = 2 ^ i := by unfold wid; congr 1; omega
          have hh := H.out
          rw [e] at hh
          exact ⟨by omega, by omega, hh.2.2⟩
        go_wp2_with (go_at_call 59; refine (rpower_any _ _ (by omega) (by omega)).mono ?_; rintro e w1 ⟨rfl, rfl⟩)
        go_ret3
        exact ⟨by rw [HF.out.1, HF.out.2.1, HF.out.2.2]; rfl, rfl⟩
  · have H := Lib.hid (end_no h)
    have hu := right_no h
    clear h
    go_enter Tryz.func53, Tryz.ntmps53
    go_wp2_with (go_at_call 86; refine (rright_any _ _ _ (by omega) (by omega) (by omega) (by omega)).mono ?_; rintro e w1 ⟨rfl, rfl⟩)
    go_ret3
    exact ⟨by rw [H.out.1, H.out.2.1, H.out.2.2]; rfl, rfl⟩
set_option maxHeartbeats 400000 in
theorem rkids_any (l id : Int) (w : World) (L0 : -9223372036854775808 ≤ l) (L1 : l ≤ 9223372036854775807) (N0 : -9223372036854775808 ≤ id) (N1 : id ≤ 9223372036854775807) :
    Calls Tryz.prog 88 #[.int .i64 l, .int .i64 id] w fun e w' => e = .returned (.tuple #[.int .i64 (kidN l id), .int .i64 (kid2N l id), .bool (kidB l id)]) ∧ w = w' := by
  by_cases h : RightC l id
  · have hu := right_yes h
    by_cases h2 : logN id = l
    · have H := Lib.hid (kid_no (l := l) (id := id) (fun g => g.2 ⟨h.1, h.2.1, h.2.2.1, h2⟩))
      have hd : (logN id == l) = true := by simpa using h2
      clear h h2
      go_enter Tryz.func88, Tryz.ntmps88
      go_wp2_with (first | (go_at_call 71; refine (rdepth_any _ _ (by omega) (by omega)).mono ?_; rintro e w1 ⟨rfl, rfl⟩) | (go_at_call 86; refine (rright_any _ _ _ (by omega) (by omega) (by omega) (by omega)).mono ?_; rintro e w1 ⟨rfl, rfl⟩))
      go_ret3
      exact ⟨by rw [H.out.1, H.out.2.1, H.out.2.2]; rfl, rfl⟩
    · have H := Lib.hid (kid_yes (l := l) (id := id) ⟨h, fun g => h2 g.2.2.2⟩)
      have hd : (logN id == l) = false := by simpa using h2
      have hk := right_id h N1
      have hk0 := h.2.2.1
      clear h h2
      go_enter Tryz.func88, Tryz.ntmps88
      go_wp2_with (first | (go_at_call 71; refine (rdepth_any _ _ (by omega) (by omega)).mono ?_; rintro e w1 ⟨rfl, rfl⟩) | (go_at_call 86; refine (rright_any _ _ _ (by omega) (by omega) (by omega) (by omega)).mono ?_; rintro e w1 ⟨rfl, rfl⟩))
      go_ret3
      exact ⟨by rw [H.out.1, H.out.2.1, H.out.2.2]; rfl, rfl⟩
  · have hu := right_no h
    have H := Lib.hid (kid_no (l := l) (id := id) (fun g => h g.1))
    clear h
    go_enter Tryz.func88, Tryz.ntmps88
    go_wp2_with (first | (go_at_call 71; refine (rdepth_any _ _ (by omega) (by omega)).mono ?_; rintro e w1 ⟨rfl, rfl⟩) | (go_at_call 86; refine (rright_any _ _ _ (by omega) (by omega) (by omega) (by omega)).mono ?_; rintro e w1 ⟨rfl, rfl⟩))
    go_ret3
    exact ⟨by rw [H.out.1, H.out.2.1, H.out.2.2]; rfl, rfl⟩
set_option maxHeartbeats 400000 in
theorem rabove_any (a b : Int) (w : World) (A0 : -9223372036854775808 ≤ a) (A1 : a ≤ 9223372036854775807) (B0 : -9223372036854775808 ≤ b) (B1 : b ≤ 9223372036854775807) :
    Calls Tryz.prog 87 #[.int .i64 a, .int .i64 b] w fun e w' => e = .returned (.bool (aboveB a b)) ∧ w = w' := by
  by_cases h : 1 ≤ a
  · go_enter Tryz.func87, Tryz.ntmps87
    go_wp2_with fail
    go_loop [1] (fun bv => ∃ y : Int, bv = .int .i64 y ∧ -9223372036854775808 ≤ y ∧ y ≤ 9223372036854775807 ∧ Hid (aboveB a b = aboveB a y)) (fun bv => (intOf bv).toNat)
    case atStart => exact ⟨b, rfl, B0, B1, rfl⟩
    case round =>
      obtain ⟨y, rfl, y0, y1, HY⟩ := hrel
      by_cases hy : a < y
      · have HN := Lib.hid (HY.out.trans (above_step h hy y1))
        go_wp2_with fail
        go_round
        case rel => exact ⟨y / 2, rfl, by omega, by omega, HN.out⟩
        case measure => simp [intOf]; omega
      · have HF := Lib.hid (HY.out.trans (above_end h (by omega) A1))
        go_wp2_with fail
        go_ret
        exact ⟨ret_b (by rw [HF.out]), rfl⟩
  · have H := Lib.hid (above_no (a := a) (b := b) (by omega))
    go_enter Tryz.func87, Tryz.ntmps87
    go_wp2_with fail
    go_ret
    exact ⟨by rw [H.out]; rfl, rfl⟩
set_option maxHeartbeats 400000 in
theorem rpru_any (id d : Int) (w : World) (N0 : -9223372036854775808 ≤ id) (N1 : id ≤ 9223372036854775807) (B0 : -9223372036854775808 ≤ d) (B1 : d ≤ 9223372036854775807) :
    Calls Tryz.prog 42 #[.int .i64 id, .int .i64 d] w fun e w' => e = .returned (.tuple #[.int .i64 (pruN id d), .bool (pruB id d)]) ∧ w = w' := by
  rcases (show ¬ 1 ≤ id ∨ (1 ≤ id ∧ d < 0) ∨ (1 ≤ id ∧ 0 ≤ d) by omega) with h | h | h
  · have H := Lib.hid (pru_no (id := id) (d := d) (by unfold PruC; omega))
    have hb := (log_no h).2
    clear h
    go_enter Tryz.func42, Tryz.ntmps42
    go_wp2_with (go_at_call 71; refine (rdepth_any _ _ (by omega) (by omega)).mono ?_; rintro e w1 ⟨rfl, rfl⟩)
    go_ret2
    exact ⟨by rw [H.out.1, H.out.2]; rfl, rfl⟩
  · have H := Lib.hid (pru_no (id := id) (d := d) (by unfold PruC; omega))
    have hb := (log_yes h.1).2
    have h2 := h.2
    clear h
    go_enter Tryz.func42, Tryz.ntmps42
    go_wp2_with (go_at_call 71; refine (rdepth_any _ _ (by omega) (by omega)).mono ?_; rintro e w1 ⟨rfl, rfl⟩)
    go_ret2
    exact ⟨by rw [H.out.1, H.out.2]; rfl, rfl⟩
  · have H := Lib.hid (pru_yes (id := id) (d := d) h)
    have hb := (log_yes h.1).2
    have hl := log_bd N1
    obtain ⟨h1, h2⟩ := h
    go_enter Tryz.func42, Tryz.ntmps42
    go_wp2_with (go_at_call 71; refine (rdepth_any _ _ (by omega) (by omega)).mono ?_; rintro e w1 ⟨rfl, rfl⟩)
    go_loop [0, 6] (fun n i => ∃ k : Nat, n = .int .i64 (id / 2 ^ k) ∧ i = .int .i64 (logN id - k) ∧ (k : Int) ≤ (logN id - d).toNat) (fun _ i => (intOf i).toNat)
    case atStart => exact ⟨0, by simp, by simp, by omega⟩
    case round =>
      obtain ⟨k, rfl, rfl, hk⟩ := hrel
      have hd0 : 0 ≤ id / 2 ^ k := Int.ediv_nonneg (by omega) (Int.le_of_lt (two_pos k))
      have hd1 : id / 2 ^ k ≤ id := Int.ediv_le_self _ (by omega)
      by_cases hlt : d < logN id - k
      · have HN := Lib.hid (div_half id k)
        go_wp2_with fail
        go_round
        case rel => exact ⟨k + 1, by rw [HN.out], by go_num, by omega⟩
        case measure => simp [intOf]; omega
      · have HF : Hid (pruN id d = id / 2 ^ k ∧ pruB id d = true) := by
          have e : k = (logN id - d).toNat := by omega
          subst e; exact H.out
        go_wp2_with fail
        go_ret2
        exact ⟨by rw [HF.out.1, HF.out.2]; rfl, rfl⟩
set_option maxHeartbeats 400000 in
theorem rgra_any (id b : Int) (w : World) (N0 : -9223372036854775808 ≤ id) (N1 : id ≤ 9223372036854775807) (B0 : -9223372036854775808 ≤ b) (B1 : b ≤ 9223372036854775807) :
    Calls Tryz.prog 36 #[.int .i64 id, .int .i64 b] w fun e w' => e = .returned (.tuple #[.int .i64 (graN id b), .bool (graB id b)]) ∧ w = w' := by
  have hl := log_bd N1
  rcases (show ¬ 1 ≤ id ∨ (1 ≤ id ∧ b < 0) ∨ (1 ≤ id ∧ 0 ≤ b ∧ 48 < b) ∨ (1 ≤ id ∧ 0 ≤ b ∧ b ≤ 48 ∧ 48 < logN id + b) ∨ (1 ≤ id ∧ 0 ≤ b ∧ logN id + b ≤ 48) by omega) with h | h | h | h | h
  · have H := Lib.hid (gra_no (id := id) (b := b) (by unfold GraC; omega))
    have hb := (log_no h).2
    clear h
    go_enter Tryz.func36, Tryz.ntmps36
    go_wp2_with (go_at_call 71; refine (rdepth_any _ _ (by omega) (by omega)).mono ?_; rintro e w1 ⟨rfl, rfl⟩)
    go_ret2
    exact ⟨by rw [H.out.1, H.out.2]; rfl, rfl⟩
  · have H := Lib.hid (gra_no (id := id) (b := b) (by unfold GraC; omega))
    have hb := (log_yes h.1).2
    have h2 := h.2
    clear h
    go_enter Tryz.func36, Tryz.ntmps36
    go_wp2_with (go_at_call 71; refine (rdepth_any _ _ (by omega) (by omega)).mono ?_; rintro e w1 ⟨rfl, rfl⟩)
    go_ret2
    exact ⟨by rw [H.out.1, H.out.2]; rfl, rfl⟩
  · have H := Lib.hid (gra_no (id := id) (b := b) (by unfold GraC; omega))
    have hb := (log_yes h.1).2
    obtain ⟨_, h2, h3⟩ := h
    go_enter Tryz.func36, Tryz.ntmps36
    go_wp2_with (go_at_call 71; refine (rdepth_any _ _ (by omega) (by omega)).mono ?_; rintro e w1 ⟨rfl, rfl⟩)
    go_ret2
    exact ⟨by rw [H.out.1, H.out.2]; rfl, rfl⟩
  · have H := Lib.hid (gra_no (id := id) (b := b) (by unfold GraC; omega))
    have hb := (log_yes h.1).2
    obtain ⟨_, h2, h3, h4⟩ := h
    go_enter Tryz.func36, Tryz.ntmps36
    go_wp2_with (go_at_call 71; refine (rdepth_any _ _ (by omega) (by omega)).mono ?_; rintro e w1 ⟨rfl, rfl⟩)
    go_ret2
    exact ⟨by rw [H.out.1, H.out.2]; rfl, rfl⟩
  · have H := Lib.hid (gra_yes (id := id) (b := b) (by unfold GraC; omega))
    have hb := (log_yes h.1).2
    obtain ⟨i1, h2, h3⟩ := h
    have b1 : (2 : Int) ^ (logN id).toNat ≤ 281474976710656 := two_le _ 48 (by omega)
    have b0 : (0 : Int) < 2 ^ (logN id).toNat := two_pos _
    have c1 : (2 : Int) ^ (logN id + b).toNat ≤ 281474976710656 := two_le _ 48 (by omega)
    have c0 : (0 : Int) < 2 ^ (logN id + b).toNat := two_pos _
    have i2 : id ≤ 562949953421312 := by
      obtain ⟨k, _, e, _, hd⟩ := dep_of i1 N1
      have := two_le k 48 (by omega)
      have := hd.2
      omega
    go_enter Tryz.func36, Tryz.ntmps36
    go_wp2_with (first | (go_at_call 71; refine (rdepth_any _ _ (by omega) (by omega)).mono ?_; rintro e w1 ⟨rfl, rfl⟩) | (go_at_call 59; refine (rpower_any _ _ (by omega) (by omega)).mono ?_; rintro e w1 ⟨rfl, rfl⟩))
    go_ret2
    exact ⟨by rw [H.out.1, H.out.2]; rfl, rfl⟩

end Go.Proofs.YtachfeclgdgbiaaGreat

/- The document's answers of package dewpondref06: Total, Find, Right, Same. -/
namespace Go.Proofs.YtachfeclgdgbiaaGreat
set_option linter.unusedVariables false
open Go.RowKit

set_option maxHeartbeats 1600000 in
theorem rTotal_any (A : Option Addr) (n c : Nat) (L : List Nd) (w : World) (h : NodesAt w (.slice A n c) L) (hB : NBds L) (hn : n ≤ 1000000) :
    Calls Tryz.prog 72 #[.slice A n c] w (TotPost L w) := by
  obtain ⟨hlen, hlc, hcm, hat⟩ := nodes_cells h
  have HL := Lib.hid hlen
  have HA := Lib.hid hat
  have HB := Lib.hid hB
  clear hlen hat hB h hlc hcm
  go_enter Tryz.func72, Tryz.ntmps72
  go_wp2_with fail
  go_loop [4, 5] (fun t i => ∃ k : Nat, k ≤ n ∧ i = .int .i64 k ∧ t = .int .i64 (sumC (L.take k)) ∧ TotC (L.take k)) (fun _ i => n - (intOf i).toNat)
  case atStart => exact ⟨0, by omega, rfl, rfl, tot_nil⟩
  case round =>
    obtain ⟨k, hk, rfl, rfl, htot⟩ := hrel
    have TC := Lib.hid htot
    have t0 : 0 ≤ sumC (L.take k) := sumC_nonneg htot.1
    have t1 : sumC (L.take k) ≤ 72057594037927935 := htot.2
    clear htot
    by_cases hlt : k < n
    · have hk2 : k < L.length := by have := HL.out; omega
      obtain ⟨b, o, rfl, hin⟩ := HA.out (by omega)
      obtain ⟨e0, e1⟩ := hin.2 k hk2
      have hbd := nbds_at HB.out hk2
      obtain ⟨⟨b0, b1⟩, b2, b3⟩ := hbd
      have hst := Lib.hid (fun q0 q1 => tot_step hk2 TC.out q0 q1)
      have hno := Lib.hid (fun q => tot_stop (L := L) hk2 q)
      clear hin
      generalize L.getD k nz = r at *
      obtain ⟨id, x⟩ := r
      simp only at e0 e1 b0 b1 b2 b3
      generalize hT : sumC (L.take k) = T at *
      have HT := Lib.hid hT
      clear hT
      by_cases q0 : x < 0
      · have NO := Lib.hid (tot_no (hno.out (.inl q0)))
        clear hst hno
        go_wp2_with fail
        go_ret2
        exact tot_post NO.out (Below.refl ..)
      · by_cases q1 : 72057594037927935 - T < x
        · have NO := Lib.hid (tot_no (hno.out (.inr (by show _ < T + x; omega))))
          clear hst hno
          go_wp2_with fail
          go_ret2
          exact tot_post NO.out (Below.refl ..)
        · have ST := Lib.hid (hst.out (by omega) (by omega))
          clear hst hno
          go_wp2_with fail
          go_round
          case rel => exact ⟨k + 1, by omega, by go_num, by rw [ST.out.2], ST.out.1⟩
          case measure => simp [intOf]; omega
    · have hd : Hid (L.take k = L) := List.take_of_length_le (by have := HL.out; omega)
      have YES := Lib.hid (tot_yes (L := L) (by have q := TC.out; rw [hd] at q; exact q))
      go_wp2_with fail
      go_ret2
      exact tot_post ⟨by rw [YES.out.1, hd], YES.out.2⟩ (Below.refl ..)
set_option maxHeartbeats 1600000 in
theorem rFind_any (A : Option Addr) (n c : Nat) (L : List Nd) (id : Int) (w : World) (h : NodesAt w (.slice A n c) L) (hn : n ≤ 1000000) :
    Calls Tryz.prog 115 #[.slice A n c, .int .i64 id] w (FindPost L id w) := by
  obtain ⟨hlen, hlc, hcm, hat⟩ := nodes_cells h
  have HL := Lib.hid hlen
  have HA := Lib.hid hat
  clear hlen hat h hlc hcm
  go_enter Tryz.func115, Tryz.ntmps115
  go_wp2_with fail
  go_loop [5] (fun i => ∃ k : Nat, k ≤ n ∧ i = .int .i64 k ∧ (∀ m ∈ L.take k, m.1 ≠ id)) (fun i => n - (intOf i).toNat)
  case atStart => exact ⟨0, by omega, rfl, fun m h => by simp at h⟩
  case round =>
    obtain ⟨k, hk, rfl, hno⟩ := hrel
    have NO := Lib.hid hno
    clear hno
    by_cases hlt : k < n
    · have hk2 : k < L.length := by have := HL.out; omega
      obtain ⟨b, o, rfl, hin⟩ := HA.out (by omega)
      obtain ⟨e0, e1⟩ := hin.2 k hk2
      have hst := Lib.hid (fun q => find_step hk2 NO.out q)
      have hat := Lib.hid (fun q => find_at hk2 NO.out q)
      clear hin
      generalize L.getD k nz = r at *
      obtain ⟨j, x⟩ := r
      simp only at e0 e1
      by_cases q : j = id
      · have AT := Lib.hid (hat.out q)
        have q' : (j == id) = true := by simpa using q
        clear q hat hst
        go_wp2_with fail
        go_ret
        exact find_post AT.out (Below.refl ..)
      · have ST := Lib.hid (hst.out q)
        have q' : (j == id) = false := by simpa using q
        clear q hat hst
        go_wp2_with fail
        go_round
        case rel => exact ⟨k + 1, by omega, by go_num, ST.out⟩
        case measure => simp [intOf]; omega
    · have hd : Hid (L.take k = L) := List.take_of_length_le (by have := HL.out; omega)
      go_wp2_with fail
      go_ret
      exact find_post (find_end (by have q := NO.out; rw [hd] at q; exact q)) (Below.refl ..)
set_option maxHeartbeats 1600000 in
theorem rSame_any (A A2 : Option Addr) (n c n2 c2 : Nat) (L M : List Nd) (w : World) (h : NodesAt w (.slice A n c) L) (h2 : NodesAt w (.slice A2 n2 c2) M) (hn : n ≤ 1000000) (hn2 : n2 ≤ 1000000) :
    Calls Tryz.prog 33 #[.slice A n c, .slice A2 n2 c2] w (SamePost L M w) := by
  obtain ⟨hlen, hlc, hcm, hat⟩ := nodes_cells h
  obtain ⟨hlen2, hlc2, hcm2, hat2⟩ := nodes_cells h2
  have HL := Lib.hid hlen
  have HA := Lib.hid hat
  have HL2 := Lib.hid hlen2
  have HA2 := Lib.hid hat2
  clear hlen hat h hlc hcm hlen2 hat2 h2 hlc2 hcm2
  by_cases hll : n = n2
  · subst hll
    go_enter Tryz.func33, Tryz.ntmps33
    go_wp2_with fail
    go_loopw [5] (fun i wr => ∃ (k q : Nat), k ≤ n ∧ i = .int .i64 k ∧ L.take k = M.take k ∧ wr = w.drewN q) (fun i _ => n - (intOf i).toNat)
    case atStart => exact ⟨0, 0, by omega, rfl, rfl, rfl⟩
    case round =>
      rename_i wr
      obtain ⟨k, q, hk, rfl, hinv, rfl⟩ := hrel
      have INV := Lib.hid hinv
      clear hinv
      by_cases hlt : k < n
      · have hk2 : k < L.length := by have := HL.out; omega
        have hk3 : k < M.length := by have := HL2.out; omega
        obtain ⟨b, o, rfl, hin⟩ := HA.out (by omega)
        obtain ⟨b2, o2, rfl, hin2⟩ := HA2.out (by omega)
        have e0 := (hin.2 k hk2).1
        have e1 := (hin.2 k hk2).2
        have e2 := (hin2.2 k hk3).1
        have e3 := (hin2.2 k hk3).2
        have hst := Lib.hid (fun q => same_step hk2 hk3 INV.out q)
        have hno := Lib.hid (fun q => same_at (L := L) (M := M) (k := k) q)
        have hi0 : (0 : Int) ≤ (k : Int) := Int.natCast_nonneg _
        have hi1 : (k : Int) < (n : Int) := by omega
        clear hin hin2
        generalize L.getD k nz = r at *
        generalize M.getD k nz = s at *
        obtain ⟨i1, x1⟩ := r
        obtain ⟨i2, x2⟩ := s
        simp only at e0 e1 e2 e3
        by_cases qq : i1 = i2 ∧ x1 = x2
        · obtain ⟨rfl, rfl⟩ := qq
          have ST := Lib.hid (hst.out rfl)
          have hne : ∀ w, (binOp .neq 75 (.agg #[.int .i64 i1, .int .i64 x1]) (.agg #[.int .i64 i1, .int .i64 x1])).run Tryz.prog w = .ok (.bool false) w := fun w => by rw [run_neq_nodes]; simp
          clear hst hno
          go_wp2_with fail
          go_quiet (fail)
          go_wp2_with fail
          go_roundw
          case rel => exact ⟨k + 1, _, by omega, by go_num, ST.out, rfl⟩
          case measure => simp [intOf]; omega
        · have NO := Lib.hid (hno.out (fun e => qq (by injection e with e1 e2; exact ⟨e1, e2⟩)))
          have hne : ∀ w, (binOp .neq 75 (.agg #[.int .i64 i1, .int .i64 x1]) (.agg #[.int .i64 i2, .int .i64 x2])).run Tryz.prog w = .ok (.bool true) w := fun w => by rw [run_neq_nodes]; simp; omega
          clear hst hno
          go_wp2_with fail
          go_quiet (fail)
          go_wp2_with fail
          go_ret
          exact same_post NO.out ⟨_, World.drewN_drewN ..⟩
      · go_wp2_with fail
        go_ret
        exact same_post (same_end (by rw [← HL.out, ← HL2.out]) (by have q := INV.out; rwa [show k = L.length by have := HL.out; omega] at q)) ⟨_, rfl⟩
  · have hno := Lib.hid (same_len (L := L) (M := M) (by rw [← HL.out, ← HL2.out]; exact hll))
    have hll' : ((n : Int) != (n2 : Int)) = true := by rw [bne_iff_ne]; omega
    go_enter Tryz.func33, Tryz.ntmps33
    go_wp2_with fail
    go_ret
    exact same_post hno.out ⟨0, rfl⟩
end Go.Proofs.YtachfeclgdgbiaaGreat

/- The document's answers of package dewpondref06: put, Sorted. -/
namespace Go.Proofs.YtachfeclgdgbiaaGreat
set_option linter.unusedVariables false
open Go.RowKit

set_option maxHeartbeats 3200000 in
theorem put_any (A : Option Addr) (n c k : Nat) (L : List Nd) (x y : Int) (w : World) (h : NodesAt w (.slice A n c) L) (hk : k ≤ n) (hn : n ≤ 1000000) :
    Calls Tryz.prog 106 #[.slice A n c, .int .i64 (k : Int), .agg #[.int .i64 x, .int .i64 y]] w (RowPost (L.take k ++ (x, y) :: L.drop k) w) := by
  obtain ⟨i0, hi, hz0, hz1, hz2⟩ := info_parts node_info
  have HN := Lib.hid h
  have HL := Lib.hid (nodes_cells h).1
  have hlc : n ≤ c := by have := (nodes_cells h).2.1; have := (nodes_cells h).1; omega
  have hbx : Hid (Below w.heap.size w (w.alloc (.cells #[.int .i64 x, .int .i64 y] 75))) := (Below.refl _ _).alloc (Nat.le_refl _) _
  have own0 := ownNd_nil 75 (w.alloc (.cells #[.int .i64 x, .int .i64 y] 75)) w.heap.size
  clear h
  cases A with
  | none =>
    obtain ⟨rfl, rfl, rfl⟩ := nodes_none HN.out
    obtain rfl : k = 0 := by omega
    have hsa := sl_to (P := Tryz.prog) Tryz.underlying33 hi hz1 none 0 0 0 (Nat.le_refl _)
    have hsb := sl_from_none (P := Tryz.prog) Tryz.underlying33 hi hz1
    clear hk hn hlc
    go_enter Tryz.func106, Tryz.ntmps106
    go_wp2_with (first | (at_builtin; refine wpList_append_own_none rfl (.tmp 8) (.tmp 11) 33 rfl w.heap.size 75 i0 2 Tryz.underlying33 hi _ 0 [] rfl own0 rfl ?_) | (at_builtin; refine wpList_append_own _ rfl (.tmp 13) (.tmp 15) 33 rfl w.heap.size 75 i0 (.agg #[.int .i64 0, .int .i64 0]) 2 16 Tryz.underlying33 hi hz0 hz1 hz2 rfl (by decide) _ 0 [] rfl (World.ownsRow.alloc own0 _) ⟨w.heap.size + 1, 0, none⟩ 1 1 [.int .i64 x, .int .i64 y] rfl rfl (two_new _ _ _ _ _ (by simp)) (two_cell _ _) (by unfold maxLen; omega) (by omega) (by simp; omega) ?_))
    intro v1 w1 hown1 hgrow1 _
    obtain ⟨A3, m3, c3, rfl⟩ := ownNd_slice hown1
    have OWN1 : Hid (w1.ownsRow w.heap.size 75 2 (.slice A3 m3 c3) 1 [.int .i64 x, .int .i64 y]) := by have q := hown1; show World.ownsRow _ _ _ _ _ _ _; simpa using q
    have hb1 : Below w.heap.size w w1 := (hbx.out.alloc (by simp) _).grown hgrow1 (by simp; omega) (fun g hg => by simp [Value.ownBlock] at hg)
    go_wp2_with (at_builtin; refine wpList_append_own_none rfl (.tmp 17) (.tmp 20) 33 rfl w.heap.size 75 i0 2 Tryz.underlying33 hi (.slice A3 m3 c3) 1 [.int .i64 x, .int .i64 y] rfl OWN1.out rfl ?_)
    go_ret
    exact ⟨_, rfl, ownNd_nodes (e := 75) (B := w.heap.size) OWN1.out, hb1⟩
  | some a =>
    have hsa := sl_to (P := Tryz.prog) Tryz.underlying33 hi hz1 (some a) n c k (by omega)
    have hsb := sl_from (P := Tryz.prog) Tryz.underlying33 hi hz1 a n c k hk
    have hc := Lib.hid (nodes_cut HN.out hk)
    have AT1 := Lib.hid (nodes_cells hc.out.1).2.2.2
    have AT2 := Lib.hid (nodes_cells hc.out.2).2.2.2
    have N1 := Lib.hid (show (nods (L.take k)).length = k * 2 by rw [nods_len, ← (nodes_cells hc.out.1).1])
    have N2 := Lib.hid (show (nods (L.drop k)).length = (n - k) * 2 by rw [nods_len, ← (nodes_cells hc.out.2).1])
    go_enter Tryz.func106, Tryz.ntmps106
    go_wp2_with (at_builtin; refine wpList_append_own _ rfl (.tmp 8) (.tmp 11) 33 rfl w.heap.size 75 i0 (.agg #[.int .i64 0, .int .i64 0]) 2 16 Tryz.underlying33 hi hz0 hz1 hz2 rfl (by decide) _ 0 [] rfl own0 a k c (nods (L.take k)) rfl N1.out (AT1.out.news hbx.out) (nods_one _) (by unfold maxLen; omega) (by omega) (by simp) ?_)
    intro v1 w1 hown1 hgrow1 _
    have hb1 : Below w.heap.size w w1 := hbx.out.grown hgrow1 (by simp) (fun g hg => by simp [Value.ownBlock] at hg)
    have zs1 := hgrow1.size
    have x0 : w1.cell? ⟨w.heap.size, 0, none⟩ = some (.int .i64 x) := (grown_cell hgrow1 (by simp) (by simp [Value.ownBlock])).trans (by simp)
    have x1 : w1.cell? ⟨w.heap.size, 1, none⟩ = some (.int .i64 y) := (grown_cell hgrow1 (by simp) (by simp [Value.ownBlock])).trans (by simp)
    have OWN1 := Lib.hid hown1
    obtain ⟨A3, m3, c3, rfl⟩ := ownNd_slice hown1
    simp at zs1
    clear hown1 hgrow1 own0
    go_wp2_with (at_builtin; refine wpList_append_own _ rfl (.tmp 13) (.tmp 15) 33 rfl w.heap.size 75 i0 (.agg #[.int .i64 0, .int .i64 0]) 2 16 Tryz.underlying33 hi hz0 hz1 hz2 rfl (by decide) (.slice A3 m3 c3) k (nods (L.take k)) rfl (World.ownsRow.alloc OWN1.out _) ⟨w1.heap.size, 0, none⟩ 1 1 [.int .i64 x, .int .i64 y] rfl rfl (two_new _ _ _ _ _ (by simp)) (two_cell _ _) (by unfold maxLen; omega) (by omega) (by simp; omega) ?_)
    intro v2 w2 hown2 hgrow2 _
    have hb2 : Below w.heap.size w w2 := (hb1.alloc hb1.size _).grown hgrow2 (by simp; omega) (fun g hg => (World.ownsRow.lt OWN1.out g hg).1)
    have zs2 := hb2.size
    have OWN2 := Lib.hid hown2
    obtain ⟨A4, m4, c4, rfl⟩ := ownNd_slice hown2
    clear hown2 hgrow2 x0 x1
    go_wp2_with (at_builtin; refine wpList_append_own _ rfl (.tmp 17) (.tmp 20) 33 rfl w.heap.size 75 i0 (.agg #[.int .i64 0, .int .i64 0]) 2 16 Tryz.underlying33 hi hz0 hz1 hz2 rfl (by decide) (.slice A4 m4 c4) (k + 1) (nods (L.take k) ++ [.int .i64 x, .int .i64 y]) rfl OWN2.out (advA a c k 2) (n - k) (c - k) (nods (L.drop k)) rfl N2.out (AT2.out.news hb2) (nods_one _) (by unfold maxLen; omega) (by omega) zs2 ?_)
    intro v3 w3 hown3 hgrow3 _
    have hb3 : Below w.heap.size w w3 := hb2.grown hgrow3 zs2 (fun g hg => (World.ownsRow.lt OWN2.out g hg).1)
    go_wp2_with fail
    go_ret
    refine ⟨_, rfl, ownNd_nodes (e := 75) (B := w.heap.size) ?_, hb3⟩
    unfold OwnNd
    rw [ins_len HL.out.symm hk, nods_app]
    have e : k + 1 + (n - k) = n + 1 := by omega
    rw [e] at hown3
    simpa [nods] using hown3
set_option maxHeartbeats 3200000 in
set_option maxRecDepth 100000 in
theorem rSorted_any (A : Option Addr) (n c : Nat) (L : List Nd) (w : World) (h : NodesAt w (.slice A n c) L) (hn : n ≤ 1000000) :
    Calls Tryz.prog 73 #[.slice A n c] w (OrdPost L w) := by
  have HN := Lib.hid h
  have HL := Lib.hid (nodes_cells h).1
  have HA := Lib.hid (nodes_cells h).2.2.2
  clear h
  go_enter Tryz.func73, Tryz.ntmps73
  go_wp2_with fail
  go_loopw [3, 4, 5] (fun v i at' wr => ∃ (k : Nat) (S : List Nd) (A2 : Option Addr) (c2 : Nat), k ≤ n ∧ i = .int .i64 k ∧ v = .slice A2 k c2 ∧ NodesAt wr (.slice A2 k c2) S ∧ Srt idA (L.take k) S ∧ Below w.heap.size w wr) (fun _ i _ _ => n - (intOf i).toNat)
  case atStart => exact ⟨0, [], none, 0, by omega, rfl, rfl, nodes_nil w, Srt.small idA (by simp), Below.refl ..⟩
  case round =>
    rename_i wr
    obtain ⟨k, S, A2, c2, hk, rfl, rfl, hnS, hs, hb⟩ := hrel
    have NS := Lib.hid hnS
    have HS := Lib.hid hs
    have hSl : Hid (k = S.length) := (nodes_cells hnS).1
    have SA := Lib.hid (nodes_cells hnS).2.2.2
    obtain ⟨wo, hwo⟩ : ∃ wo : World, wo = wr := ⟨_, rfl⟩
    subst hwo
    have hzo := hb.size
    clear hnS hs
    by_cases hlt : k < n
    · have hk2 : k < L.length := by have := HL.out; omega
      obtain ⟨b, o, rfl, hin⟩ := HA.out (by omega)
      have hin2 := hin.below hb hin.1
      have e0 := (hin2.2 k hk2).1
      have e1 := (hin2.2 k hk2).2
      have NX := Lib.hid (fun (j : Nat) q0 q1 q2 => ins_next (j := j) idA_ahd hk2 q0 HS.out q1 q2)
      have hkI : (k : Int) < (n : Int) := by omega
      have hkI0 : (0 : Int) ≤ (k : Int) := Int.natCast_nonneg _
      clear hin hin2
      generalize L.getD k nz = r at *
      obtain ⟨x, y⟩ := r
      simp only at e0 e1
      go_wp2_with fail
      go_loopw [5] (fun a wq => ∃ (j q : Nat), j ≤ k ∧ a = .int .i64 j ∧ (∀ q ∈ S.drop j, idA (x, y) q = true) ∧ wq = wo.drewN q) (fun a _ => (intOf a).toNat)
      case atStart => exact ⟨k, 0, Nat.le_refl _, rfl, fun q hq => by rw [List.drop_of_length_le (by rw [← hSl.out]; omega)] at hq; simp at hq, rfl⟩
      case round =>
        obtain ⟨wq, hwq⟩ : ∃ wq : World, wq = wr := ⟨_, rfl⟩
        subst hwq
        obtain ⟨j, q, hj, rfl, hq, hw⟩ := hrel
        have HQ := Lib.hid hq
        have f0 : wq.cell? ⟨b, o + k * 2, none⟩ = some (.int .i64 x) := by rw [hw]; exact e0
        have f1 : wq.cell? ⟨b, o + k * 2 + 1, none⟩ = some (.int .i64 y) := by rw [hw]; exact e1
        have hbq : Below w.heap.size w wq := by rw [hw]; exact drewN_below hb _
        have NSQ : Hid (NodesAt wq (.slice A2 k c2) S) := by show NodesAt _ _ _; rw [hw]; exact NS.out
        have SAQ : Hid (NdAt wq A2 S) := by show NdAt _ _ _; rw [hw]; exact SA.out
        have HW := Lib.hid hw
        clear hq hw e0 e1
        rcases Nat.eq_zero_or_pos j with hj0 | hj0
        · have HZ := Lib.hid hj0
          have hjz : decide (0 < j) = false := by simp [hj0]
          have hjl : j ≤ 0 := by omega
          clear hj0
          go_wp2_with fail
          go_quiet (fail)
          clear hjz
          have SRT := Lib.hid (NX.out j (by rw [← hSl.out]; omega) HQ.out (fun i e => by have := HZ.out; omega))
          have IL := Lib.hid (ins_len (x := ((x, y) : Nd)) (j := j) hSl.out.symm (by omega))
          go_wp2_with (go_at_call 106; refine (put_any _ _ _ j S x y _ (by exact NSQ.out) (by omega) (by omega)).mono ?_; rintro e w1 ⟨v, rfl, hv, hb1⟩; have HV := Lib.hid hv; obtain ⟨A3, c3, rfl, _⟩ := hv; rw [IL.out] at HV ⊢)
          have hb3 : Below w.heap.size w w1 := (drewN_below hbq _).trans (hb1.mono hbq.size)
          clear hb1 f0 f1
          go_roundw
          case rel => exact ⟨k + 1, _, A3, c3, by omega, by go_num, rfl, HV.out, SRT.out, hb3⟩
          case measure => simp [intOf]; omega
        · obtain ⟨i, hi⟩ : ∃ i, j = i + 1 := ⟨j - 1, by omega⟩
          obtain ⟨b2, o2, rfl, hin2⟩ := SAQ.out (by rw [← hSl.out]; omega)
          have f2 := (hin2.2 i (by rw [← hSl.out]; omega)).1
          have hiS : i < S.length := by rw [← hSl.out]; omega
          have BK := Lib.hid (fun q0 q1 => ins_back (ah := idA) (x := (x, y)) hiS q0 q1)
          have hji : (j : Int) - 1 = (i : Int) := by omega
          have w1 : IntKind.i64.wrap ((j : Int) - 1) = (i : Int) := by rw [IntWalk.i64_in _ (by omega)]; exact hji
          have hik : (i : Int) < (k : Int) := by omega
          have hi0 : (0 : Int) ≤ (i : Int) := Int.natCast_nonneg _
          have hik2 : i ≤ k := by omega
          have HJ := Lib.hid hi
          have CM := Lib.hid (fun (q : idA (x, y) (S.getD i nz) = false) (i' : Nat) (e : j = i' + 1) => (show idA (x, y) (S.getD i' nz) = false from by
            have e2 : i' = i := by omega
            rw [e2]; exact q))
          clear hin2 hi
          generalize S.getD i nz = t at *
          obtain ⟨t1, t2⟩ := t
          simp only at f2
          by_cases hc : x < t1
          · have HQ2 := Lib.hid (BK.out (by have q := HQ.out; rw [HJ.out] at q; exact q) (idA_yes hc))
            have hc' : decide (x < t1) = true := by simpa using hc
            clear hc hji
            go_wp2_with fail
            go_quiet (fail)
            go_wp2_with fail
            go_roundw
            case rel => exact ⟨i, _, hik2, rfl, HQ2.out, by rw [HW.out, World.drewN_drewN]⟩
            case measure => simp [intOf]; have := HJ.out; omega
          · have CMP := Lib.hid (idA_no (a := (x, y)) (b := (t1, t2)) hc)
            have hc' : decide (x < t1) = false := by simpa using hc
            clear hc hji
            go_wp2_with fail
            go_quiet (fail)
            clear w1
            have SRT := Lib.hid (NX.out j (by rw [← hSl.out]; omega) HQ.out (CM.out CMP.out))
            have IL := Lib.hid (ins_len (x := ((x, y) : Nd)) (j := j) hSl.out.symm (by omega))
            go_wp2_with (go_at_call 106; refine (put_any _ _ _ j S x y _ (by exact NSQ.out) (by omega) (by omega)).mono ?_; rintro e w1 ⟨v, rfl, hv, hb1⟩; have HV := Lib.hid hv; obtain ⟨A3, c3, rfl, _⟩ := hv; rw [IL.out] at HV ⊢)
            have hb3 : Below w.heap.size w w1 := (drewN_below hbq _).trans (hb1.mono hbq.size)
            clear hb1 f0 f1
            go_roundw
            case rel => exact ⟨k + 1, _, A3, c3, by omega, by go_num, rfl, HV.out, SRT.out, hb3⟩
            case measure => simp [intOf]; omega
    · have hkn : k = n := by omega
      subst hkn
      have hd : Hid (L.take k = L) := List.take_of_length_le (by have := HL.out; omega)
      go_wp2_with fail
      go_ret
      refine ⟨S, A2, c2, by rw [← hSl.out]; rfl, by have q := HS.out; rwa [hd.out] at q, by rw [← hSl.out]; exact NS.out, fun h0 => ?_, hb⟩
      obtain ⟨b, o, e, _⟩ := SA.out h0
      exact ⟨_, e⟩

end Go.Proofs.YtachfeclgdgbiaaGreat

/- The document's answers of package dewpondref06: Fold, Join. -/
namespace Go.Proofs.YtachfeclgdgbiaaGreat
set_option linter.unusedVariables false
open Go.RowKit

set_option maxHeartbeats 6400000 in
set_option maxRecDepth 100000 in
theorem rFold_own (A : Option Addr) (n c : Nat) (L : List Nd) (w : World) (h : NodesAt w (.slice A n c) L) (hB : NBds L) (hn : n ≤ 1000000) :
    Calls Tryz.prog 37 #[.slice A n c] w (FoldOwn 75 L w) := by
  have HN := Lib.hid h
  have HB := Lib.hid hB
  have hlen := Lib.hid (nodes_cells h).1
  clear h hB
  obtain ⟨i0, hi, hz0, hz1, hz2⟩ := info_parts node_info
  cases ht : totB L
  · go_enter Tryz.func37, Tryz.ntmps37
    go_wp2_with (go_at_call 72; refine (rTotal_any _ _ _ _ _ HN.out HB.out hn).mono ?_; rintro e w1 ⟨rfl, hb1⟩)
    go_ret2
    exact foldO_none (fold_tot ht) hb1
  · have HT := Lib.hid (totC_iff.1 ht)
    go_enter Tryz.func37, Tryz.ntmps37
    go_wp2_with (first
      | (go_at_call 72; refine (rTotal_any _ _ _ _ _ HN.out HB.out hn).mono ?_; rintro e w1 ⟨rfl, hb1⟩)
      | (go_at_call 73; refine (rSorted_any _ _ _ _ _ (HN.out.below hb1) hn).mono ?_; rintro e w2 ⟨S, A1, c1, rfl, hs, hnS, hA1, hb2⟩; have HS := Lib.hid hs; have hmn : S.length ≤ n := (by rw [hs.len, ← hlen.out]; omega); obtain ⟨m, hm⟩ : ∃ m, m = S.length := ⟨_, rfl⟩; rw [← hm] at hmn hnS ⊢; have HM := Lib.hid hm; have HC := Lib.hid (nodes_cells hnS).2.2.2; have hb12 : Below w.heap.size w w2 := hb1.trans (hb2.mono hb1.size); clear hs hm hnS hA1))
    have TT := Lib.hid ht
    have NB := Lib.hid (nbds_perm HS.out.perm HB.out)
    clear ht
    go_loopw [7, 8] (fun v i wr => ∃ k : Nat, k ≤ m ∧ i = .int .i64 k ∧ OwnNd 75 wr w2.heap.size v (foldN (S.take k)) ∧ (∀ q ∈ S.take k, 1 ≤ q.1) ∧ Below w2.heap.size w2 wr) (fun _ i _ => m - (intOf i).toNat)
    case atStart => exact ⟨0, by omega, rfl, ownNd_nil .., fun q h => by simp at h, Below.refl ..⟩
    case round =>
      rename_i wr
      obtain ⟨k, hk, rfl, hown, hids, hb⟩ := hrel
      have ID := Lib.hid hids
      have hz12 := hb12.size
      have hzr := hb.size
      clear hids
      by_cases hlt : k < m
      · have hk2 : k < S.length := by have := HM.out; omega
        obtain ⟨b, o, rfl, hin⟩ := HC.out (by have := HM.out; omega)
        obtain ⟨e0, e1⟩ := (hin.below hb hin.1).2 k hk2
        have hbd := nbds_at NB.out hk2
        obtain ⟨⟨b0, b1⟩, b2, b3⟩ := hbd
        have hbl := hin.1
        have FS := Lib.hid (fold_next hk2)
        have IS := Lib.hid (fun q => ids_next hk2 ID.out q)
        have IN := Lib.hid (fun q => ids_stop HS.out hk2 q)
        have FR := Lib.hid (fun P y q => fold_room (P := P) (y := y) HS.out hk2 HT.out q)
        have hfl := fold_len HS.out (show k ≤ S.length by omega) HT.out
        clear hin
        generalize S.getD k nz = r at *
        obtain ⟨id, x⟩ := r
        simp only at e0 e1 b0 b1 b2 b3
        generalize foldN (S.take k) = F at *
        by_cases q0 : id < 1
        · have NO := Lib.hid (IN.out q0)
          go_wp2_with fail
          go_ret2
          exact foldO_none NO.out (hb12.trans (hb.mono hz12))
        · have ID2 := Lib.hid (IS.out (by show 1 ≤ id; omega))
          clear IS IN
          by_cases q1 : x = 0
          · have q1' : (x == 0) = true := by simpa using q1
            have FZ := Lib.hid (FS.out.trans (add_zero q1))
            obtain ⟨A3, m3, c3, rfl⟩ := ownNd_slice hown
            have HO := Lib.hid hown
            clear q1 hown FR FS
            go_wp2_with fail
            go_roundw
            case rel => exact ⟨k + 1, by omega, by go_num, by rw [FZ.out]; exact HO.out, ID2.out, hb⟩
            case measure => simp [intOf]; omega
          · have q1' : (x == 0) = false := by simpa using q1
            have Q1 := Lib.hid q1
            clear q1
            rcases nd_cases F with rfl | ⟨P, ⟨y1, y2⟩, rfl⟩
            · have FZ := Lib.hid (FS.out.trans (add_nil Q1.out))
              rcases ownNd_form hown with ⟨rfl, _⟩ | ⟨g, cap, rfl, hBg, hgw, hgn, _⟩
              all_goals
                have HO : Hid (wr.ownsRow w2.heap.size 75 2 _ 0 []) := hown
                clear hown FR FS
                go_wp2_with fail
                go_quiet (fail)
                go_wp2_with (at_builtin; refine wpList_append_own _ rfl _ _ 33 rfl w2.heap.size 75 i0 (.agg #[.int .i64 0, .int .i64 0]) 2 16 Tryz.underlying33 hi hz0 hz1 hz2 rfl (by decide) _ 0 [] rfl (World.ownsRow.alloc HO.out _) ⟨wr.heap.size, 0, none⟩ 1 1 [.int .i64 id, .int .i64 x] rfl rfl (two_new _ _ _ _ _ (by simp)) (two_cell _ _) (by unfold maxLen; omega) (by omega) (by simp; omega) ?_)
                intro v' w3 hown2 hgrow _
                have hb3 : Below w2.heap.size w2 w3 := ((drewN_below hb _).alloc (by simp; omega) _).grown hgrow (by simp; omega) (fun g hg => (World.ownsRow.lt HO.out g hg).1)
                have HO2 := Lib.hid (ownNd_snoc (L := []) hown2)
                clear hown2 hgrow
                go_wp2_with fail
                go_roundw
                case rel => exact ⟨k + 1, by omega, by go_num, by rw [FZ.out]; exact HO2.out, ID2.out, hb3⟩
                case measure => simp [intOf]; omega
            · obtain ⟨g, cap, rfl, hBg, hgw, hgn, c0, c1', cf⟩ := ownNd_last hown
              have HO : Hid (wr.ownsRow w2.heap.size 75 2 (.slice (some ⟨g, 0, none⟩) (P.length + 1) cap) (P.length + 1) (nods (P ++ [(y1, y2)]))) := by
                have q := hown
                unfold OwnNd at q
                rw [List.length_append] at q
                exact q
              obtain ⟨r0, r1, r2⟩ := FR.out P (y1, y2) rfl
              dsimp only at c0 c1' r0 r1 r2
              have hpl : P.length + 1 ≤ k := by simpa using hfl
              have FS2 : Hid (∀ z, y1 = id → z = y2 + x → foldN (S.take (k + 1)) = P ++ [(y1, z)]) := fun z e ez => by subst ez; exact FS.out.trans (add_same Q1.out e)
              have FS3 : Hid (¬ y1 = id → foldN (S.take (k + 1)) = P ++ [(y1, y2)] ++ [(id, x)]) := fun e => FS.out.trans (add_else Q1.out e)
              have i0' : (0 : Int) ≤ (P.length : Int) := Int.natCast_nonneg _
              have i1' : (P.length : Int) < (P.length : Int) + 1 := by omega
              have i2' : (k : Int) < (m : Int) := by omega
              have w1' : IntKind.i64.wrap ((P.length : Int) + 1 - 1) = (P.length : Int) := by rw [IntWalk.i64_in _ (by omega)]; omega
              clear hown FR FS hfl
              by_cases q2 : y1 = id
              · have FZ := Lib.hid (FS2.out _ q2 rfl)
                have q2' : (y1 == id) = true := by simpa using q2
                clear q2 FS2 FS3
                go_wp2_with fail
                go_quiet (fail)
                go_wp2_with fail
                have HO2 : Hid ((wr.drewN nq).ownsRow w2.heap.size 75 2 (.slice (some ⟨g, 0, none⟩) (P.length + 1) cap) (P.length + 1) (nods (P ++ [(y1, y2)]))) := HO.out
                have k1 : (wr.drewN nq).cell? ⟨g, P.length * 2 + 1, none⟩ = some (.int .i64 y2) := c1'
                have k2 : (wr.drewN nq).cell? ⟨b, o + k * 2 + 1, none⟩ = some (.int .i64 x) := e1
                have k3 := World.ownsRow.frozenAt HO2.out (P.length * 2 + 1)
                have HB2 : Hid (Below w2.heap.size w2 (wr.drewN nq)) := drewN_below hb _
                generalize (wr.drewN nq) = W0 at *
                have hd : ∀ a, ({ heap := W0.heap, tape := W0.tape, drawn := W0.drawn + 1, os := W0.os, output := W0.output } : World).cell? a = W0.cell? a := fun _ => rfl
                have w3' : IntKind.i64.wrap (P.length : Int) = (P.length : Int) := IntWalk.i64_in _ (by omega)
                clear e0 e1 c0 c1' cf
                go_still_tail 17, (by kernel_rfl)
                change wpList _ _ _ _ _ (World.drew W0)
                clear hd w1' w3'
                have k4 : (World.drew W0).frozen? ⟨g, P.length * 2 + 1, none⟩ = false := k3
                have k5 : (World.drew W0).cell? ⟨g, P.length * 2 + 1, none⟩ = some (.int .i64 y2) := k1
                go_wp2_with fail
                have HS2 := Lib.hid (own_add (w := W0.drew) HO2.out rfl (y2 + x))
                clear k1 k2 k3 k4 k5
                go_roundw
                case rel => exact ⟨k + 1, by omega, by go_num, by rw [FZ.out]; exact HS2.out.1, ID2.out, HB2.out.drew.grown HS2.out.2 (by have := HB2.out.size; simp; omega) (fun j hj => by simp at hj; omega)⟩
                case measure => simp [intOf]; omega
              · have FZ := Lib.hid (FS3.out q2)
                have q2' : (y1 == id) = false := by simpa using q2
                clear q2 FS2 FS3
                go_wp2_with fail
                go_quiet (fail)
                go_wp2_with (at_builtin; refine wpList_append_own _ rfl _ _ 33 rfl w2.heap.size 75 i0 (.agg #[.int .i64 0, .int .i64 0]) 2 16 Tryz.underlying33 hi hz0 hz1 hz2 rfl (by decide) _ (P.length + 1) (nods (P ++ [(y1, y2)])) rfl (World.ownsRow.alloc HO.out _) ⟨wr.heap.size, 0, none⟩ 1 1 [.int .i64 id, .int .i64 x] rfl rfl (two_new _ _ _ _ _ (by simp)) (two_cell _ _) (by unfold maxLen; omega) (by omega) (by simp; omega) ?_)
                intro v' w3 hown2 hgrow _
                have hb3 : Below w2.heap.size w2 w3 := ((drewN_below hb _).alloc (by simp; omega) _).grown hgrow (by simp; omega) (fun g hg => (World.ownsRow.lt HO.out g hg).1)
                have HO2 := Lib.hid (ownNd_snoc (L := P ++ [(y1, y2)]) (by have q := hown2; rw [List.length_append]; exact q))
                clear hown2 hgrow
                go_wp2_with fail
                go_roundw
                case rel => exact ⟨k + 1, by omega, by go_num, by rw [FZ.out]; exact HO2.out, ID2.out, hb3⟩
                case measure => simp [intOf]; omega
      · have hkm : k = m := by omega
        subst hkm
        have TK : Hid (k = S.length) := HM
        go_wp2_with fail
        go_ret2
        refine foldO_done HS.out TT.out (by have q := ID.out; have e : k = S.length := TK; rwa [← e]) (by have q := hown; have e : k = S.length := TK; rwa [← e]) hb12.size (hb12.trans (hb.mono hz12))
theorem rFold_any (A : Option Addr) (n c : Nat) (L : List Nd) (w : World) (h : NodesAt w (.slice A n c) L) (hB : NBds L) (hn : n ≤ 1000000) :
    Calls Tryz.prog 37 #[.slice A n c] w (FoldPost L w) := (rFold_own A n c L w h hB hn).mono fun _ _ q => q.post

end Go.Proofs.YtachfeclgdgbiaaGreat
