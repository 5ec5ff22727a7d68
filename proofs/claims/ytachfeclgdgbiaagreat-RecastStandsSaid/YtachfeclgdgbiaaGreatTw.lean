/- The project's package twig: each call answers what the plain numbers say, and nothing that was there before is changed. -/
import Derived.Test.YtachfeclgdgbiaaGreatRk
import Derived.Test.YtachfeclgdgbiaaGreatCore
namespace Go.Proofs.YtachfeclgdgbiaaGreat
set_option linter.unusedVariables false
open Go.RowKit

theorem universe_any (l : Int) (w : World) (L0 : -9223372036854775808 ≤ l) (L1 : l ≤ 9223372036854775807) :
    Calls Tryz.prog 98 #[.int .i64 l] w fun e w' => e = .returned (.bool (uniB l)) ∧ w = w' := by
  rcases (show l < 1 ∨ (1 ≤ l ∧ 48 < l) ∨ (1 ≤ l ∧ l ≤ 48) by omega) with h | h | h
  · have H := Lib.hid (uni_no (l := l) (by omega))
    go_enter Tryz.func98, Tryz.ntmps98
    go_wp2_with fail
    go_ret
    exact ⟨by rw [H.out]; rfl, rfl⟩
  · have H := Lib.hid (uni_no (l := l) (by omega))
    obtain ⟨h1, h2⟩ := h
    go_enter Tryz.func98, Tryz.ntmps98
    go_wp2_with fail
    go_ret
    exact ⟨ret_b (by rw [H.out]; exact decide_eq_false (by omega)), rfl⟩
  · have H := Lib.hid (uni_yes (l := l) (by omega))
    obtain ⟨h1, h2⟩ := h
    go_enter Tryz.func98, Tryz.ntmps98
    go_wp2_with fail
    go_ret
    exact ⟨by rw [H.out]; rfl, rfl⟩
theorem depth_any (id : Int) (w : World) (N0 : -9223372036854775808 ≤ id) (N1 : id ≤ 9223372036854775807) :
    Calls Tryz.prog 63 #[.int .i64 id] w fun e w' => e = .returned (.tuple #[.int .i64 (logN id), .bool (logB id)]) ∧ w = w' := by
  go_enter Tryz.func63, Tryz.ntmps63
  go_wp2_with fail
  refine (log_any _ _ N0 N1).mono ?_
  rintro e w1 ⟨rfl, rfl⟩
  go_wp2_with fail
  go_ret2
  exact ⟨rfl, rfl⟩
set_option maxHeartbeats 400000 in
theorem isLeaf_any (l id : Int) (w : World) (L0 : -9223372036854775808 ≤ l) (L1 : l ≤ 9223372036854775807) (N0 : -9223372036854775808 ≤ id) (N1 : id ≤ 9223372036854775807) :
    Calls Tryz.prog 150 #[.int .i64 l, .int .i64 id] w fun e w' => e = .returned (.bool (isLeafB l id)) ∧ w = w' := by
  rcases (show ¬ 1 ≤ id ∨ (1 ≤ id ∧ ¬ (1 ≤ l ∧ l ≤ 48)) ∨ (1 ≤ id ∧ 1 ≤ l ∧ l ≤ 48 ∧ ¬ logN id = l) ∨ (1 ≤ id ∧ 1 ≤ l ∧ l ≤ 48 ∧ logN id = l) by omega) with h | h | h | h
  · have H := Lib.hid (isLeaf_no (l := l) (id := id) (by unfold LeafC; omega))
    have hb := (log_no h).2
    clear h
    go_enter Tryz.func150, Tryz.ntmps150
    go_wp2_with (go_at_call 63; refine (depth_any _ _ N0 N1).mono ?_; rintro e w1 ⟨rfl, rfl⟩)
    go_ret
    exact ⟨by rw [H.out]; rfl, rfl⟩
  · have H := Lib.hid (isLeaf_no (l := l) (id := id) (by unfold LeafC; omega))
    have hb := (log_yes h.1).2
    have hu := uni_no h.2
    clear h
    go_enter Tryz.func150, Tryz.ntmps150
    go_wp2_with (first | (go_at_call 63; refine (depth_any _ _ N0 N1).mono ?_; rintro e w1 ⟨rfl, rfl⟩) | (go_at_call 98; refine (universe_any _ _ L0 L1).mono ?_; rintro e w1 ⟨rfl, rfl⟩))
    go_ret
    exact ⟨by rw [H.out]; rfl, rfl⟩
  · have H := Lib.hid (isLeaf_no (l := l) (id := id) (by unfold LeafC; omega))
    have hb := (log_yes h.1).2
    have hu := uni_yes ⟨h.2.1, h.2.2.1⟩
    have hd : (logN id == l) = false := by simpa using h.2.2.2
    clear h
    go_enter Tryz.func150, Tryz.ntmps150
    go_wp2_with (first | (go_at_call 63; refine (depth_any _ _ N0 N1).mono ?_; rintro e w1 ⟨rfl, rfl⟩) | (go_at_call 98; refine (universe_any _ _ L0 L1).mono ?_; rintro e w1 ⟨rfl, rfl⟩))
    go_ret
    exact ⟨by rw [H.out]; rfl, rfl⟩
  · have H := Lib.hid (isLeaf_yes (l := l) (id := id) (by unfold LeafC; omega))
    have hb := (log_yes h.1).2
    have hu := uni_yes ⟨h.2.1, h.2.2.1⟩
    have hd : (logN id == l) = true := by simpa using h.2.2.2
    clear h
    go_enter Tryz.func150, Tryz.ntmps150
    go_wp2_with (first | (go_at_call 63; refine (depth_any _ _ N0 N1).mono ?_; rintro e w1 ⟨rfl, rfl⟩) | (go_at_call 98; refine (universe_any _ _ L0 L1).mono ?_; rintro e w1 ⟨rfl, rfl⟩))
    go_ret
    exact ⟨by rw [H.out]; rfl, rfl⟩
set_option maxHeartbeats 400000 in
theorem right_any (l id : Int) (w : World) (L0 : -9223372036854775808 ≤ l) (L1 : l ≤ 9223372036854775807) (N0 : -9223372036854775808 ≤ id) (N1 : id ≤ 9223372036854775807) :
    Calls Tryz.prog 132 #[.int .i64 l, .int .i64 id] w fun e w' => e = .returned (.bool (rightB l id)) ∧ w = w' := by
  rcases (show ¬ 1 ≤ id ∨ (1 ≤ id ∧ ¬ (1 ≤ l ∧ l ≤ 48)) ∨ (1 ≤ id ∧ 1 ≤ l ∧ l ≤ 48 ∧ ¬ logN id ≤ l) ∨ (1 ≤ id ∧ 1 ≤ l ∧ l ≤ 48 ∧ logN id ≤ l) by omega) with h | h | h | h
  · have H := Lib.hid (right_no (l := l) (id := id) (by unfold RightC; omega))
    have hb := (log_no h).2
    clear h
    go_enter Tryz.func132, Tryz.ntmps132
    go_wp2_with (go_at_call 63; refine (depth_any _ _ N0 N1).mono ?_; rintro e w1 ⟨rfl, rfl⟩)
    go_ret
    exact ⟨by rw [H.out]; rfl, rfl⟩
  · have H := Lib.hid (right_no (l := l) (id := id) (by unfold RightC; omega))
    have hb := (log_yes h.1).2
    have hu := uni_no h.2
    clear h
    go_enter Tryz.func132, Tryz.ntmps132
    go_wp2_with (first | (go_at_call 63; refine (depth_any _ _ N0 N1).mono ?_; rintro e w1 ⟨rfl, rfl⟩) | (go_at_call 98; refine (universe_any _ _ L0 L1).mono ?_; rintro e w1 ⟨rfl, rfl⟩))
    go_ret
    exact ⟨by rw [H.out]; rfl, rfl⟩
  · have H := Lib.hid (right_no (l := l) (id := id) (by unfold RightC; omega))
    have hb := (log_yes h.1).2
    have hu := uni_yes ⟨h.2.1, h.2.2.1⟩
    have hd : l < logN id := by omega
    clear h
    go_enter Tryz.func132, Tryz.ntmps132
    go_wp2_with (first | (go_at_call 63; refine (depth_any _ _ N0 N1).mono ?_; rintro e w1 ⟨rfl, rfl⟩) | (go_at_call 98; refine (universe_any _ _ L0 L1).mono ?_; rintro e w1 ⟨rfl, rfl⟩))
    go_ret
    exact ⟨ret_b (by rw [H.out]; exact decide_eq_false (by omega)), rfl⟩
  · have H := Lib.hid (right_yes (l := l) (id := id) (by unfold RightC; omega))
    have hb := (log_yes h.1).2
    have hu := uni_yes ⟨h.2.1, h.2.2.1⟩
    have hd := h.2.2.2
    clear h
    go_enter Tryz.func132, Tryz.ntmps132
    go_wp2_with (first | (go_at_call 63; refine (depth_any _ _ N0 N1).mono ?_; rintro e w1 ⟨rfl, rfl⟩) | (go_at_call 98; refine (universe_any _ _ L0 L1).mono ?_; rintro e w1 ⟨rfl, rfl⟩))
    go_ret
    exact ⟨by rw [H.out]; rfl, rfl⟩
set_option maxHeartbeats 400000 in
theorem leaf_any (l x : Int) (w : World) (L0 : -9223372036854775808 ≤ l) (L1 : l ≤ 9223372036854775807) (X0 : -9223372036854775808 ≤ x) (X1 : x ≤ 9223372036854775807) :
    Calls Tryz.prog 66 #[.int .i64 l, .int .i64 x] w fun e w' => e = .returned (.tuple #[.int .i64 (leafN l x), .bool (leafB l x)]) ∧ w = w' := by
  rcases (show ¬ (1 ≤ l ∧ l ≤ 48) ∨ ((1 ≤ l ∧ l ≤ 48) ∧ x < 0) ∨ ((1 ≤ l ∧ l ≤ 48) ∧ 0 ≤ x ∧ 2 ^ l.toNat ≤ x) ∨ ((1 ≤ l ∧ l ≤ 48) ∧ 0 ≤ x ∧ x < 2 ^ l.toNat) by omega) with h | h | h | h
  · have H := Lib.hid (leaf_no (l := l) (x := x) (by unfold ValC; omega))
    have hu := uni_no h
    clear h
    go_enter Tryz.func66, Tryz.ntmps66
    go_wp2_with (go_at_call 98; refine (universe_any _ _ L0 L1).mono ?_; rintro e w1 ⟨rfl, rfl⟩)
    go_ret2
    exact ⟨by rw [H.out.1, H.out.2]; rfl, rfl⟩
  all_goals
    have hu := uni_yes h.1
    have b1 : (2 : Int) ^ l.toNat ≤ 281474976710656 := two_le l.toNat 48 (by omega)
    have b0 : (0 : Int) < 2 ^ l.toNat := two_pos _
    obtain ⟨h1, h2⟩ := h.1
  · have H := Lib.hid (leaf_no (l := l) (x := x) (by unfold ValC; omega))
    have h3 := h.2
    clear h
    go_enter Tryz.func66, Tryz.ntmps66
    go_wp2_with (go_at_call 98; refine (universe_any _ _ L0 L1).mono ?_; rintro e w1 ⟨rfl, rfl⟩)
    go_ret2
    exact ⟨by rw [H.out.1, H.out.2]; rfl, rfl⟩
  · have H := Lib.hid (leaf_no (l := l) (x := x) (by unfold ValC; omega))
    obtain ⟨_, h3, h4⟩ := h
    go_enter Tryz.func66, Tryz.ntmps66
    go_wp2_with (go_at_call 98; refine (universe_any _ _ L0 L1).mono ?_; rintro e w1 ⟨rfl, rfl⟩)
    go_ret2
    exact ⟨by rw [H.out.1, H.out.2]; rfl, rfl⟩
  · have H := Lib.hid (leaf_yes (l := l) (x := x) (by unfold ValC; omega))
    obtain ⟨_, h3, h4⟩ := h
    go_enter Tryz.func66, Tryz.ntmps66
    go_wp2_with (go_at_call 98; refine (universe_any _ _ L0 L1).mono ?_; rintro e w1 ⟨rfl, rfl⟩)
    go_ret2
    exact ⟨by rw [H.out.1, H.out.2]; rfl, rfl⟩
set_option maxHeartbeats 400000 in
theorem tUp_any (id b : Int) (w : World) (N0 : -9223372036854775808 ≤ id) (N1 : id ≤ 9223372036854775807) (B0 : -9223372036854775808 ≤ b) (B1 : b ≤ 9223372036854775807) :
    Calls Tryz.prog 76 #[.int .i64 id, .int .i64 b] w fun e w' => e = .returned (.tuple #[.int .i64 (tUpN id b), .bool (tUpB id b)]) ∧ w = w' := by
  rcases (show ¬ 1 ≤ id ∨ (1 ≤ id ∧ b < 0) ∨ (1 ≤ id ∧ 0 ≤ b ∧ logN id < b) ∨ (1 ≤ id ∧ 0 ≤ b ∧ b ≤ logN id) by omega) with h | h | h | h
  · have H := Lib.hid (tUp_no (id := id) (b := b) (by unfold tUpC; omega))
    have hb := (log_no h).2
    clear h
    go_enter Tryz.func76, Tryz.ntmps76
    go_wp2_with (go_at_call 63; refine (depth_any _ _ N0 N1).mono ?_; rintro e w1 ⟨rfl, rfl⟩)
    go_ret2
    exact ⟨by rw [H.out.1, H.out.2]; rfl, rfl⟩
  · have H := Lib.hid (tUp_no (id := id) (b := b) (by unfold tUpC; omega))
    have hb := (log_yes h.1).2
    have h2 := h.2
    clear h
    go_enter Tryz.func76, Tryz.ntmps76
    go_wp2_with (go_at_call 63; refine (depth_any _ _ N0 N1).mono ?_; rintro e w1 ⟨rfl, rfl⟩)
    go_ret2
    exact ⟨by rw [H.out.1, H.out.2]; rfl, rfl⟩
  · have H := Lib.hid (tUp_no (id := id) (b := b) (by unfold tUpC; omega))
    have hb := (log_yes h.1).2
    obtain ⟨_, h2, h3⟩ := h
    go_enter Tryz.func76, Tryz.ntmps76
    go_wp2_with (go_at_call 63; refine (depth_any _ _ N0 N1).mono ?_; rintro e w1 ⟨rfl, rfl⟩)
    go_ret2
    exact ⟨by rw [H.out.1, H.out.2]; rfl, rfl⟩
  · have H := Lib.hid (tUp_yes (id := id) (b := b) (by unfold tUpC; omega))
    have hb := (log_yes h.1).2
    have hl := log_bd N1
    obtain ⟨h1, h2, h3⟩ := h
    go_enter Tryz.func76, Tryz.ntmps76
    go_wp2_with (go_at_call 63; refine (depth_any _ _ N0 N1).mono ?_; rintro e w1 ⟨rfl, rfl⟩)
    go_loop [0, 25] (fun n i => ∃ k : Nat, n = .int .i64 (id / 2 ^ k) ∧ i = .int .i64 k ∧ (k : Int) ≤ b) (fun _ i => (b - intOf i).toNat)
    case atStart => exact ⟨0, by simp, rfl, h2⟩
    case round =>
      obtain ⟨k, rfl, rfl, hk⟩ := hrel
      have hd0 : 0 ≤ id / 2 ^ k := Int.ediv_nonneg (by omega) (Int.le_of_lt (two_pos k))
      have hd1 : id / 2 ^ k ≤ id := Int.ediv_le_self _ (by omega)
      by_cases hlt : (k : Int) < b
      · have HN := Lib.hid (div_half id k)
        go_wp2_with fail
        go_round
        case rel => exact ⟨k + 1, by rw [HN.out], by go_num, by omega⟩
        case measure => simp [intOf]; omega
      · have HF : Hid (tUpN id b = id / 2 ^ k ∧ tUpB id b = true) := by
          have e : k = b.toNat := by omega
          subst e; exact H.out
        go_wp2_with fail
        go_ret2
        exact ⟨by rw [HF.out.1, HF.out.2]; rfl, rfl⟩
set_option maxHeartbeats 400000 in
theorem kids_any (l id : Int) (w : World) (L0 : -9223372036854775808 ≤ l) (L1 : l ≤ 9223372036854775807) (N0 : -9223372036854775808 ≤ id) (N1 : id ≤ 9223372036854775807) :
    Calls Tryz.prog 130 #[.int .i64 l, .int .i64 id] w fun e w' => e = .returned (.tuple #[.int .i64 (kidN l id), .int .i64 (kid2N l id), .bool (kidB l id)]) ∧ w = w' := by
  by_cases h : RightC l id
  · have hu := right_yes h
    by_cases h2 : LeafC l id
    · have H := Lib.hid (kid_no (l := l) (id := id) (fun g => g.2 h2))
      have hf := isLeaf_yes h2
      clear h h2
      go_enter Tryz.func130, Tryz.ntmps130
      go_wp2_with (first | (go_at_call 132; refine (right_any _ _ _ L0 L1 N0 N1).mono ?_; rintro e w1 ⟨rfl, rfl⟩) | (go_at_call 150; refine (isLeaf_any _ _ _ L0 L1 N0 N1).mono ?_; rintro e w1 ⟨rfl, rfl⟩))
      go_ret3
      exact ⟨by rw [H.out.1, H.out.2.1, H.out.2.2]; rfl, rfl⟩
    · have H := Lib.hid (kid_yes (l := l) (id := id) ⟨h, h2⟩)
      have hf := isLeaf_no h2
      have hk := right_id h N1
      have hk0 := h.2.2.1
      clear h h2
      go_enter Tryz.func130, Tryz.ntmps130
      go_wp2_with (first | (go_at_call 132; refine (right_any _ _ _ L0 L1 N0 N1).mono ?_; rintro e w1 ⟨rfl, rfl⟩) | (go_at_call 150; refine (isLeaf_any _ _ _ L0 L1 N0 N1).mono ?_; rintro e w1 ⟨rfl, rfl⟩))
      go_ret3
      exact ⟨by rw [H.out.1, H.out.2.1, H.out.2.2]; rfl, rfl⟩
  · have hu := right_no h
    have H := Lib.hid (kid_no (l := l) (id := id) (fun g => h g.1))
    clear h
    go_enter Tryz.func130, Tryz.ntmps130
    go_wp2_with (first | (go_at_call 132; refine (right_any _ _ _ L0 L1 N0 N1).mono ?_; rintro e w1 ⟨rfl, rfl⟩) | (go_at_call 150; refine (isLeaf_any _ _ _ L0 L1 N0 N1).mono ?_; rintro e w1 ⟨rfl, rfl⟩))
    go_ret3
    exact ⟨by rw [H.out.1, H.out.2.1, H.out.2.2]; rfl, rfl⟩
set_option maxHeartbeats 400000 in
theorem pru_any (id d : Int) (w : World) (N0 : -9223372036854775808 ≤ id) (N1 : id ≤ 9223372036854775807) (B0 : -9223372036854775808 ≤ d) (B1 : d ≤ 9223372036854775807) :
    Calls Tryz.prog 41 #[.int .i64 id, .int .i64 d] w fun e w' => e = .returned (.tuple #[.int .i64 (pruN id d), .bool (pruB id d)]) ∧ w = w' := by
  rcases (show ¬ 1 ≤ id ∨ (1 ≤ id ∧ d < 0) ∨ (1 ≤ id ∧ 0 ≤ d ∧ logN id ≤ d) ∨ (1 ≤ id ∧ 0 ≤ d ∧ d < logN id) by omega) with h | h | h | h
  · have H := Lib.hid (pru_no (id := id) (d := d) (by unfold PruC; omega))
    have hb := (log_no h).2
    clear h
    go_enter Tryz.func41, Tryz.ntmps41
    go_wp2_with (go_at_call 63; refine (depth_any _ _ N0 N1).mono ?_; rintro e w1 ⟨rfl, rfl⟩)
    go_ret2
    exact ⟨by rw [H.out.1, H.out.2]; rfl, rfl⟩
  · have H := Lib.hid (pru_no (id := id) (d := d) (by unfold PruC; omega))
    have hb := (log_yes h.1).2
    have h2 := h.2
    clear h
    go_enter Tryz.func41, Tryz.ntmps41
    go_wp2_with (go_at_call 63; refine (depth_any _ _ N0 N1).mono ?_; rintro e w1 ⟨rfl, rfl⟩)
    go_ret2
    exact ⟨by rw [H.out.1, H.out.2]; rfl, rfl⟩
  · have H : Hid (pruN id d = id ∧ pruB id d = true) := by
      have := pru_yes (id := id) (d := d) (by unfold PruC; omega)
      rw [show (logN id - d).toNat = 0 by omega] at this
      exact ⟨this.1.trans (by simp), this.2⟩
    have hb := (log_yes h.1).2
    obtain ⟨h1, h2, h3⟩ := h
    go_enter Tryz.func41, Tryz.ntmps41
    go_wp2_with (go_at_call 63; refine (depth_any _ _ N0 N1).mono ?_; rintro e w1 ⟨rfl, rfl⟩)
    go_ret2
    exact ⟨by rw [H.out.1, H.out.2]; rfl, rfl⟩
  · have H : Hid (pruN id d = tUpN id (logN id - d) ∧ pruB id d = tUpB id (logN id - d)) := by
      have h1 := pru_yes (id := id) (d := d) (by unfold PruC; omega)
      have h2 := tUp_yes (id := id) (b := logN id - d) (by unfold tUpC; omega)
      exact ⟨h1.1.trans h2.1.symm, h1.2.trans h2.2.symm⟩
    have hb := (log_yes h.1).2
    have hl := log_bd N1
    obtain ⟨h1, h2, h3⟩ := h
    go_enter Tryz.func41, Tryz.ntmps41
    go_wp2_with (first | (go_at_call 63; refine (depth_any _ _ N0 N1).mono ?_; rintro e w1 ⟨rfl, rfl⟩) | (go_at_call 76; refine (tUp_any _ _ _ N0 N1 (by omega) (by omega)).mono ?_; rintro e w1 ⟨rfl, rfl⟩))
    go_ret2
    exact ⟨by rw [H.out.1, H.out.2]; rfl, rfl⟩
set_option maxHeartbeats 800000 in
theorem gra_any (id b : Int) (w : World) (N0 : -9223372036854775808 ≤ id) (N1 : id ≤ 9223372036854775807) (B0 : -9223372036854775808 ≤ b) (B1 : b ≤ 9223372036854775807) :
    Calls Tryz.prog 29 #[.int .i64 id, .int .i64 b] w fun e w' => Ans2 (graN id b) (graB id b) w w' e := by
  have hl := log_bd N1
  rcases (show ¬ 1 ≤ id ∨ (1 ≤ id ∧ b < 0) ∨ (1 ≤ id ∧ 0 ≤ b ∧ 9223372036854775807 < logN id + b) ∨ (1 ≤ id ∧ 0 ≤ b ∧ logN id + b ≤ 9223372036854775807 ∧ 48 < logN id + b) ∨ (1 ≤ id ∧ 0 ≤ b ∧ logN id + b ≤ 48) by omega) with h | h | h | h | h
  · have H := Lib.hid (gra_no (id := id) (b := b) (by unfold GraC; omega))
    have hb := (log_no h).2
    clear h
    go_enter Tryz.func29, Tryz.ntmps29
    go_wp2_with (go_at_call 63; refine (depth_any _ _ N0 N1).mono ?_; rintro e w1 ⟨rfl, rfl⟩)
    go_ret2
    exact ans2 H.out (Below.refl _ _)
  · have H := Lib.hid (gra_no (id := id) (b := b) (by unfold GraC; omega))
    have hb := (log_yes h.1).2
    have hs := sum_no (a := logN id) (b := b) (by omega)
    obtain ⟨hs1, hs2⟩ := hs
    clear h
    go_enter Tryz.func29, Tryz.ntmps29
    go_wp2_with (go_at_call 63; refine (depth_any _ _ N0 N1).mono ?_; rintro e w1 ⟨rfl, rfl⟩)
    refine (add_any _ _ _ (by omega) (by omega) B0 B1).mono ?_
    rintro e w1 ⟨rfl, G1⟩
    go_wp2_with fail
    go_ret2
    exact ans2 H.out G1
  · have H := Lib.hid (gra_no (id := id) (b := b) (by unfold GraC; omega))
    have hb := (log_yes h.1).2
    have hs := sum_no (a := logN id) (b := b) (by omega)
    obtain ⟨hs1, hs2⟩ := hs
    clear h
    go_enter Tryz.func29, Tryz.ntmps29
    go_wp2_with (go_at_call 63; refine (depth_any _ _ N0 N1).mono ?_; rintro e w1 ⟨rfl, rfl⟩)
    refine (add_any _ _ _ (by omega) (by omega) B0 B1).mono ?_
    rintro e w1 ⟨rfl, G1⟩
    go_wp2_with fail
    go_ret2
    exact ans2 H.out G1
  · have H := Lib.hid (gra_no (id := id) (b := b) (by unfold GraC; omega))
    have hb := (log_yes h.1).2
    have hs := sum_yes (a := logN id) (b := b) (by omega)
    obtain ⟨hs1, hs2⟩ := hs
    obtain ⟨_, h2, h3, h4⟩ := h
    go_enter Tryz.func29, Tryz.ntmps29
    go_wp2_with (go_at_call 63; refine (depth_any _ _ N0 N1).mono ?_; rintro e w1 ⟨rfl, rfl⟩)
    refine (add_any _ _ _ (by omega) (by omega) B0 B1).mono ?_
    rintro e w1 ⟨rfl, G1⟩
    go_wp2_with fail
    go_ret2
    exact ans2 H.out G1
  · have H := Lib.hid (gra_yes (id := id) (b := b) (by unfold GraC; omega))
    have hb := (log_yes h.1).2
    have hs := sum_yes (a := logN id) (b := b) (by omega)
    obtain ⟨hs1, hs2⟩ := hs
    obtain ⟨_, h2, h3⟩ := h
    have b1 : (2 : Int) ^ (logN id).toNat ≤ 281474976710656 := two_le _ 48 (by omega)
    have b0 : (0 : Int) < 2 ^ (logN id).toNat := two_pos _
    have c1 : (2 : Int) ^ (logN id + b).toNat ≤ 281474976710656 := two_le _ 48 (by omega)
    have c0 : (0 : Int) < 2 ^ (logN id + b).toNat := two_pos _
    have i1 : 1 ≤ id := by omega
    have i2 : id ≤ 562949953421312 := by
      obtain ⟨k, _, e, _, hd⟩ := dep_of i1 N1
      have := two_le k 48 (by omega)
      have := hd.2
      omega
    go_enter Tryz.func29, Tryz.ntmps29
    go_wp2_with (go_at_call 63; refine (depth_any _ _ N0 N1).mono ?_; rintro e w1 ⟨rfl, rfl⟩)
    refine (add_any _ _ _ (by omega) (by omega) B0 B1).mono ?_
    rintro e w1 ⟨rfl, G1⟩
    go_wp2_with fail
    go_region
    go_wp2_with fail
    go_ret2
    exact ans2 H.out G1.drew

end Go.Proofs.YtachfeclgdgbiaaGreat
