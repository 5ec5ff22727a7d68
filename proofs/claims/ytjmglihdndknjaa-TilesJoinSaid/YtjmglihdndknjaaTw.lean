/- The project's package twig: each call answers what the plain numbers say, and nothing that was there before is changed. -/
import Derived.Test.YtjmglihdndknjaaRk
import Derived.Test.YtjmglihdndknjaaCore
namespace Go.Proofs.Ytjmglihdndknjaa
set_option linter.unusedVariables false
open Go.RowKit

theorem universe_any (l : Int) (w : World) (L0 : -9223372036854775808 ≤ l) (L1 : l ≤ 9223372036854775807) :
    Calls Try.prog 50 #[.int .i64 l] w fun e w' => e = .returned (.bool (uniB l)) ∧ w = w' := by
  rcases (show l < 1 ∨ (1 ≤ l ∧ 48 < l) ∨ (1 ≤ l ∧ l ≤ 48) by omega) with h | h | h
  · have H := Lib.hid (uni_no (l := l) (by omega))
    go_enter Try.func50, Try.ntmps50
    go_wp2_with fail
    go_ret
    exact ⟨by rw [H.out]; rfl, rfl⟩
  · have H := Lib.hid (uni_no (l := l) (by omega))
    obtain ⟨h1, h2⟩ := h
    go_enter Try.func50, Try.ntmps50
    go_wp2_with fail
    go_ret
    exact ⟨ret_b (by rw [H.out]; exact decide_eq_false (by omega)), rfl⟩
  · have H := Lib.hid (uni_yes (l := l) (by omega))
    obtain ⟨h1, h2⟩ := h
    go_enter Try.func50, Try.ntmps50
    go_wp2_with fail
    go_ret
    exact ⟨by rw [H.out]; rfl, rfl⟩
theorem depth_any (id : Int) (w : World) (N0 : -9223372036854775808 ≤ id) (N1 : id ≤ 9223372036854775807) :
    Calls Try.prog 37 #[.int .i64 id] w fun e w' => e = .returned (.tuple #[.int .i64 (logN id), .bool (logB id)]) ∧ w = w' := by
  go_enter Try.func37, Try.ntmps37
  go_wp2_with fail
  refine (log_any _ _ N0 N1).mono ?_
  rintro e w1 ⟨rfl, rfl⟩
  go_wp2_with fail
  go_ret2
  exact ⟨rfl, rfl⟩
set_option maxHeartbeats 400000 in
theorem isLeaf_any (l id : Int) (w : World) (L0 : -9223372036854775808 ≤ l) (L1 : l ≤ 9223372036854775807) (N0 : -9223372036854775808 ≤ id) (N1 : id ≤ 9223372036854775807) :
    Calls Try.prog 52 #[.int .i64 l, .int .i64 id] w fun e w' => e = .returned (.bool (isLeafB l id)) ∧ w = w' := by
  rcases (show ¬ 1 ≤ id ∨ (1 ≤ id ∧ ¬ (1 ≤ l ∧ l ≤ 48)) ∨ (1 ≤ id ∧ 1 ≤ l ∧ l ≤ 48 ∧ ¬ logN id = l) ∨ (1 ≤ id ∧ 1 ≤ l ∧ l ≤ 48 ∧ logN id = l) by omega) with h | h | h | h
  · have H := Lib.hid (isLeaf_no (l := l) (id := id) (by unfold LeafC; omega))
    have hb := (log_no h).2
    clear h
    go_enter Try.func52, Try.ntmps52
    go_wp2_with (go_at_call 37; refine (depth_any _ _ N0 N1).mono ?_; rintro e w1 ⟨rfl, rfl⟩)
    go_ret
    exact ⟨by rw [H.out]; rfl, rfl⟩
  · have H := Lib.hid (isLeaf_no (l := l) (id := id) (by unfold LeafC; omega))
    have hb := (log_yes h.1).2
    have hu := uni_no h.2
    clear h
    go_enter Try.func52, Try.ntmps52
    go_wp2_with (first | (go_at_call 37; refine (depth_any _ _ N0 N1).mono ?_; rintro e w1 ⟨rfl, rfl⟩) | (go_at_call 50; refine (universe_any _ _ L0 L1).mono ?_; rintro e w1 ⟨rfl, rfl⟩))
    go_ret
    exact ⟨by rw [H.out]; rfl, rfl⟩
  · have H := Lib.hid (isLeaf_no (l := l) (id := id) (by unfold LeafC; omega))
    have hb := (log_yes h.1).2
    have hu := uni_yes ⟨h.2.1, h.2.2.1⟩
    have hd : (logN id == l) = false := by simpa using h.2.2.2
    clear h
    go_enter Try.func52, Try.ntmps52
    go_wp2_with (first | (go_at_call 37; refine (depth_any _ _ N0 N1).mono ?_; rintro e w1 ⟨rfl, rfl⟩) | (go_at_call 50; refine (universe_any _ _ L0 L1).mono ?_; rintro e w1 ⟨rfl, rfl⟩))
    go_ret
    exact ⟨by rw [H.out]; rfl, rfl⟩
  · have H := Lib.hid (isLeaf_yes (l := l) (id := id) (by unfold LeafC; omega))
    have hb := (log_yes h.1).2
    have hu := uni_yes ⟨h.2.1, h.2.2.1⟩
    have hd : (logN id == l) = true := by simpa using h.2.2.2
    clear h
    go_enter Try.func52, Try.ntmps52
    go_wp2_with (first | (go_at_call 37; refine (depth_any _ _ N0 N1).mono ?_; rintro e w1 ⟨rfl, rfl⟩) | (go_at_call 50; refine (universe_any _ _ L0 L1).mono ?_; rintro e w1 ⟨rfl, rfl⟩))
    go_ret
    exact ⟨by rw [H.out]; rfl, rfl⟩
set_option maxHeartbeats 400000 in
theorem right_any (l id : Int) (w : World) (L0 : -9223372036854775808 ≤ l) (L1 : l ≤ 9223372036854775807) (N0 : -9223372036854775808 ≤ id) (N1 : id ≤ 9223372036854775807) :
    Calls Try.prog 36 #[.int .i64 l, .int .i64 id] w fun e w' => e = .returned (.bool (rightB l id)) ∧ w = w' := by
  rcases (show ¬ 1 ≤ id ∨ (1 ≤ id ∧ ¬ (1 ≤ l ∧ l ≤ 48)) ∨ (1 ≤ id ∧ 1 ≤ l ∧ l ≤ 48 ∧ ¬ logN id ≤ l) ∨ (1 ≤ id ∧ 1 ≤ l ∧ l ≤ 48 ∧ logN id ≤ l) by omega) with h | h | h | h
  · have H := Lib.hid (right_no (l := l) (id := id) (by unfold RightC; omega))
    have hb := (log_no h).2
    clear h
    go_enter Try.func36, Try.ntmps36
    go_wp2_with (go_at_call 37; refine (depth_any _ _ N0 N1).mono ?_; rintro e w1 ⟨rfl, rfl⟩)
    go_ret
    exact ⟨by rw [H.out]; rfl, rfl⟩
  · have H := Lib.hid (right_no (l := l) (id := id) (by unfold RightC; omega))
    have hb := (log_yes h.1).2
    have hu := uni_no h.2
    clear h
    go_enter Try.func36, Try.ntmps36
    go_wp2_with (first | (go_at_call 37; refine (depth_any _ _ N0 N1).mono ?_; rintro e w1 ⟨rfl, rfl⟩) | (go_at_call 50; refine (universe_any _ _ L0 L1).mono ?_; rintro e w1 ⟨rfl, rfl⟩))
    go_ret
    exact ⟨by rw [H.out]; rfl, rfl⟩
  · have H := Lib.hid (right_no (l := l) (id := id) (by unfold RightC; omega))
    have hb := (log_yes h.1).2
    have hu := uni_yes ⟨h.2.1, h.2.2.1⟩
    have hd : l < logN id := by omega
    clear h
    go_enter Try.func36, Try.ntmps36
    go_wp2_with (first | (go_at_call 37; refine (depth_any _ _ N0 N1).mono ?_; rintro e w1 ⟨rfl, rfl⟩) | (go_at_call 50; refine (universe_any _ _ L0 L1).mono ?_; rintro e w1 ⟨rfl, rfl⟩))
    go_ret
    exact ⟨ret_b (by rw [H.out]; exact decide_eq_false (by omega)), rfl⟩
  · have H := Lib.hid (right_yes (l := l) (id := id) (by unfold RightC; omega))
    have hb := (log_yes h.1).2
    have hu := uni_yes ⟨h.2.1, h.2.2.1⟩
    have hd := h.2.2.2
    clear h
    go_enter Try.func36, Try.ntmps36
    go_wp2_with (first | (go_at_call 37; refine (depth_any _ _ N0 N1).mono ?_; rintro e w1 ⟨rfl, rfl⟩) | (go_at_call 50; refine (universe_any _ _ L0 L1).mono ?_; rintro e w1 ⟨rfl, rfl⟩))
    go_ret
    exact ⟨by rw [H.out]; rfl, rfl⟩
set_option maxHeartbeats 400000 in
theorem leaf_any (l x : Int) (w : World) (L0 : -9223372036854775808 ≤ l) (L1 : l ≤ 9223372036854775807) (X0 : -9223372036854775808 ≤ x) (X1 : x ≤ 9223372036854775807) :
    Calls Try.prog 38 #[.int .i64 l, .int .i64 x] w fun e w' => e = .returned (.tuple #[.int .i64 (leafN l x), .bool (leafB l x)]) ∧ w = w' := by
  rcases (show ¬ (1 ≤ l ∧ l ≤ 48) ∨ ((1 ≤ l ∧ l ≤ 48) ∧ x < 0) ∨ ((1 ≤ l ∧ l ≤ 48) ∧ 0 ≤ x ∧ 2 ^ l.toNat ≤ x) ∨ ((1 ≤ l ∧ l ≤ 48) ∧ 0 ≤ x ∧ x < 2 ^ l.toNat) by omega) with h | h | h | h
  · have H := Lib.hid (leaf_no (l := l) (x := x) (by unfold ValC; omega))
    have hu := uni_no h
    clear h
    go_enter Try.func38, Try.ntmps38
    go_wp2_with (go_at_call 50; refine (universe_any _ _ L0 L1).mono ?_; rintro e w1 ⟨rfl, rfl⟩)
    go_ret2
    exact ⟨by rw [H.out.1, H.out.2]; rfl, rfl⟩
  all_goals
    have hu := uni_yes h.1
    have b1 : (2 : Int) ^ l.toNat ≤ 281474976710656 := two_le l.toNat 48 (by omega)
    have b0 : (0 : Int) < 2 ^ l.toNat := two_pos _
    obtain ⟨h1, h2⟩ := h.1
  · have H := Lib.hid (leaf_no (l := l) (x := x) (by unfold ValC; omega))
    have h3 := h.2
    clear h
    go_enter Try.func38, Try.ntmps38
    go_wp2_with (go_at_call 50; refine (universe_any _ _ L0 L1).mono ?_; rintro e w1 ⟨rfl, rfl⟩)
    go_ret2
    exact ⟨by rw [H.out.1, H.out.2]; rfl, rfl⟩
  · have H := Lib.hid (leaf_no (l := l) (x := x) (by unfold ValC; omega))
    obtain ⟨_, h3, h4⟩ := h
    go_enter Try.func38, Try.ntmps38
    go_wp2_with (go_at_call 50; refine (universe_any _ _ L0 L1).mono ?_; rintro e w1 ⟨rfl, rfl⟩)
    go_ret2
    exact ⟨by rw [H.out.1, H.out.2]; rfl, rfl⟩
  · have H := Lib.hid (leaf_yes (l := l) (x := x) (by unfold ValC; omega))
    obtain ⟨_, h3, h4⟩ := h
    go_enter Try.func38, Try.ntmps38
    go_wp2_with (go_at_call 50; refine (universe_any _ _ L0 L1).mono ?_; rintro e w1 ⟨rfl, rfl⟩)
    go_ret2
    exact ⟨by rw [H.out.1, H.out.2]; rfl, rfl⟩
set_option maxHeartbeats 400000 in
theorem ends_any (l id : Int) (w : World) (L0 : -9223372036854775808 ≤ l) (L1 : l ≤ 9223372036854775807) (N0 : -9223372036854775808 ≤ id) (N1 : id ≤ 9223372036854775807) :
    Calls Try.prog 22 #[.int .i64 l, .int .i64 id] w fun e w' => e = .returned (.tuple #[.int .i64 (loN l id), .int .i64 (hiN l id), .bool (endB l id)]) ∧ w = w' := by
  by_cases h : RightC l id
  · have H := Lib.hid (end_yes h)
    have hu := right_yes h
    have hw := Lib.hid (wid_bd h N1)
    obtain ⟨h1, h2, h3, h4⟩ := h
    have hl := log_bd N1
    have b1 : (2 : Int) ^ l.toNat ≤ 281474976710656 := two_le l.toNat 48 (by omega)
    have b0 : (0 : Int) < 2 ^ l.toNat := two_pos _
    have c1 : (2 : Int) ^ (l - logN id).toNat ≤ 281474976710656 := two_le (l - logN id).toNat 48 (by omega)
    have c0 : (0 : Int) < 2 ^ (l - logN id).toNat := two_pos _
    have d0 : 0 ≤ id * 2 ^ (l - logN id).toNat := by have := hw.out; unfold wid at this; omega
    have d1 : id * 2 ^ (l - logN id).toNat ≤ 562949953421312 := by have := hw.out; unfold wid at this; omega
    go_enter Try.func22, Try.ntmps22
    go_wp2_with (first | (go_at_call 36; refine (right_any _ _ _ L0 L1 N0 N1).mono ?_; rintro e w1 ⟨rfl, rfl⟩) | (go_at_call 37; refine (depth_any _ _ N0 N1).mono ?_; rintro e w1 ⟨rfl, rfl⟩))
    go_ret3
    exact ⟨by rw [H.out.1, H.out.2.1, H.out.2.2]; rfl, rfl⟩
  · have H := Lib.hid (end_no h)
    have hu := right_no h
    clear h
    go_enter Try.func22, Try.ntmps22
    go_wp2_with (go_at_call 36; refine (right_any _ _ _ L0 L1 N0 N1).mono ?_; rintro e w1 ⟨rfl, rfl⟩)
    go_ret3
    exact ⟨by rw [H.out.1, H.out.2.1, H.out.2.2]; rfl, rfl⟩
set_option maxHeartbeats 400000 in
theorem tUp_any (id b : Int) (w : World) (N0 : -9223372036854775808 ≤ id) (N1 : id ≤ 9223372036854775807) (B0 : -9223372036854775808 ≤ b) (B1 : b ≤ 9223372036854775807) :
    Calls Try.prog 48 #[.int .i64 id, .int .i64 b] w fun e w' => e = .returned (.tuple #[.int .i64 (tUpN id b), .bool (tUpB id b)]) ∧ w = w' := by
  rcases (show ¬ 1 ≤ id ∨ (1 ≤ id ∧ b < 0) ∨ (1 ≤ id ∧ 0 ≤ b ∧ logN id < b) ∨ (1 ≤ id ∧ 0 ≤ b ∧ b ≤ logN id) by omega) with h | h | h | h
  · have H := Lib.hid (tUp_no (id := id) (b := b) (by unfold tUpC; omega))
    have hb := (log_no h).2
    clear h
    go_enter Try.func48, Try.ntmps48
    go_wp2_with (go_at_call 37; refine (depth_any _ _ N0 N1).mono ?_; rintro e w1 ⟨rfl, rfl⟩)
    go_ret2
    exact ⟨by rw [H.out.1, H.out.2]; rfl, rfl⟩
  · have H := Lib.hid (tUp_no (id := id) (b := b) (by unfold tUpC; omega))
    have hb := (log_yes h.1).2
    have h2 := h.2
    clear h
    go_enter Try.func48, Try.ntmps48
    go_wp2_with (go_at_call 37; refine (depth_any _ _ N0 N1).mono ?_; rintro e w1 ⟨rfl, rfl⟩)
    go_ret2
    exact ⟨by rw [H.out.1, H.out.2]; rfl, rfl⟩
  · have H := Lib.hid (tUp_no (id := id) (b := b) (by unfold tUpC; omega))
    have hb := (log_yes h.1).2
    obtain ⟨_, h2, h3⟩ := h
    go_enter Try.func48, Try.ntmps48
    go_wp2_with (go_at_call 37; refine (depth_any _ _ N0 N1).mono ?_; rintro e w1 ⟨rfl, rfl⟩)
    go_ret2
    exact ⟨by rw [H.out.1, H.out.2]; rfl, rfl⟩
  · have H := Lib.hid (tUp_yes (id := id) (b := b) (by unfold tUpC; omega))
    have hb := (log_yes h.1).2
    have hl := log_bd N1
    obtain ⟨h1, h2, h3⟩ := h
    go_enter Try.func48, Try.ntmps48
    go_wp2_with (go_at_call 37; refine (depth_any _ _ N0 N1).mono ?_; rintro e w1 ⟨rfl, rfl⟩)
    go_loop [0, 25] (fun n i => ∃ k : Nat, n = .int .i64 (id / 2 ^ k) ∧ i = .int .i64 k ∧ (k : Int) ≤ b) (fun _ i => (b - intOf i).toNat)
    case atStart => exact ⟨0, by simp, rfl, h2⟩
    case round =>
      obtain ⟨k, rfl, rfl, hk⟩ := hrel
      have hd0 : 0 ≤ id / 2 ^ k := Int.ediv_nonneg (by omega) (Int.le_of_lt (two_pos k))
      have hd1 : id / 2 ^ k ≤ id := Int.ediv_le_self _ (by omega)
      by_cases hlt : (k : Int) < b
      · have HN := Lib.hid (div_half id k)
        go_wp2_with fail
        go_round
        case rel => exact ⟨k + 1, by rw [HN.out], by go_num, by omega⟩
        case measure => simp [intOf]; omega
      · have HF : Hid (tUpN id b = id / 2 ^ k ∧ tUpB id b = true) := by
          have e : k = b.toNat := by omega
          subst e; exact H.out
        go_wp2_with fail
        go_ret2
        exact ⟨by rw [HF.out.1, HF.out.2]; rfl, rfl⟩
theorem nat_xor_one (a : Nat) : a ^^^ 1 = if a % 2 = 0 then a + 1 else a - 1 := by
  have h1 : (a ^^^ 1) / 2 = a / 2 := by rw [Nat.xor_div_two]; simp
  have h2 := @Nat.xor_mod_two_eq_one a 1
  have h3 : ((a ^^^ 1) % 2 = 1) ↔ ¬ (a % 2 = 1) := by rw [h2]; simp
  clear h2
  split <;> omega
theorem i64_xor_one (a : Int) (h0 : 1 ≤ a) (h1 : a ≤ 9223372036854775807) : bits .xor .i64 a 1 = if a % 2 = 0 then a + 1 else a - 1 := by
  obtain ⟨n, rfl⟩ := Int.eq_ofNat_of_zero_le (show 0 ≤ a by omega)
  have e : (BitVec.ofInt 64 (n : Int)).toNat = n := by
    rw [BitVec.ofInt_natCast, BitVec.toNat_ofNat]; exact Nat.mod_eq_of_lt (by omega)
  show IntKind.i64.wrap ((BitVec.ofInt 64 (n : Int) ^^^ BitVec.ofInt 64 (1 : Int)).toNat : Int) = _
  rw [BitVec.toNat_xor, e, show (BitVec.ofInt 64 (1 : Int)).toNat = 1 from rfl, nat_xor_one, IntKind.wrap_i64]
  by_cases g : n % 2 = 0
  · rw [if_pos g, if_pos (by omega)]; omega
  · rw [if_neg g, if_neg (by omega)]; omega
set_option maxHeartbeats 400000 in
theorem pair_any (id : Int) (w : World) (N0 : -9223372036854775808 ≤ id) (N1 : id ≤ 9223372036854775807) :
    Calls Try.prog 23 #[.int .i64 id] w fun e w' => e = .returned (.tuple #[.int .i64 (pairN id), .bool (pairB id)]) ∧ w = w' := by
  by_cases h : 2 ≤ id
  · have H := Lib.hid (pair_yes h)
    go_enter Try.func23, Try.ntmps23
    go_wp2_with fail
    go_ret2
    exact ⟨by rw [H.out.1, H.out.2, ← i64_xor_one id (by omega) N1]; rfl, rfl⟩
  · have H := Lib.hid (pair_no h)
    go_enter Try.func23, Try.ntmps23
    go_wp2_with fail
    go_ret2
    exact ⟨by rw [H.out.1, H.out.2]; rfl, rfl⟩
set_option maxHeartbeats 400000 in
theorem kids_any (l id : Int) (w : World) (L0 : -9223372036854775808 ≤ l) (L1 : l ≤ 9223372036854775807) (N0 : -9223372036854775808 ≤ id) (N1 : id ≤ 9223372036854775807) :
    Calls Try.prog 40 #[.int .i64 l, .int .i64 id] w fun e w' => e = .returned (.tuple #[.int .i64 (kidN l id), .int .i64 (kid2N l id), .bool (kidB l id)]) ∧ w = w' := by
  by_cases h : RightC l id
  · have hu := right_yes h
    by_cases h2 : LeafC l id
    · have H := Lib.hid (kid_no (l := l) (id := id) (fun g => g.2 h2))
      have hf := isLeaf_yes h2
      clear h h2
      go_enter Try.func40, Try.ntmps40
      go_wp2_with (first | (go_at_call 36; refine (right_any _ _ _ L0 L1 N0 N1).mono ?_; rintro e w1 ⟨rfl, rfl⟩) | (go_at_call 52; refine (isLeaf_any _ _ _ L0 L1 N0 N1).mono ?_; rintro e w1 ⟨rfl, rfl⟩))
      go_ret3
      exact ⟨by rw [H.out.1, H.out.2.1, H.out.2.2]; rfl, rfl⟩
    · have H := Lib.hid (kid_yes (l := l) (id := id) ⟨h, h2⟩)
      have hf := isLeaf_no h2
      have hk := right_id h N1
      have hk0 := h.2.2.1
      clear h h2
      go_enter Try.func40, Try.ntmps40
      go_wp2_with (first | (go_at_call 36; refine (right_any _ _ _ L0 L1 N0 N1).mono ?_; rintro e w1 ⟨rfl, rfl⟩) | (go_at_call 52; refine (isLeaf_any _ _ _ L0 L1 N0 N1).mono ?_; rintro e w1 ⟨rfl, rfl⟩))
      go_ret3
      exact ⟨by rw [H.out.1, H.out.2.1, H.out.2.2]; rfl, rfl⟩
  · have hu := right_no h
    have H := Lib.hid (kid_no (l := l) (id := id) (fun g => h g.1))
    clear h
    go_enter Try.func40, Try.ntmps40
    go_wp2_with (first | (go_at_call 36; refine (right_any _ _ _ L0 L1 N0 N1).mono ?_; rintro e w1 ⟨rfl, rfl⟩) | (go_at_call 52; refine (isLeaf_any _ _ _ L0 L1 N0 N1).mono ?_; rintro e w1 ⟨rfl, rfl⟩))
    go_ret3
    exact ⟨by rw [H.out.1, H.out.2.1, H.out.2.2]; rfl, rfl⟩
set_option maxHeartbeats 400000 in
theorem pru_any (id d : Int) (w : World) (N0 : -9223372036854775808 ≤ id) (N1 : id ≤ 9223372036854775807) (B0 : -9223372036854775808 ≤ d) (B1 : d ≤ 9223372036854775807) :
    Calls Try.prog 53 #[.int .i64 id, .int .i64 d] w fun e w' => e = .returned (.tuple #[.int .i64 (pruN id d), .bool (pruB id d)]) ∧ w = w' := by
  rcases (show ¬ 1 ≤ id ∨ (1 ≤ id ∧ d < 0) ∨ (1 ≤ id ∧ 0 ≤ d ∧ logN id ≤ d) ∨ (1 ≤ id ∧ 0 ≤ d ∧ d < logN id) by omega) with h | h | h | h
  · have H := Lib.hid (pru_no (id := id) (d := d) (by unfold PruC; omega))
    have hb := (log_no h).2
    clear h
    go_enter Try.func53, Try.ntmps53
    go_wp2_with (go_at_call 37; refine (depth_any _ _ N0 N1).mono ?_; rintro e w1 ⟨rfl, rfl⟩)
    go_ret2
    exact ⟨by rw [H.out.1, H.out.2]; rfl, rfl⟩
  · have H := Lib.hid (pru_no (id := id) (d := d) (by unfold PruC; omega))
    have hb := (log_yes h.1).2
    have h2 := h.2
    clear h
    go_enter Try.func53, Try.ntmps53
    go_wp2_with (go_at_call 37; refine (depth_any _ _ N0 N1).mono ?_; rintro e w1 ⟨rfl, rfl⟩)
    go_ret2
    exact ⟨by rw [H.out.1, H.out.2]; rfl, rfl⟩
  · have H : Hid (pruN id d = id ∧ pruB id d = true) := by
      have := pru_yes (id := id) (d := d) (by unfold PruC; omega)
      rw [show (logN id - d).toNat = 0 by omega] at this
      exact ⟨this.1.trans (by simp), this.2⟩
    have hb := (log_yes h.1).2
    obtain ⟨h1, h2, h3⟩ := h
    go_enter Try.func53, Try.ntmps53
    go_wp2_with (go_at_call 37; refine (depth_any _ _ N0 N1).mono ?_; rintro e w1 ⟨rfl, rfl⟩)
    go_ret2
    exact ⟨by rw [H.out.1, H.out.2]; rfl, rfl⟩
  · have H : Hid (pruN id d = tUpN id (logN id - d) ∧ pruB id d = tUpB id (logN id - d)) := by
      have h1 := pru_yes (id := id) (d := d) (by unfold PruC; omega)
      have h2 := tUp_yes (id := id) (b := logN id - d) (by unfold tUpC; omega)
      exact ⟨h1.1.trans h2.1.symm, h1.2.trans h2.2.symm⟩
    have hb := (log_yes h.1).2
    have hl := log_bd N1
    obtain ⟨h1, h2, h3⟩ := h
    go_enter Try.func53, Try.ntmps53
    go_wp2_with (first | (go_at_call 37; refine (depth_any _ _ N0 N1).mono ?_; rintro e w1 ⟨rfl, rfl⟩) | (go_at_call 48; refine (tUp_any _ _ _ N0 N1 (by omega) (by omega)).mono ?_; rintro e w1 ⟨rfl, rfl⟩))
    go_ret2
    exact ⟨by rw [H.out.1, H.out.2]; rfl, rfl⟩
set_option maxHeartbeats 800000 in
theorem meet_any (a b : Int) (w : World) (N0 : -9223372036854775808 ≤ a) (N1 : a ≤ 9223372036854775807) (B0 : -9223372036854775808 ≤ b) (B1 : b ≤ 9223372036854775807) :
    Calls Try.prog 41 #[.int .i64 a, .int .i64 b] w fun e w' => e = .returned (.tuple #[.int .i64 (meetN a b), .bool (meetB a b)]) ∧ w = w' := by
  have hl := log_bd N1
  have hl2 := log_bd B1
  rcases (show ¬ 1 ≤ a ∨ (1 ≤ a ∧ ¬ 1 ≤ b) ∨ (1 ≤ a ∧ 1 ≤ b) by omega) with h | h | h
  · have H := Lib.hid (meet_no (a := a) (b := b) (by omega))
    have hb := (log_no h).2
    clear h
    go_enter Try.func41, Try.ntmps41
    go_wp2_with (go_at_call 37; refine (depth_any _ _ (by omega) (by omega)).mono ?_; rintro e w1 ⟨rfl, rfl⟩)
    go_ret2
    exact ⟨by rw [H.out.1, H.out.2]; rfl, rfl⟩
  · have H := Lib.hid (meet_no (a := a) (b := b) (by omega))
    have hb := (log_yes h.1).2
    have hc := (log_no h.2).2
    clear h
    go_enter Try.func41, Try.ntmps41
    go_wp2_with (go_at_call 37; refine (depth_any _ _ (by omega) (by omega)).mono ?_; rintro e w1 ⟨rfl, rfl⟩)
    go_ret2
    exact ⟨by rw [H.out.1, H.out.2]; rfl, rfl⟩
  · have H := Lib.hid (meet_yes h)
    have hb := (log_yes h.1).2
    have hc := (log_yes h.2).2
    have HP := Lib.hid (meet_prune h.1 h.2 N1 B1)
    obtain ⟨h1, h2⟩ := h
    go_enter Try.func41, Try.ntmps41
    go_wp2_with (first | (go_at_call 37; refine (depth_any _ _ (by omega) (by omega)).mono ?_; rintro e w1 ⟨rfl, rfl⟩) | (go_at_call 53; refine (pru_any _ _ _ (by omega) (by omega) (by omega) (by omega)).mono ?_; rintro e w1 ⟨rfl, rfl⟩))
    go_loop [0, 1] (fun n m => ∃ x y : Int, n = .int .i64 x ∧ m = .int .i64 y ∧ 1 ≤ x ∧ x ≤ a ∧ 1 ≤ y ∧ y ≤ b ∧ Hid (meetI a b = meetI x y ∧ ∃ k : Nat, AtDep x k ∧ AtDep y k)) (fun n _ => (intOf n).toNat)
    case atStart =>
      obtain ⟨p1, k, p2, p3, p4, p5⟩ := HP.out
      have := two_pos k
      exact ⟨_, _, rfl, rfl, by have := p2.1; omega, p4, by have := p3.1; omega, p5, p1, k, p2, p3⟩
    case round =>
      obtain ⟨x, y, rfl, rfl, x0, x1, y0, y1, HM⟩ := hrel
      by_cases hxy : x = y
      · have hf : (x == y) = true := by simpa using hxy
        have HF : Hid (meetN a b = x ∧ meetB a b = true) := by
          have h := HM.out.1
          rw [← hxy, meet_same x x0] at h
          exact ⟨H.out.1.trans h, H.out.2⟩
        have hne : (x != y) = false := by simp [hxy]
        clear hxy
        go_wp2_with fail
        go_ret2
        exact ⟨by rw [HF.out.1, HF.out.2]; rfl, rfl⟩
      · have hne : (x != y) = true := by simpa using hxy
        obtain ⟨m1, k, d1, d2⟩ := HM.out
        have hk : k ≠ 0 := fun g => by
          subst g
          have := dep_zero d1; have := dep_zero d2
          omega
        have HN : Hid (meetI a b = meetI (x / 2) (y / 2) ∧ ∃ k : Nat, AtDep (x / 2) k ∧ AtDep (y / 2) k) := by
          obtain ⟨j, rfl⟩ := Nat.exists_eq_succ_of_ne_zero hk
          exact ⟨m1.trans (meet_both d1 d2 hxy), j, dep_half d1, dep_half d2⟩
        have x2 : 2 ≤ x := by
          have := d1.1; have h1 := two_le 1 k (by omega); simp at h1; omega
        have y2 : 2 ≤ y := by
          have := d2.1; have h1 := two_le 1 k (by omega); simp at h1; omega
        clear m1 d1 d2 hk hxy HM
        go_wp2_with fail
        go_round
        case rel => exact ⟨x / 2, y / 2, rfl, rfl, by omega, by omega, by omega, by omega, HN.out⟩
        case measure => simp [intOf]; omega

end Go.Proofs.Ytjmglihdndknjaa
