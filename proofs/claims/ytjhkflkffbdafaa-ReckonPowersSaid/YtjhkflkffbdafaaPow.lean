/- Layer reckon, powers of two: the project's Log and Pow, and the document's answers: each returns what the plain numbers say. -/
import Derived.Test.YtjhkflkffbdafaaRec3
namespace Go.Proofs.Ytjhkflkffbdafaa
set_option linter.unusedVariables false
open Go.RowKit

/-- the greatest e for which 2 to the power e isn't above n -/
def logN (n : Int) : Int := onN (1 ≤ n) ((Lib.bitLen n.toNat : Int) - 1)
def logB (n : Int) : Bool := onB (1 ≤ n)
theorem log_yes {n : Int} (h : 1 ≤ n) : logN n = (Lib.bitLen n.toNat : Int) - 1 ∧ logB n = true := on_yes h _
theorem log_no {n : Int} (h : ¬ 1 ≤ n) : logN n = 0 ∧ logB n = false := on_no h _
def powN (e : Int) : Int := onN (0 ≤ e ∧ e ≤ 62) (2 ^ e.toNat)
def powB (e : Int) : Bool := onB (0 ≤ e ∧ e ≤ 62)
theorem pow_yes {e : Int} (h : 0 ≤ e ∧ e ≤ 62) : powN e = 2 ^ e.toNat ∧ powB e = true := on_yes h _
theorem pow_no {e : Int} (h : ¬ (0 ≤ e ∧ e ≤ 62)) : powN e = 0 ∧ powB e = false := on_no h _
theorem two_le (k n : Nat) (h : k ≤ n) : (2 : Int) ^ k ≤ 2 ^ n := by
  rw [← two_cast, ← two_cast]
  have := Nat.pow_le_pow_right (show 0 < 2 by decide) h
  omega

theorem len64_any (x : Int) (w : World) (h0 : 0 ≤ x) (h1 : x ≤ 18446744073709551615) :
    Calls Try.prog 47 #[.int .u64 x] w fun e w' => e = .returned (.int .i64 (Lib.bitLen x.toNat)) ∧ w = w' :=
  (Try.bits_Len64 x w h0 h1).mono fun _ _ ⟨a, b⟩ => ⟨a, b.symm⟩

set_option maxHeartbeats 400000 in
theorem log_any (n : Int) (w : World) (N0 : -9223372036854775808 ≤ n) (N1 : n ≤ 9223372036854775807) :
    Calls Try.prog 28 #[.int .i64 n] w fun e w' => e = .returned (.tuple #[.int .i64 (logN n), .bool (logB n)]) ∧ w = w' := by
  by_cases h : 1 ≤ n
  · have H := Lib.hid (log_yes h)
    have hb := Lib.bitLen_le n.toNat 64 (by omega) (by omega)
    go_enter Try.func28, Try.ntmps28
    go_wp2_with (go_at_call 47; refine (len64_any _ _ (by omega) (by omega)).mono ?_; rintro e w' ⟨rfl, rfl⟩)
    go_ret2
    exact ⟨by rw [H.out.1, H.out.2]; rfl, rfl⟩
  · have H := Lib.hid (log_no h)
    go_enter Try.func28, Try.ntmps28
    go_wp2_with fail
    go_ret2
    exact ⟨by rw [H.out.1, H.out.2]; rfl, rfl⟩

set_option maxHeartbeats 400000 in
theorem rlog_any (n : Int) (w : World) (N0 : -9223372036854775808 ≤ n) (N1 : n ≤ 9223372036854775807) :
    Calls Try.prog 29 #[.int .i64 n] w fun e w' => e = .returned (.tuple #[.int .i64 (logN n), .bool (logB n)]) ∧ w = w' := by
  by_cases h : 1 ≤ n
  · have H := Lib.hid (log_yes h)
    go_enter Try.func29, Try.ntmps29
    go_wp2_with fail
    go_loop [0, 4] (fun mv ev => ∃ m e : Int, mv = .int .i64 m ∧ ev = .int .i64 e ∧ 1 ≤ m ∧ m ≤ 9223372036854775807 ∧ 0 ≤ e ∧ e ≤ 64 ∧ Hid ((Lib.bitLen n.toNat : Int) = Lib.bitLen m.toNat + e)) (fun mv _ => (intOf mv).toNat)
    case atStart => exact ⟨n, 0, rfl, rfl, h, N1, by decide, by decide, by show _ = _; omega⟩
    case round =>
      obtain ⟨m, e, rfl, rfl, m0, m1, e0, e1, HE⟩ := hrel
      by_cases hm : 1 < m
      · have hf := Lib.bitLen_half m.toNat (by omega) (by omega)
        have hbn := Lib.bitLen_le n.toNat 64 (by omega) (by omega)
        have e2 : (m / 2).toNat = m.toNat / 2 := by omega
        have HN : Hid ((Lib.bitLen n.toNat : Int) = Lib.bitLen (m / 2).toNat + (e + 1)) := by
          have := HE.out; show _ = _; rw [e2]; omega
        have e3 : e + 1 ≤ 64 := by have := HE.out; omega
        clear hf e2 hbn
        go_wp2_with fail
        go_round
        case rel => exact ⟨m / 2, e + 1, rfl, rfl, by omega, by omega, by omega, by omega, HN.out⟩
        case measure => simp [intOf]; omega
      · have hm1 : m = 1 := by omega
        have HF : Hid (logN n = e ∧ logB n = true) := by
          have := HE.out; rw [hm1] at this
          have h1 : Lib.bitLen (1 : Int).toNat = 1 := by decide
          rw [h1] at this
          exact ⟨by rw [H.out.1]; omega, H.out.2⟩
        clear hm1
        go_wp2_with fail
        go_ret2
        exact ⟨by rw [HF.out.1, HF.out.2]; rfl, rfl⟩
  · have H := Lib.hid (log_no h)
    go_enter Try.func29, Try.ntmps29
    go_wp2_with fail
    go_ret2
    exact ⟨by rw [H.out.1, H.out.2]; rfl, rfl⟩

set_option maxHeartbeats 400000 in
theorem pow_any (e : Int) (w : World) (E0 : -9223372036854775808 ≤ e) (E1 : e ≤ 9223372036854775807) :
    Calls Try.prog 30 #[.int .i64 e] w fun x w' => x = .returned (.tuple #[.int .i64 (powN e), .bool (powB e)]) ∧ w = w' := by
  rcases (show e < 0 ∨ (0 ≤ e ∧ 62 < e) ∨ (0 ≤ e ∧ e ≤ 62) by omega) with h | h | h
  · have H := Lib.hid (pow_no (e := e) (by omega))
    go_enter Try.func30, Try.ntmps30
    go_wp2_with fail
    go_ret2
    exact ⟨by rw [H.out.1, H.out.2]; rfl, rfl⟩
  · have H := Lib.hid (pow_no (e := e) (by omega))
    obtain ⟨h1, h2⟩ := h
    go_enter Try.func30, Try.ntmps30
    go_wp2_with fail
    go_ret2
    exact ⟨by rw [H.out.1, H.out.2]; rfl, rfl⟩
  · have H := Lib.hid (pow_yes (e := e) h)
    obtain ⟨h1, h2⟩ := h
    have b1 : (2 : Int) ^ e.toNat ≤ 4611686018427387904 := two_le e.toNat 62 (by omega)
    have b0 : (0 : Int) < 2 ^ e.toNat := two_pos _
    go_enter Try.func30, Try.ntmps30
    go_wp2_with fail
    go_ret2
    exact ⟨by rw [H.out.1, H.out.2]; rfl, rfl⟩

set_option maxHeartbeats 400000 in
theorem rpow_any (e : Int) (w : World) (E0 : -9223372036854775808 ≤ e) (E1 : e ≤ 9223372036854775807) :
    Calls Try.prog 31 #[.int .i64 e] w fun x w' => x = .returned (.tuple #[.int .i64 (powN e), .bool (powB e)]) ∧ w = w' := by
  rcases (show e < 0 ∨ (0 ≤ e ∧ 62 < e) ∨ (0 ≤ e ∧ e ≤ 62) by omega) with h | h | h
  · have H := Lib.hid (pow_no (e := e) (by omega))
    go_enter Try.func31, Try.ntmps31
    go_wp2_with fail
    go_ret2
    exact ⟨by rw [H.out.1, H.out.2]; rfl, rfl⟩
  · have H := Lib.hid (pow_no (e := e) (by omega))
    obtain ⟨h1, h2⟩ := h
    go_enter Try.func31, Try.ntmps31
    go_wp2_with fail
    go_ret2
    exact ⟨by rw [H.out.1, H.out.2]; rfl, rfl⟩
  · have H := Lib.hid (pow_yes (e := e) h)
    obtain ⟨h1, h2⟩ := h
    go_enter Try.func31, Try.ntmps31
    go_wp2_with fail
    go_loop [4, 5] (fun nv iv => ∃ (p : Int) (i : Nat), nv = .int .i64 p ∧ iv = .int .i64 i ∧ (i : Int) ≤ e ∧ 1 ≤ p ∧ Hid (p = 2 ^ i)) (fun _ iv => (e - intOf iv).toNat)
    case atStart => exact ⟨1, 0, rfl, rfl, h1, by decide, by show _ = _; rfl⟩
    case round =>
      obtain ⟨p, i, rfl, rfl, i1, p0, HP⟩ := hrel
      by_cases hi : (i : Int) < e
      · have b1 : p ≤ 2305843009213693952 := by rw [HP.out]; exact two_le i 61 (by omega)
        have HN : Hid (2 * p = 2 ^ (i + 1)) := by show _ = _; rw [two_succ, ← HP.out]
        go_wp2_with fail
        go_round
        case rel => exact ⟨2 * p, i + 1, by go_num, by go_num, by omega, by omega, HN.out⟩
        case measure => simp [intOf]; omega
      · have HF : Hid (powN e = p ∧ powB e = true) := by
          have e2 : i = e.toNat := by omega
          exact ⟨by rw [H.out.1, HP.out, e2], H.out.2⟩
        go_wp2_with fail
        go_ret2
        exact ⟨by rw [HF.out.1, HF.out.2]; rfl, rfl⟩

set_option maxHeartbeats 400000 in
theorem walk_reckonPowers (n e : Int) (N0 : -9223372036854775808 ≤ n) (N1 : n ≤ 9223372036854775807) (E0 : -9223372036854775808 ≤ e) (E1 : e ≤ 9223372036854775807) (w : World) :
    Calls Try.prog 8 #[.int .i64 n, .int .i64 e] w fun e w' => e = .returned (.bool true) ∧ Below w.heap.size w w' := by
  go_enter Try.func8, Try.ntmps8
  go_wp2_with fail
  refine (log_any _ _ N0 N1).mono ?_
  rintro e w1 ⟨rfl, rfl⟩
  go_wp2_with fail
  refine (rlog_any _ _ N0 N1).mono ?_
  rintro e w1 ⟨rfl, rfl⟩
  go_wp2_with fail
  refine (pow_any _ _ E0 E1).mono ?_
  rintro e w1 ⟨rfl, rfl⟩
  go_wp2_with fail
  refine (rpow_any _ _ E0 E1).mono ?_
  rintro e w1 ⟨rfl, rfl⟩
  go_wp2_with fail
  refine (alive_any _).mono ?_
  rintro e w5 ⟨rfl, G5⟩
  go_wp2_with fail
  go_ret
  exact ⟨rfl, G5⟩

end Go.Proofs.Ytjhkflkffbdafaa
