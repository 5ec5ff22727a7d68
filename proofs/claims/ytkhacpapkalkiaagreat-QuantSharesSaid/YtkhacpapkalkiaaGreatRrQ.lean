/- Texts laid together: TwRef, RoRef, RoRef2, RoRef3. -/
import Derived.Test.YtkhacpapkalkiaaGreatTw
import Derived.Test.YtkhacpapkalkiaaGreatRoQ
import Derived.Test.YtkhacpapkalkiaaGreatMmy
import Derived.Laws.AppendOwnNone
/- The document's answer for layer twig: each call answers what the plain numbers say, and nothing that was there before is changed. -/
namespace Go.Proofs.YtkhacpapkalkiaaGreat
set_option linter.unusedVariables false
open Go.RowKit

theorem rIs_any (l : Int) (w : World) (L0 : -9223372036854775808 ≤ l) (L1 : l ≤ 9223372036854775807) :
    Calls Tryz.prog 110 #[.int .i64 l] w fun e w' => e = .returned (.bool (uniB l)) ∧ w = w' := by
  rcases (show l < 1 ∨ (1 ≤ l ∧ 48 < l) ∨ (1 ≤ l ∧ l ≤ 48) by omega) with h | h | h
  · have H := Lib.hid (uni_no (l := l) (by omega))
    go_enter Tryz.func110, Tryz.ntmps110
    go_wp2_with fail
    go_ret
    exact ⟨by rw [H.out]; rfl, rfl⟩
  · have H := Lib.hid (uni_no (l := l) (by omega))
    obtain ⟨h1, h2⟩ := h
    go_enter Tryz.func110, Tryz.ntmps110
    go_wp2_with fail
    go_ret
    exact ⟨ret_b (by rw [H.out]; exact decide_eq_false (by omega)), rfl⟩
  · have H := Lib.hid (uni_yes (l := l) (by omega))
    obtain ⟨h1, h2⟩ := h
    go_enter Tryz.func110, Tryz.ntmps110
    go_wp2_with fail
    go_ret
    exact ⟨by rw [H.out]; rfl, rfl⟩
set_option maxHeartbeats 400000 in
theorem rpower_any (n : Int) (w : World) (h1 : 0 ≤ n) (h2 : n ≤ 62) :
    Calls Tryz.prog 82 #[.int .i64 n] w fun e w' => e = .returned (.int .i64 (2 ^ n.toNat)) ∧ w = w' := by
  go_enter Tryz.func82, Tryz.ntmps82
  go_wp2_with fail
  go_loop [3, 4] (fun nv iv => ∃ (p : Int) (i : Nat), nv = .int .i64 p ∧ iv = .int .i64 i ∧ (i : Int) ≤ n ∧ 1 ≤ p ∧ Hid (p = 2 ^ i)) (fun _ iv => (n - intOf iv).toNat)
  case atStart => exact ⟨1, 0, rfl, rfl, h1, by decide, by show _ = _; rfl⟩
  case round =>
    obtain ⟨p, i, rfl, rfl, i1, p0, HP⟩ := hrel
    by_cases hi : (i : Int) < n
    · have b1 : p ≤ 2305843009213693952 := by rw [HP.out]; exact two_le i 61 (by omega)
      have HN : Hid (2 * p = 2 ^ (i + 1)) := by show _ = _; rw [two_succ, ← HP.out]
      go_wp2_with fail
      go_round
      case rel => exact ⟨2 * p, i + 1, by go_num, by go_num, by omega, by omega, HN.out⟩
      case measure => simp [intOf]; omega
    · have HF : Hid (2 ^ n.toNat = p) := by
        have e2 : i = n.toNat := by omega
        show _ = _; rw [HP.out, e2]
      go_wp2_with fail
      go_ret
      exact ⟨by rw [HF.out]; rfl, rfl⟩
set_option maxHeartbeats 400000 in
theorem rdepth_any (n : Int) (w : World) (N0 : -9223372036854775808 ≤ n) (N1 : n ≤ 9223372036854775807) :
    Calls Tryz.prog 113 #[.int .i64 n] w fun e w' => e = .returned (.tuple #[.int .i64 (logN n), .bool (logB n)]) ∧ w = w' := by
  by_cases h : 1 ≤ n
  · have H := Lib.hid (log_yes h)
    go_enter Tryz.func113, Tryz.ntmps113
    go_wp2_with fail
    go_loop [0, 4] (fun mv ev => ∃ m e : Int, mv = .int .i64 m ∧ ev = .int .i64 e ∧ 1 ≤ m ∧ m ≤ 9223372036854775807 ∧ 0 ≤ e ∧ e ≤ 64 ∧ Hid ((Lib.bitLen n.toNat : Int) = Lib.bitLen m.toNat + e)) (fun mv _ => (intOf mv).toNat)
    case atStart => exact ⟨n, 0, rfl, rfl, h, N1, by decide, by decide, by show _ = _; omega⟩
    case round =>
      obtain ⟨m, e, rfl, rfl, m0, m1, e0, e1, HE⟩ := hrel
      by_cases hm : 1 < m
      · have hf := Lib.bitLen_half m.toNat (by omega) (by omega)
        have hbn := Lib.bitLen_le n.toNat 64 (by omega) (by omega)
        have e2 : (m / 2).toNat = m.toNat / 2 := by omega
        have HN : Hid ((Lib.bitLen n.toNat : Int) = Lib.bitLen (m / 2).toNat + (e + 1)) := by
          have := HE.out; show _ = _; rw [e2]; omega
        have e3 : e + 1 ≤ 64 := by have := HE.out; omega
        clear hf e2 hbn
        go_wp2_with fail
        go_round
        case rel => exact ⟨m / 2, e + 1, rfl, rfl, by omega, by omega, by omega, by omega, HN.out⟩
        case measure => simp [intOf]; omega
      · have hm1 : m = 1 := by omega
        have HF : Hid (logN n = e ∧ logB n = true) := by
          have := HE.out; rw [hm1] at this
          have h1 : Lib.bitLen (1 : Int).toNat = 1 := by decide
          rw [h1] at this
          exact ⟨by rw [H.out.1]; omega, H.out.2⟩
        clear hm1
        go_wp2_with fail
        go_ret2
        exact ⟨by rw [HF.out.1, HF.out.2]; rfl, rfl⟩
  · have H := Lib.hid (log_no h)
    go_enter Tryz.func113, Tryz.ntmps113
    go_wp2_with fail
    go_ret2
    exact ⟨by rw [H.out.1, H.out.2]; rfl, rfl⟩
set_option maxHeartbeats 800000 in
theorem rright_any (l id : Int) (w : World) (L0 : -9223372036854775808 ≤ l) (L1 : l ≤ 9223372036854775807) (N0 : -9223372036854775808 ≤ id) (N1 : id ≤ 9223372036854775807) :
    Calls Tryz.prog 108 #[.int .i64 l, .int .i64 id] w fun e w' => e = .returned (.bool (rightB l id)) ∧ w = w' := by
  rcases (show ¬ (1 ≤ l ∧ l ≤ 48) ∨ ((1 ≤ l ∧ l ≤ 48) ∧ ¬ 1 ≤ id) ∨ ((1 ≤ l ∧ l ≤ 48) ∧ 1 ≤ id ∧ l < logN id) ∨ ((1 ≤ l ∧ l ≤ 48) ∧ 1 ≤ id ∧ logN id ≤ l) by omega) with h | h | h | h
  · have H := Lib.hid (right_no (l := l) (id := id) (by unfold RightC; omega))
    have hu := uni_no h
    clear h
    go_enter Tryz.func108, Tryz.ntmps108
    go_wp2_with (first | (go_at_call 113; refine (rdepth_any _ _ (by omega) (by omega)).mono ?_; rintro e w1 ⟨rfl, rfl⟩) | (go_at_call 110; refine (rIs_any _ _ (by omega) (by omega)).mono ?_; rintro e w1 ⟨rfl, rfl⟩))
    go_ret
    exact ⟨by rw [H.out]; rfl, rfl⟩
  · have H := Lib.hid (right_no (l := l) (id := id) (by unfold RightC; omega))
    have hu := uni_yes h.1
    have hb := (log_no h.2).2
    clear h
    go_enter Tryz.func108, Tryz.ntmps108
    go_wp2_with (first | (go_at_call 113; refine (rdepth_any _ _ (by omega) (by omega)).mono ?_; rintro e w1 ⟨rfl, rfl⟩) | (go_at_call 110; refine (rIs_any _ _ (by omega) (by omega)).mono ?_; rintro e w1 ⟨rfl, rfl⟩))
    go_ret
    exact ⟨by rw [H.out]; rfl, rfl⟩
  · have H := Lib.hid (right_no (l := l) (id := id) (by unfold RightC; omega))
    have hu := uni_yes h.1
    have hb := (log_yes h.2.1).2
    have hd := h.2.2
    clear h
    go_enter Tryz.func108, Tryz.ntmps108
    go_wp2_with (first | (go_at_call 113; refine (rdepth_any _ _ (by omega) (by omega)).mono ?_; rintro e w1 ⟨rfl, rfl⟩) | (go_at_call 110; refine (rIs_any _ _ (by omega) (by omega)).mono ?_; rintro e w1 ⟨rfl, rfl⟩))
    go_ret
    exact ⟨ret_b (by rw [H.out]; exact decide_eq_false (by omega)), rfl⟩
  · have H := Lib.hid (right_yes (l := l) (id := id) (by unfold RightC; omega))
    have hu := uni_yes h.1
    have hb := (log_yes h.2.1).2
    have hd := h.2.2
    clear h
    go_enter Tryz.func108, Tryz.ntmps108
    go_wp2_with (first | (go_at_call 113; refine (rdepth_any _ _ (by omega) (by omega)).mono ?_; rintro e w1 ⟨rfl, rfl⟩) | (go_at_call 110; refine (rIs_any _ _ (by omega) (by omega)).mono ?_; rintro e w1 ⟨rfl, rfl⟩))
    go_ret
    exact ⟨by rw [H.out]; rfl, rfl⟩
set_option maxHeartbeats 1600000 in
theorem rends_any (l id : Int) (w : World) (L0 : -9223372036854775808 ≤ l) (L1 : l ≤ 9223372036854775807) (N0 : -9223372036854775808 ≤ id) (N1 : id ≤ 9223372036854775807) :
    Calls Tryz.prog 69 #[.int .i64 l, .int .i64 id] w fun e w' => e = .returned (.tuple #[.int .i64 (loN l id), .int .i64 (hiN l id), .bool (endB l id)]) ∧ w = w' := by
  by_cases h : RightC l id
  · have H := Lib.hid (end_yes h)
    have hu := right_yes h
    have hl := log_bd N1
    have HR := Lib.hid (right_dep h N1)
    obtain ⟨h1, h2, h3, h4⟩ := h
    have b1 : (2 : Int) ^ l.toNat ≤ 281474976710656 := two_le l.toNat 48 (by omega)
    have b0 : (0 : Int) < 2 ^ l.toNat := two_pos _
    go_enter Tryz.func69, Tryz.ntmps69
    go_wp2_with (first | (go_at_call 113; refine (rdepth_any _ _ (by omega) (by omega)).mono ?_; rintro e w1 ⟨rfl, rfl⟩) | (go_at_call 108; refine (rright_any _ _ _ (by omega) (by omega) (by omega) (by omega)).mono ?_; rintro e w1 ⟨rfl, rfl⟩))
    go_loop [7, 8, 9] (fun lv hv dv => ∃ (x y : Int) (i : Nat), lv = .int .i64 x ∧ hv = .int .i64 y ∧ dv = .int .i64 (logN id + i) ∧ logN id + i ≤ l ∧ 0 ≤ x ∧ x ≤ y ∧ y ≤ 562949953421312 ∧ Hid (x = id * 2 ^ i ∧ y = id * 2 ^ i + 2 ^ i - 1)) (fun _ _ dv => (l - intOf dv).toNat)
    case atStart => exact ⟨id, id, 0, rfl, rfl, by simp, by omega, by omega, by omega, by obtain ⟨k, j, _, _, hkj, _, hd, _⟩ := HR.out; have := two_le k 48 (by omega); have := hd.2; omega, by simp, by simp⟩
    case round =>
      obtain ⟨x, y, i, rfl, rfl, rfl, hi, x0, x1, y1, HX⟩ := hrel
      by_cases hlt : logN id + i < l
      · have HN : Hid ((2 * x = id * 2 ^ (i + 1) ∧ 2 * y + 1 = id * 2 ^ (i + 1) + 2 ^ (i + 1) - 1) ∧ 2 * y + 1 ≤ 562949953421312) := by
          obtain ⟨ex, ey⟩ := HX.out
          have e1 : id * 2 ^ (i + 1) = 2 * (id * 2 ^ i) := by rw [two_succ, Int.mul_left_comm]
          refine ⟨⟨by rw [e1, ← ex], by rw [e1, two_succ]; omega⟩, ?_⟩
          obtain ⟨k, j, ek, el, hkj, _, hd, _⟩ := HR.out
          have g1 := Int.mul_le_mul_of_nonneg_right (show id + 1 ≤ 2 * 2 ^ k by have := hd.2; omega) (Int.le_of_lt (two_pos (i + 1)))
          rw [Int.add_mul, Int.mul_assoc, ← two_add, e1] at g1
          have := two_le (k + (i + 1)) 48 (by omega)
          omega
        have hy2 := HN.out.2
        go_wp2_with fail
        go_round
        case rel => exact ⟨2 * x, 2 * y + 1, i + 1, rfl, rfl, by go_num, by omega, by omega, by omega, hy2, HN.out.1⟩
        case measure => simp [intOf]; omega
      · have HF : Hid (loN l id = x - 2 ^ l.toNat ∧ hiN l id = y - 2 ^ l.toNat ∧ endB l id = true) := by
          obtain ⟨ex, ey⟩ := HX.out
          have e : wid l id = 2 ^ i := by unfold wid; congr 1; omega
          have hh := H.out
          rw [e] at hh
          exact ⟨by omega, by omega, hh.2.2⟩
        go_wp2_with (go_at_call 82; refine (rpower_any _ _ (by omega) (by omega)).mono ?_; rintro e w1 ⟨rfl, rfl⟩)
        go_ret3
        exact ⟨by rw [HF.out.1, HF.out.2.1, HF.out.2.2]; rfl, rfl⟩
  · have H := Lib.hid (end_no h)
    have hu := right_no h
    clear h
    go_enter Tryz.func69, Tryz.ntmps69
    go_wp2_with (go_at_call 108; refine (rright_any _ _ _ (by omega) (by omega) (by omega) (by omega)).mono ?_; rintro e w1 ⟨rfl, rfl⟩)
    go_ret3
    exact ⟨by rw [H.out.1, H.out.2.1, H.out.2.2]; rfl, rfl⟩
set_option maxHeartbeats 400000 in
theorem rkids_any (l id : Int) (w : World) (L0 : -9223372036854775808 ≤ l) (L1 : l ≤ 9223372036854775807) (N0 : -9223372036854775808 ≤ id) (N1 : id ≤ 9223372036854775807) :
    Calls Tryz.prog 111 #[.int .i64 l, .int .i64 id] w fun e w' => e = .returned (.tuple #[.int .i64 (kidN l id), .int .i64 (kid2N l id), .bool (kidB l id)]) ∧ w = w' := by
  by_cases h : RightC l id
  · have hu := right_yes h
    by_cases h2 : logN id = l
    · have H := Lib.hid (kid_no (l := l) (id := id) (fun g => g.2 ⟨h.1, h.2.1, h.2.2.1, h2⟩))
      have hd : (logN id == l) = true := by simpa using h2
      clear h h2
      go_enter Tryz.func111, Tryz.ntmps111
      go_wp2_with (first | (go_at_call 113; refine (rdepth_any _ _ (by omega) (by omega)).mono ?_; rintro e w1 ⟨rfl, rfl⟩) | (go_at_call 108; refine (rright_any _ _ _ (by omega) (by omega) (by omega) (by omega)).mono ?_; rintro e w1 ⟨rfl, rfl⟩))
      go_ret3
      exact ⟨by rw [H.out.1, H.out.2.1, H.out.2.2]; rfl, rfl⟩
    · have H := Lib.hid (kid_yes (l := l) (id := id) ⟨h, fun g => h2 g.2.2.2⟩)
      have hd : (logN id == l) = false := by simpa using h2
      have hk := right_id h N1
      have hk0 := h.2.2.1
      clear h h2
      go_enter Tryz.func111, Tryz.ntmps111
      go_wp2_with (first | (go_at_call 113; refine (rdepth_any _ _ (by omega) (by omega)).mono ?_; rintro e w1 ⟨rfl, rfl⟩) | (go_at_call 108; refine (rright_any _ _ _ (by omega) (by omega) (by omega) (by omega)).mono ?_; rintro e w1 ⟨rfl, rfl⟩))
      go_ret3
      exact ⟨by rw [H.out.1, H.out.2.1, H.out.2.2]; rfl, rfl⟩
  · have hu := right_no h
    have H := Lib.hid (kid_no (l := l) (id := id) (fun g => h g.1))
    clear h
    go_enter Tryz.func111, Tryz.ntmps111
    go_wp2_with (first | (go_at_call 113; refine (rdepth_any _ _ (by omega) (by omega)).mono ?_; rintro e w1 ⟨rfl, rfl⟩) | (go_at_call 108; refine (rright_any _ _ _ (by omega) (by omega) (by omega) (by omega)).mono ?_; rintro e w1 ⟨rfl, rfl⟩))
    go_ret3
    exact ⟨by rw [H.out.1, H.out.2.1, H.out.2.2]; rfl, rfl⟩

end Go.Proofs.YtkhacpapkalkiaaGreat

/- The document's answers of package dewpondref06: Total, Find, Right, Same. -/
namespace Go.Proofs.YtkhacpapkalkiaaGreat
set_option linter.unusedVariables false
open Go.RowKit

set_option maxHeartbeats 1600000 in
theorem rTotal_any (A : Option Addr) (n c : Nat) (L : List Nd) (w : World) (h : NodesAt w (.slice A n c) L) (hB : NBds L) (hn : n ≤ 1000000) :
    Calls Tryz.prog 109 #[.slice A n c] w (TotPost L w) := by
  obtain ⟨hlen, hlc, hcm, hat⟩ := nodes_cells h
  have HL := Lib.hid hlen
  have HA := Lib.hid hat
  have HB := Lib.hid hB
  clear hlen hat hB h hlc hcm
  go_enter Tryz.func109, Tryz.ntmps109
  go_wp2_with fail
  go_loop [4, 5] (fun t i => ∃ k : Nat, k ≤ n ∧ i = .int .i64 k ∧ t = .int .i64 (sumC (L.take k)) ∧ TotC (L.take k)) (fun _ i => n - (intOf i).toNat)
  case atStart => exact ⟨0, by omega, rfl, rfl, tot_nil⟩
  case round =>
    obtain ⟨k, hk, rfl, rfl, htot⟩ := hrel
    have TC := Lib.hid htot
    have t0 : 0 ≤ sumC (L.take k) := sumC_nonneg htot.1
    have t1 : sumC (L.take k) ≤ 72057594037927935 := htot.2
    clear htot
    by_cases hlt : k < n
    · have hk2 : k < L.length := by have := HL.out; omega
      obtain ⟨b, o, rfl, hin⟩ := HA.out (by omega)
      obtain ⟨e0, e1⟩ := hin.2 k hk2
      have hbd := nbds_at HB.out hk2
      obtain ⟨⟨b0, b1⟩, b2, b3⟩ := hbd
      have hst := Lib.hid (fun q0 q1 => tot_step hk2 TC.out q0 q1)
      have hno := Lib.hid (fun q => tot_stop (L := L) hk2 q)
      clear hin
      generalize L.getD k nz = r at *
      obtain ⟨id, x⟩ := r
      simp only at e0 e1 b0 b1 b2 b3
      generalize hT : sumC (L.take k) = T at *
      have HT := Lib.hid hT
      clear hT
      by_cases q0 : x < 0
      · have NO := Lib.hid (tot_no (hno.out (.inl q0)))
        clear hst hno
        go_wp2_with fail
        go_ret2
        exact tot_post NO.out (Below.refl ..)
      · by_cases q1 : 72057594037927935 - T < x
        · have NO := Lib.hid (tot_no (hno.out (.inr (by show _ < T + x; omega))))
          clear hst hno
          go_wp2_with fail
          go_ret2
          exact tot_post NO.out (Below.refl ..)
        · have ST := Lib.hid (hst.out (by omega) (by omega))
          clear hst hno
          go_wp2_with fail
          go_round
          case rel => exact ⟨k + 1, by omega, by go_num, by rw [ST.out.2], ST.out.1⟩
          case measure => simp [intOf]; omega
    · have hd : Hid (L.take k = L) := List.take_of_length_le (by have := HL.out; omega)
      have YES := Lib.hid (tot_yes (L := L) (by have q := TC.out; rw [hd] at q; exact q))
      go_wp2_with fail
      go_ret2
      exact tot_post ⟨by rw [YES.out.1, hd], YES.out.2⟩ (Below.refl ..)
set_option maxHeartbeats 3200000 in
theorem rRight_any (l : Int) (A : Option Addr) (n c : Nat) (L : List Nd) (w : World) (h : NodesAt w (.slice A n c) L) (hB : NBds L) (hn : n ≤ 1000000) (L0 : -9223372036854775808 ≤ l) (L1 : l ≤ 9223372036854775807) :
    Calls Tryz.prog 66 #[.int .i64 l, .slice A n c] w (RightPost l L w) := by
  have HN := Lib.hid h
  obtain ⟨hlen, hlc, hcm, hat⟩ := nodes_cells h
  have HL := Lib.hid hlen
  have HA := Lib.hid hat
  have HB := Lib.hid hB
  clear hlen hat hB h hlc hcm
  go_enter Tryz.func66, Tryz.ntmps66
  go_wp2_with fail
  go_loopw [5] (fun i wr => ∃ (k q : Nat), k ≤ n ∧ i = .int .i64 k ∧ RInv l L k ∧ wr = w.drewN q) (fun i _ => n - (intOf i).toNat)
  case atStart => exact ⟨0, 0, by omega, rfl, rinv_zero l L, rfl⟩
  case round =>
    rename_i wr
    obtain ⟨k, q, hk, rfl, hinv, hw⟩ := hrel
    have INV := Lib.hid hinv
    have hcw : Hid (∀ a, wr.cell? a = w.cell? a) := fun a => by rw [hw]; rfl
    have hbw : Below w.heap.size w wr := by rw [hw]; exact drewN_below (Below.refl ..) _
    have HW := Lib.hid hw
    clear hinv hw
    by_cases hlt : k < n
    · have hk2 : k < L.length := by have := HL.out; omega
      obtain ⟨b, o, rfl, hin⟩ := HA.out (by omega)
      have e0 := (hcw.out _).trans (hin.2 k hk2).1
      have e1 := (hcw.out _).trans (hin.2 k hk2).2
      have hbd := nbds_at HB.out hk2
      obtain ⟨⟨b0, b1⟩, b2, b3⟩ := hbd
      have hst := Lib.hid (fun q0 q1 q2 => rinv_step hk2 INV.out q0 q1 q2)
      have hno := Lib.hid (fun q => rinv_stop (l := l) (L := L) hk2 q)
      have hla : k = 0 ∨ ∃ j, k = j + 1 ∧ wr.cell? ⟨b, o + j * 2, none⟩ = some (.int .i64 (lastN L k)) := by
        cases k with
        | zero => exact .inl rfl
        | succ j => exact .inr ⟨j, rfl, (hcw.out _).trans (hin.2 j (by omega)).1⟩
      have hlz : Hid (k = 0 → lastN L k = 0) := fun e => by subst e; rfl
      have hi0 : (0 : Int) ≤ (k : Int) := Int.natCast_nonneg _
      have hi1 : (k : Int) < (n : Int) := by omega
      clear hin
      generalize L.getD k nz = r at *
      obtain ⟨id, x⟩ := r
      simp only at e0 e1 b0 b1 b2 b3
      generalize lastN L k = T at *
      cases q2 : rightB l id
      · have NO := Lib.hid (roll_no (hno.out (.inr (.inr q2))))
        clear hno hst hla
        go_wp2_with fail
        go_quiet ((go_at_call 108; exact Calls.quiet_of_same ((rright_any _ _ _ L0 L1 b0 b1).mono fun _ _ ⟨a, b⟩ => ⟨a, b.symm⟩)))
        go_wp2_with fail
        go_ret
        exact right_post NO.out (drewN_below hbw _)
      · by_cases q1 : x < 1
        · have NO := Lib.hid (roll_no (hno.out (.inr (.inl q1))))
          have q1' : decide (x < 1) = true := by simpa using q1
          clear hno hst hla
          go_wp2_with fail
          go_quiet ((go_at_call 108; exact Calls.quiet_of_same ((rright_any _ _ _ L0 L1 b0 b1).mono fun _ _ ⟨a, b⟩ => ⟨a, b.symm⟩)))
          go_wp2_with fail
          go_ret
          exact right_post NO.out (drewN_below hbw _)
        · have q1' : decide (x < 1) = false := by simpa using q1
          rcases hla with rfl | ⟨j, hj, e2⟩
          · simp only [Nat.zero_mul, Nat.add_zero] at e0 e1
            have ST := Lib.hid (hst.out (by have := hlz.out rfl; have := right_pos q2; show T < id; omega) (by show 1 ≤ x; omega) q2)
            clear hno hst
            go_wp2_with fail
            go_quiet ((go_at_call 108; exact Calls.quiet_of_same ((rright_any _ _ _ L0 L1 b0 b1).mono fun _ _ ⟨a, b⟩ => ⟨a, b.symm⟩)))
            go_wp2_with fail
            go_roundw
            case rel => exact ⟨1, _, by omega, by go_num, ST.out, by rw [HW.out, World.drewN_drewN]⟩
            case measure => simp [intOf]; omega
          · have hj1 : (k : Int) - 1 = (j : Int) := by omega
            have hk0 : 0 < k := by omega
            have hjn : (j : Int) < (n : Int) := by omega
            have hj0 : (0 : Int) ≤ (j : Int) := Int.natCast_nonneg _
            have w1 : IntKind.i64.wrap ((k : Int) - 1) = (j : Int) := by rw [IntWalk.i64_in _ (by omega)]; exact hj1
            clear hj hlz
            by_cases q0 : id ≤ T
            · have NO := Lib.hid (roll_no (hno.out (.inl q0)))
              have q0' : decide (id ≤ T) = true := by simpa using q0
              clear hno hst hj1
              go_wp2_with fail
              go_quiet ((go_at_call 108; exact Calls.quiet_of_same ((rright_any _ _ _ L0 L1 b0 b1).mono fun _ _ ⟨a, b⟩ => ⟨a, b.symm⟩)))
              go_wp2_with fail
              go_ret
              exact right_post NO.out (drewN_below hbw _)
            · have ST := Lib.hid (hst.out (by show T < id; omega) (by show 1 ≤ x; omega) q2)
              have q0' : decide (id ≤ T) = false := by simpa using q0
              clear hno hst hj1
              go_wp2_with fail
              go_quiet ((go_at_call 108; exact Calls.quiet_of_same ((rright_any _ _ _ L0 L1 b0 b1).mono fun _ _ ⟨a, b⟩ => ⟨a, b.symm⟩)))
              clear w1
              go_wp2_with fail
              go_roundw
              case rel => exact ⟨k + 1, _, by omega, by go_num, ST.out, by rw [HW.out, World.drewN_drewN]⟩
              case measure => simp [intOf]; omega
    · have INV2 := Lib.hid (show RInv l L L.length from by have q := INV.out; rwa [show k = L.length by have := HL.out; omega] at q)
      have HN2 := Lib.hid (HN.out.below hbw)
      have hsz := hbw.size
      cases ht : totB L
      · go_wp2_with (go_at_call 109; refine (rTotal_any _ _ _ _ _ HN2.out HB.out hn).mono ?_; rintro e w1 ⟨rfl, hb1⟩)
        go_ret
        exact right_post (by rw [roll_ends INV2.out _ _ rfl rfl, ht]; rfl) (hbw.trans (hb1.mono hsz))
      · go_wp2_with (first | (go_at_call 109; refine (rTotal_any _ _ _ _ _ HN2.out HB.out hn).mono ?_; rintro e w1 ⟨rfl, hb1⟩) | (go_at_call 110; refine (rIs_any _ _ L0 L1).mono ?_; rintro e w1 ⟨rfl, rfl⟩))
        go_ret
        exact right_post (by rw [roll_ends INV2.out _ _ rfl rfl, ht]; rfl) (hbw.trans (hb1.mono hsz))

end Go.Proofs.YtkhacpapkalkiaaGreat

/- The document's answers of package dewpondref06: put, Sorted. -/
namespace Go.Proofs.YtkhacpapkalkiaaGreat
set_option linter.unusedVariables false
open Go.RowKit

end Go.Proofs.YtkhacpapkalkiaaGreat

/- The document's answers of package dewpondref06: Fold, Join. -/
namespace Go.Proofs.YtkhacpapkalkiaaGreat
set_option linter.unusedVariables false
open Go.RowKit

end Go.Proofs.YtkhacpapkalkiaaGreat
