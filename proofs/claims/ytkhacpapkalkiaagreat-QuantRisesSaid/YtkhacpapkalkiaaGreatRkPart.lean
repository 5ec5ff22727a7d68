/- The project's package reckon, for the layers above it: Over, share, PartUp. -/
import Derived.Test.YtkhacpapkalkiaaGreatRnQ
import Derived.Test.YtkhacpapkalkiaaGreatDvQ
namespace Go.Proofs.YtkhacpapkalkiaaGreat
set_option linter.unusedVariables false
open Go.RowKit

/-- how often n goes into x, whether there is a rest, and whether that often is a count -/
def rkOvN (x n : Int) : Int := if 1 ≤ n then quotN x n else 0
def rkOvR (x n : Int) : Bool := if 1 ≤ n then quotR x n else false
def rkOvB (x n : Int) : Bool := if 1 ≤ n then quotB x n else false
theorem over_yes {x n : Int} (h : 1 ≤ n) : rkOvN x n = quotN x n ∧ rkOvR x n = quotR x n ∧ rkOvB x n = quotB x n := ⟨if_pos h, if_pos h, if_pos h⟩
theorem over_no {x n : Int} (h : ¬ 1 ≤ n) : rkOvN x n = 0 ∧ rkOvR x n = false ∧ rkOvB x n = false := ⟨if_neg h, if_neg h, if_neg h⟩
theorem over_big {x n : Int} (h : 1 ≤ n) (hx : ¬ x < 9223372036854775808 * n) : rkOvN x n = 0 ∧ rkOvR x n = false ∧ rkOvB x n = false := by
  rw [(over_yes h).1, (over_yes h).2.1, (over_yes h).2.2]
  unfold quotN quotR quotB
  rw [if_neg hx, decide_eq_false hx]
  exact ⟨rfl, rfl, rfl⟩
theorem over_in {x n : Int} (h : 1 ≤ n) (h0 : 0 ≤ x) : rkOvN x n = nrwN (x / n) ∧ rkOvR x n = (nrwB (x / n) && (x % n != 0)) ∧ rkOvB x n = nrwB (x / n) := by
  rw [(over_yes h).1, (over_yes h).2.1, (over_yes h).2.2]
  have e : (x < 9223372036854775808 * n) ↔ x / n ≤ 9223372036854775807 := by
    constructor
    · intro g
      have := Int.ediv_lt_of_lt_mul (show 0 < n by omega) g; omega
    · intro g
      have h1 := Int.lt_ediv_add_one_mul_self x (show 0 < n by omega)
      have h2 := Int.mul_le_mul_of_nonneg_right (show x / n + 1 ≤ 9223372036854775808 by omega) (show 0 ≤ n by omega)
      omega
  unfold quotN quotR quotB nrwN nrwB onN onB
  refine ⟨?_, ?_, decide_eq_decide.2 e⟩
  · by_cases g : x < 9223372036854775808 * n
    · rw [if_pos g, if_pos (e.1 g)]
    · rw [if_neg g, if_neg (fun k => g (e.2 k))]
  · rw [decide_eq_decide.2 e]
    congr 1
    rw [Bool.eq_iff_iff]; simp

/-- a number, whether there is a rest, and whether it is one; nothing that was there before is changed -/
def Ans3 (n : Int) (r b : Bool) (w w' : World) (e : Ending) : Prop := e = .returned (.tuple #[.int .i64 n, .bool r, .bool b]) ∧ Below w.heap.size w w'
theorem ans3 {n m : Int} {r s b c : Bool} {w w' : World} (h : n = m ∧ r = s ∧ b = c) (hb : Below w.heap.size w w') : Ans3 n r b w w' (.returned (.tuple #[.int .i64 m, .bool s, .bool c])) := by
  obtain ⟨rfl, rfl, rfl⟩ := h; exact ⟨rfl, hb⟩

set_option maxHeartbeats 1600000 in
theorem over_any (lo hi n : Int) (w : World) (l0 : 0 ≤ lo) (l1 : lo ≤ 18446744073709551615) (h0 : 0 ≤ hi) (h1 : hi ≤ 18446744073709551615) (N0 : -9223372036854775808 ≤ n) (N1 : n ≤ 9223372036854775807) :
    Calls Tryz.prog 115 #[.agg #[.int .u64 lo, .int .u64 hi], .int .i64 n] w fun e w' =>
      Ans3 (rkOvN (hi * 18446744073709551616 + lo) n) (rkOvR (hi * 18446744073709551616 + lo) n) (rkOvB (hi * 18446744073709551616 + lo) n) w w' e := by
  by_cases hn : 1 ≤ n
  · by_cases hh : n ≤ hi
    · have H := Lib.hid (over_big (x := hi * 18446744073709551616 + lo) hn (by omega))
      go_enter Tryz.func115, Tryz.ntmps115
      go_wp2_with fail
      go_ret3
      exact ans3 H.out (below_one _ _)
    · have H := Lib.hid (over_in (x := hi * 18446744073709551616 + lo) hn (by omega))
      have q0 : 0 ≤ (hi * 18446744073709551616 + lo) / n := Int.ediv_nonneg (by omega) (by omega)
      have q1 : (hi * 18446744073709551616 + lo) / n ≤ 18446744073709551615 := by
        have := Int.ediv_lt_of_lt_mul (show 0 < n by omega) (show hi * 18446744073709551616 + lo < 18446744073709551616 * n by omega); omega
      go_enter Tryz.func115, Tryz.ntmps115
      go_wp2_with fail
      refine (div64_any hi lo n _ h0 (by omega) (by omega) l0 l1).mono ?_
      rintro e w' ⟨rfl, k, rfl⟩
      generalize (hi * 18446744073709551616 + lo) / n = q at *
      generalize (hi * 18446744073709551616 + lo) % n = r at *
      go_wp2_with fail
      refine (narrow_any q _ q0 q1).mono ?_
      rintro e w' ⟨rfl, rfl⟩
      by_cases hb : nrwB q = true
      · go_wp2_with fail
        go_ret3
        exact ans3 (by rw [H.out.1, H.out.2.1, H.out.2.2, hb]; exact ⟨rfl, rfl, rfl⟩) (below_drewN (below_one _ _) _)
      · have hb' : nrwB q = false := by simpa using hb
        clear hb
        go_wp2_with fail
        go_ret3
        exact ans3 (by rw [H.out.1, H.out.2.1, H.out.2.2, hb']; exact ⟨rfl, rfl, rfl⟩) (below_drewN (below_one _ _) _)
  · have H := Lib.hid (over_no (x := hi * 18446744073709551616 + lo) hn)
    go_enter Tryz.func115, Tryz.ntmps115
    go_wp2_with fail
    go_ret3
    exact ans3 H.out (below_one _ _)

theorem wide_whole (x : Int) : x / 18446744073709551616 * 18446744073709551616 + x % 18446744073709551616 = x := Int.ediv_mul_add_emod x _

set_option maxHeartbeats 800000 in
theorem share_any (n m d : Int) (w : World) (N0 : -9223372036854775808 ≤ n) (N1 : n ≤ 9223372036854775807) (M0 : -9223372036854775808 ≤ m) (M1 : m ≤ 9223372036854775807) (D0 : -9223372036854775808 ≤ d) (D1 : d ≤ 9223372036854775807) :
    Calls Tryz.prog 72 #[.int .i64 n, .int .i64 m, .int .i64 d] w fun e w' => Ans3 (partN n m d) (partR n m d) (partB n m d) w w' e := by
  by_cases h : 0 ≤ n ∧ 0 ≤ m
  · have hc : cntB [n, m] = true := by rw [cnt_two]; exact decide_eq_true h
    obtain ⟨h1, h2⟩ := h
    have p := mul_words h1 h2 N1 M1
    have H : Hid (partN n m d = rkOvN (n * m) d ∧ partR n m d = rkOvR (n * m) d ∧ partB n m d = rkOvB (n * m) d) := by
      by_cases hd : 1 ≤ d
      · have a := part_yes (n := n) (m := m) (d := d) ⟨h1, h2, hd⟩
        have b := over_yes (x := n * m) hd
        exact ⟨a.1.trans b.1.symm, a.2.1.trans b.2.1.symm, a.2.2.trans b.2.2.symm⟩
      · have a := part_no (n := n) (m := m) (d := d) (fun g => hd g.2.2)
        have b := over_no (x := n * m) hd
        exact ⟨a.1.trans b.1.symm, a.2.1.trans b.2.1.symm, a.2.2.trans b.2.2.symm⟩
    go_enter Tryz.func72, Tryz.ntmps72
    go_wp2_with (go_at_call 114; refine (counts_any _ [n, m] _ (seg_two _ _ _ _) (by simp)).mono ?_; rintro e w' ⟨rfl, rfl⟩)
    refine (product_any _ _ _ (by omega) (by omega) (by omega) (by omega)).mono ?_
    rintro e w1 ⟨rfl, B1⟩
    go_wp2_with fail
    refine (over_any _ _ _ _ (by omega) (by omega) (by omega) (by omega) (by omega) (by omega)).mono ?_
    rintro e w2 ⟨rfl, B2⟩
    rw [wide_whole (n * m)]
    go_wp2_with fail
    go_ret3
    exact ans3 H.out (((below_one _ _).trans (B1.mono (by simp))).trans (B2.mono (by have := B1.size; simp at this; omega)))
  · have hc : cntB [n, m] = false := by rw [cnt_two]; exact decide_eq_false h
    have H := Lib.hid (part_no (n := n) (m := m) (d := d) (fun g => h ⟨g.1, g.2.1⟩))
    clear h
    go_enter Tryz.func72, Tryz.ntmps72
    go_wp2_with (go_at_call 114; refine (counts_any _ [n, m] _ (seg_two _ _ _ _) (by simp)).mono ?_; rintro e w' ⟨rfl, rfl⟩)
    go_ret3
    exact ans3 H.out (below_one _ _)

set_option maxHeartbeats 400000 in
theorem partUp_any (n m d : Int) (w : World) (N0 : -9223372036854775808 ≤ n) (N1 : n ≤ 9223372036854775807) (M0 : -9223372036854775808 ≤ m) (M1 : m ≤ 9223372036854775807) (D0 : -9223372036854775808 ≤ d) (D1 : d ≤ 9223372036854775807) :
    Calls Tryz.prog 40 #[.int .i64 n, .int .i64 m, .int .i64 d] w fun e w' => Ans2 (partUpN n m d) (partUpB n m d) w w' e := by
  have bd := part_bd n m d
  by_cases hr : partR n m d = true
  · have H := Lib.hid (partUp_rest hr)
    go_enter Tryz.func40, Tryz.ntmps40
    go_wp2_with (go_at_call 72; refine (share_any n m d _ N0 N1 M0 M1 D0 D1).mono ?_; rintro e w' ⟨rfl, B1⟩)
    refine (add_any _ _ _ (by omega) (by omega) (by omega) (by omega)).mono ?_
    rintro e w2 ⟨rfl, B2⟩
    go_wp2_with fail
    go_ret2
    exact ans2 H.out (B1.trans (B2.mono B1.size))
  · have hr' : partR n m d = false := by simpa using hr
    have H := Lib.hid (partUp_flat hr')
    clear hr
    go_enter Tryz.func40, Tryz.ntmps40
    go_wp2_with (go_at_call 72; refine (share_any n m d _ N0 N1 M0 M1 D0 D1).mono ?_; rintro e w' ⟨rfl, B1⟩)
    go_ret2
    exact ans2 H.out B1

end Go.Proofs.YtkhacpapkalkiaaGreat
