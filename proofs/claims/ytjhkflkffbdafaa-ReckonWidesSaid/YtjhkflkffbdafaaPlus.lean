/- Layer reckon, wide numbers: the project's Plus, and the document's answers Plus and Over: each answers what the plain numbers say. -/
import Derived.Test.YtjhkflkffbdafaaBits
namespace Go.Proofs.Ytjhkflkffbdafaa
set_option linter.unusedVariables false
open Go.RowKit

set_option maxHeartbeats 800000 in
theorem rover_any (lo hi n : Int) (w : World) (l0 : 0 ≤ lo) (l1 : lo ≤ 18446744073709551615) (h0 : 0 ≤ hi) (h1 : hi ≤ 18446744073709551615) (N0 : -9223372036854775808 ≤ n) (N1 : n ≤ 9223372036854775807) :
    Calls Try.prog 37 #[.agg #[.int .u64 lo, .int .u64 hi], .int .i64 n] w fun e w' =>
      Ans3 (overN (hi * 18446744073709551616 + lo) n) (overR (hi * 18446744073709551616 + lo) n) (overB (hi * 18446744073709551616 + lo) n) w w' e := by
  by_cases hn : 1 ≤ n
  · have H := Lib.hid (over_yes (x := hi * 18446744073709551616 + lo) hn)
    go_enter Try.func37, Try.ntmps37
    go_wp2_with fail
    refine (rbits_any lo hi _ l0 l1 h0 h1).mono ?_
    rintro e w1 ⟨v1, x1, rfl, S1, D1, V1, L1, B1⟩
    have H1 := Lib.hid V1
    clear V1
    go_wp2_with fail
    refine (quot_any _ x1 _ _ S1 D1 (by omega) hn N1).mono ?_
    rintro e w2 ⟨rfl, B2⟩
    rw [H1.out]
    go_wp2_with fail
    go_ret3
    exact ans3 H.out (((below_one _ _).trans (B1.mono (by simp))).trans (B2.mono (by have := B1.size; simp at this; omega)))
  · have H := Lib.hid (over_no (x := hi * 18446744073709551616 + lo) hn)
    go_enter Try.func37, Try.ntmps37
    go_wp2_with fail
    go_ret3
    exact ans3 H.out (below_one _ _)

/-- is a wide number and a product more one of at most 128 bits? -/
def plusB (x a b : Int) : Bool := onB (0 ≤ a ∧ 0 ≤ b ∧ x + a * b ≤ 340282366920938463463374607431768211455)
theorem plus_yes {x a b : Int} (h : 0 ≤ a ∧ 0 ≤ b ∧ x + a * b ≤ 340282366920938463463374607431768211455) : plusB x a b = true := decide_eq_true h
theorem plus_no {x a b : Int} (h : ¬ (0 ≤ a ∧ 0 ≤ b ∧ x + a * b ≤ 340282366920938463463374607431768211455)) : plusB x a b = false := decide_eq_false h

/-- what the document's Plus answers -/
def RPlus (x a b : Int) (w w' : World) (e : Ending) : Prop :=
  ∃ v, e = .returned (.tuple #[v, .bool (plusB x a b)]) ∧ Below w.heap.size w w' ∧ (plusB x a b = true → ∃ l, Seg w' v l ∧ Dig l ∧ dv l = x + a * b ∧ l.length ≤ 1000)

theorem cmp3_pos {x y : Int} : decide (0 < cmp3 x y) = decide (y < x) := by
  apply decide_eq_decide.2
  unfold cmp3; split <;> (try split) <;> omega

set_option maxHeartbeats 1600000 in
theorem rplus_any (lo hi a b : Int) (w : World) (l0 : 0 ≤ lo) (l1 : lo ≤ 18446744073709551615) (h0 : 0 ≤ hi) (h1 : hi ≤ 18446744073709551615)
    (A0 : -9223372036854775808 ≤ a) (A1 : a ≤ 9223372036854775807) (B0 : -9223372036854775808 ≤ b) (B1 : b ≤ 9223372036854775807) :
    Calls Try.prog 33 #[.agg #[.int .u64 lo, .int .u64 hi], .int .i64 a, .int .i64 b] w fun e w' => RPlus (hi * 18446744073709551616 + lo) a b w w' e := by
  rcases (show a < 0 ∨ (0 ≤ a ∧ b < 0) ∨ (0 ≤ a ∧ 0 ≤ b) by omega) with h | h | h
  · have H := Lib.hid (plus_no (x := hi * 18446744073709551616 + lo) (a := a) (b := b) (by omega))
    have hn : decide (0 ≤ a) = false := decide_eq_false (by omega)
    go_enter Try.func33, Try.ntmps33
    go_wp2
    go_ret2
    exact ⟨_, by rw [H.out]; rfl, below_one _ _, fun g => by rw [H.out] at g; cases g⟩
  · obtain ⟨h1', h2'⟩ := h
    have H := Lib.hid (plus_no (x := hi * 18446744073709551616 + lo) (a := a) (b := b) (by omega))
    have hn : decide (0 ≤ b) = false := decide_eq_false (by omega)
    go_enter Try.func33, Try.ntmps33
    go_wp2
    go_ret2
    exact ⟨_, by rw [H.out]; rfl, below_one _ _, fun g => by rw [H.out] at g; cases g⟩
  · obtain ⟨h1', h2'⟩ := h
    go_enter Try.func33, Try.ntmps33
    go_wp2_with (go_at_call 40; refine (is_any _ _).mono ?_; rintro e w' ⟨rfl, rfl⟩)
    refine (rbits_any lo hi _ l0 l1 h0 h1).mono ?_
    rintro e w1 ⟨v1, x1, rfl, S1, D1, V1, L1, B1⟩
    have H1 := Lib.hid V1
    clear V1
    have zz : ((w.alloc (.cells #[.int .u64 lo, .int .u64 hi] 33)).alloc (.cells #[.int .u64 18446744073709551615, .int .u64 18446744073709551615] 33)).heap.size = w.heap.size + 2 := by simp
    have z1 := B1.size
    rw [zz] at z1
    have m0 : w1.cell? ⟨w.heap.size + 1, 0, none⟩ = some (.int .u64 18446744073709551615) := (B1.cell (p := ⟨w.heap.size + 1, 0, none⟩) (by rw [zz]; show w.heap.size + 1 < _; omega)).trans (by rw [World.cell?_alloc_at _ _ _ _ (by simp)]; rfl)
    have m1 : w1.cell? ⟨w.heap.size + 1, 1, none⟩ = some (.int .u64 18446744073709551615) := (B1.cell (p := ⟨w.heap.size + 1, 1, none⟩) (by rw [zz]; show w.heap.size + 1 < _; omega)).trans (by rw [World.cell?_alloc_at _ _ _ _ (by simp)]; rfl)
    have Bw1 : Below w.heap.size w w1 := ((below_one _ _).alloc (by simp) _).trans (B1.mono (by simp; omega))
    clear B1 zz
    go_wp2_with fail
    refine (digits_any _ _ (by omega) (by omega)).mono ?_
    rintro e w2 ⟨v2, x2, rfl, S2, D2, V2, L2, B2⟩
    have H2 := Lib.hid V2
    clear V2
    go_wp2_with fail
    refine (digits_any _ _ (by omega) (by omega)).mono ?_
    rintro e w3 ⟨v3, x3, rfl, S3, D3, V3, L3, B3⟩
    have H3 := Lib.hid V3
    clear V3
    go_wp2_with fail
    refine (times_any _ _ x2 x3 7 _ (seg_below S2 B3) S3 D2 D3 (by omega) (by omega) (by omega)).mono ?_
    rintro e w4 ⟨v4, x4, rfl, S4, D4, V4, L4, B4⟩
    have hv4 : dv x4 = a * b := by rw [V4, H2.out, H3.out]
    have H4 := Lib.hid hv4
    clear V4 hv4
    go_wp2_with fail
    refine (sum_any _ _ x1 x4 300 _ (seg_below (seg_below (seg_below S1 B2) B3) B4) S4 D1 D4 (by omega) (by omega) (by omega)).mono ?_
    rintro e w5 ⟨v5, x5, rfl, S5, D5, V5, L5, B5⟩
    have hv5 : dv x5 = hi * 18446744073709551616 + lo + a * b := by rw [V5, H1.out, H4.out]
    have H5 := Lib.hid hv5
    clear V5 hv5
    have z2 := B2.size
    have z3 := B3.size
    have z4 := B4.size
    have z5 := B5.size
    have Bc : Below w1.heap.size w1 w5 := ((B2.trans (B3.mono z2)).trans (B4.mono (by omega))).trans (B5.mono (by omega))
    have m0' : w5.cell? ⟨w.heap.size + 1, 0, none⟩ = some (.int .u64 18446744073709551615) := (Bc.cell (p := ⟨w.heap.size + 1, 0, none⟩) (by show w.heap.size + 1 < _; omega)).trans m0
    have m1' : w5.cell? ⟨w.heap.size + 1, 1, none⟩ = some (.int .u64 18446744073709551615) := (Bc.cell (p := ⟨w.heap.size + 1, 1, none⟩) (by show w.heap.size + 1 < _; omega)).trans m1
    have Bw5 := Bw1.trans (Bc.mono Bw1.size)
    clear m0 m1 S1 S2 S3 S4 D1 D2 D3 D4 B2 B3 B4 B5 L1 L2 L3 L4 H1 H2 H3 H4 Bc Bw1 z1 z2 z3 z4 z5
    go_wp2_with fail
    refine (rbits_any 18446744073709551615 18446744073709551615 _ (by decide) (by decide) (by decide) (by decide)).mono ?_
    rintro e w6 ⟨v6, x6, rfl, S6, D6, V6, L6, B6⟩
    have H6 := Lib.hid V6
    clear V6
    have S5' := seg_below S5 B6
    go_wp2_with fail
    refine (less_any _ _ x5 x6 _ S5' S6 D5 D6 (by omega) (by omega)).mono ?_
    rintro e w7 ⟨rfl, rfl⟩
    by_cases hv : hi * 18446744073709551616 + lo + a * b ≤ 340282366920938463463374607431768211455
    · have H := Lib.hid (plus_yes ⟨h1', h2', hv⟩)
      have ht : ¬ 0 < cmp3 (dv x5) (dv x6) := of_decide_eq_false (by rw [cmp3_pos, H5.out, H6.out]; exact decide_eq_false (by omega))
      have HD : Hid (dv x5 = hi * 18446744073709551616 + lo + a * b ∧ x5.length ≤ 301) := ⟨H5.out, L5⟩
      clear hv H5 H6 L5
      go_wp2_with fail
      go_ret2
      exact ⟨_, by rw [H.out]; rfl, Bw5.trans (B6.mono Bw5.size), fun _ => ⟨x5, S5', D5, HD.out.1, by have := HD.out.2; omega⟩⟩
    · have H := Lib.hid (plus_no (x := hi * 18446744073709551616 + lo) (a := a) (b := b) (fun g => hv g.2.2))
      have ht : 0 < cmp3 (dv x5) (dv x6) := of_decide_eq_true (by rw [cmp3_pos, H5.out, H6.out]; exact decide_eq_true (by omega))
      clear hv H5 H6 L5
      go_wp2_with fail
      go_ret2
      exact ⟨_, by rw [H.out]; rfl, Bw5.trans (B6.mono Bw5.size), fun g => by rw [H.out] at g; cases g⟩

end Go.Proofs.Ytjhkflkffbdafaa
