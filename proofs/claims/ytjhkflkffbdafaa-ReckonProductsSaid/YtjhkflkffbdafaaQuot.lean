/- The document's answer for layer reckon, Quot: how often a number goes into digits, found bit by bit: it returns what the plain numbers say, and nothing that was there before is changed. -/
import Derived.Test.YtjhkflkffbdafaaTimes
namespace Go.Proofs.Ytjhkflkffbdafaa
set_option linter.unusedVariables false
open Go.RowKit

/-- the product's digits, of two numbers: Times(Digits(p), Digits(n)) -/
theorem cmp3_le {x y : Int} (h : x ≤ y) : cmp3 x y ≤ 0 := by unfold cmp3; split <;> (try split) <;> omega
theorem cmp3_nle {x y : Int} (h : y < x) : ¬ cmp3 x y ≤ 0 := by rw [cmp3_gt h]; decide
theorem cmp3_neg {x y : Int} : decide (cmp3 x y < 0) = decide (x < y) := by
  apply decide_eq_decide.2
  unfold cmp3; split <;> (try split) <;> omega

/-- what Quot returns -/
def IsQuot (x n : Int) (w w' : World) (e : Ending) : Prop := e = .returned (.tuple #[.int .i64 (quotN x n), .bool (quotR x n), .bool (quotB x n)]) ∧ Below w.heap.size w w'

set_option maxHeartbeats 1600000 in
theorem quot_any (vx : Value) (x : List Int) (n : Int) (w : World) (SX : Seg w vx x) (DX : Dig x) (hx : x.length ≤ 100000) (n1 : 1 ≤ n) (n2 : n ≤ 9223372036854775807) :
    Calls Try.prog 42 #[vx, .int .i64 n] w fun e w' => IsQuot (dv x) n w w' e := by
  have x0 := dv_nonneg DX
  go_enter Try.func42, Try.ntmps42
  go_wp2
  go_loopw [7, 8] (fun qv bv wr => ∃ (q b : Int) (k : Nat), qv = .int .i64 q ∧ bv = .int .i64 b ∧ 0 ≤ b ∧ b ≤ 4611686018427387904 ∧ Hid (b = 2 ^ k / 2) ∧ Hid (Seek (dv x) n q k) ∧ Below w.heap.size w wr) (fun _ b _ => (intOf b).toNat)
  case atStart => exact ⟨0, _, 63, rfl, rfl, by decide, by decide, by show _ = _; decide, seek_start x0, Below.refl _ _⟩
  case round =>
    obtain ⟨q, b, k, rfl, rfl, b0, b1, HB, HS, hbl⟩ := hrel
    have SX1 := seg_below SX hbl
    have q0 : 0 ≤ q := HS.out.1
    cases k with
    | zero =>
      have hb := HB.out
      simp only [Int.pow_zero] at hb
      have hb0 : b = 0 := by omega
      clear HB hb b0 b1
      subst hb0
      have hq : q ≤ 9223372036854775807 := by have := HS.out.2.1; simp only [Int.pow_zero] at this; omega
      have HE := Lib.hid (seek_end n1 HS.out)
      clear HS
      go_wp2_with fail
      refine (digits_any _ _ (by omega) (by omega)).mono ?_
      rintro e w1 ⟨v1, l1, rfl, S1, D1, V1, L1, B1⟩
      have H1 := Lib.hid V1
      clear V1
      go_wp2_with fail
      refine (digits_any _ _ (by omega) (by omega)).mono ?_
      rintro e w2 ⟨v2, l2, rfl, S2, D2, V2, L2, B2⟩
      have H2 := Lib.hid V2
      clear V2
      go_wp2_with fail
      refine (times_any _ _ l1 l2 7 _ (seg_below S1 B2) S2 D1 D2 (by omega) (by omega) (by omega)).mono ?_
      rintro e w3 ⟨v3, l3, rfl, S3, D3, V3, L3, B3⟩
      have hv : dv l3 = q * n := by rw [V3, H1.out, H2.out]
      have H3 := Lib.hid hv
      clear V3 hv H1 H2
      go_wp2_with fail
      refine (digits_any _ _ (by omega) (by omega)).mono ?_
      rintro e w4 ⟨v4, l4, rfl, S4, D4, V4, L4, B4⟩
      have H4 := Lib.hid V4
      clear V4
      go_wp2_with fail
      refine (sum_any _ _ l3 l4 21 _ (seg_below S3 B4) S4 D3 D4 (by omega) (by omega) (by omega)).mono ?_
      rintro e w5 ⟨v5, l5, rfl, S5, D5, V5, L5, B5⟩
      have hv : dv l5 = q * n + n := by rw [V5, H3.out, H4.out]
      have H5 := Lib.hid hv
      clear V5 hv H4
      have SX3 := seg_below (seg_below (seg_below SX1 B1) B2) B3
      have SX5 := seg_below (seg_below SX3 B4) B5
      have S35 := seg_below (seg_below S3 B4) B5
      go_wp2_with fail
      refine (less_any _ _ l5 x _ S5 SX5 D5 DX (by omega) (by omega)).mono ?_
      rintro e w6 ⟨rfl, rfl⟩
      have z3 := Nat.le_trans B1.size B2.size
      have z4 := Nat.le_trans z3 B3.size
      have z5 := Nat.le_trans z4 B4.size
      have hb5 : Below w.heap.size w w5 := hbl.trans (((((B1.trans (B2.mono B1.size)).trans (B3.mono z3)).trans (B4.mono z4)).trans (B5.mono z5)).mono hbl.size)
      clear S1 S2 S3 S4 S5 SX3 B1 B2 B3 B4 B5 D1 D2 D4 D5 L1 L2 L4 L5 hbl SX1 z3 z4 z5
      by_cases hle : q * n + n ≤ dv x
      · have hc : cmp3 (dv l5) (dv x) ≤ 0 := cmp3_le (by rw [H5.out]; exact hle)
        have HF := Lib.hid (HE.out.1 hle)
        clear hle HE H5 H3
        go_wp2_with fail
        go_ret3
        refine ⟨?_, hb5⟩
        rw [HF.out.1, HF.out.2.1, HF.out.2.2]
        rfl
      · have hc : ¬ cmp3 (dv l5) (dv x) ≤ 0 := cmp3_nle (by rw [H5.out]; omega)
        have HF := Lib.hid (HE.out.2 (by omega))
        clear hle HE H5
        go_wp2_with fail
        refine (less_any _ _ l3 x _ S35 SX5 D3 DX (by omega) (by omega)).mono ?_
        rintro e w6 ⟨rfl, rfl⟩
        go_wp2_with fail
        go_ret3
        refine ⟨?_, hb5⟩
        rw [HF.out.1, HF.out.2.1, HF.out.2.2, ← H3.out, ← cmp3_neg (x := dv l3) (y := dv x)]
        rfl
    | succ k =>
      have hb : b = 2 ^ k := by have := HB.out; rw [two_succ] at this; omega
      have hbp : 1 ≤ b := by have := two_pos k; omega
      have hqb : q + b ≤ 9223372036854775807 := by have := HS.out.2.1; rw [two_succ] at this; omega
      have HB2 := Lib.hid hb
      clear hb HB
      go_wp2_with fail
      refine (digits_any _ _ (by omega) (by omega)).mono ?_
      rintro e w1 ⟨v1, l1, rfl, S1, D1, V1, L1, B1⟩
      have H1 := Lib.hid V1
      clear V1
      go_wp2_with fail
      refine (digits_any _ _ (by omega) (by omega)).mono ?_
      rintro e w2 ⟨v2, l2, rfl, S2, D2, V2, L2, B2⟩
      have H2 := Lib.hid V2
      clear V2
      go_wp2_with fail
      refine (times_any _ _ l1 l2 7 _ (seg_below S1 B2) S2 D1 D2 (by omega) (by omega) (by omega)).mono ?_
      rintro e w3 ⟨v3, l3, rfl, S3, D3, V3, L3, B3⟩
      have hv : dv l3 = (q + b) * n := by rw [V3, H1.out, H2.out]
      have H3 := Lib.hid hv
      clear V3 hv
      have SX3 := seg_below (seg_below (seg_below SX1 B1) B2) B3
      go_wp2_with fail
      refine (less_any _ _ l3 x _ S3 SX3 D3 DX (by omega) (by omega)).mono ?_
      rintro e w4 ⟨rfl, rfl⟩
      have hb4 : Below w.heap.size w w3 := hbl.trans (((B1.trans (B2.mono B1.size)).trans (B3.mono (Nat.le_trans B1.size B2.size))).mono hbl.size)
      clear S1 S2 S3 SX3 B1 B2 B3 D1 D2 D3 L1 L2 L3 hbl SX1
      have HN : Hid (b / 2 = 2 ^ k / 2) := by have := HB2.out; show _ = _; rw [this]
      by_cases hle : (q + b) * n ≤ dv x
      · have hc : cmp3 (dv l3) (dv x) ≤ 0 := cmp3_le (by rw [H3.out]; exact hle)
        have HK : Hid (Seek (dv x) n (q + b) k) := by have := seek_yes (k := k) (q := q) HS.out (by rw [← HB2.out]; exact hle); rw [← HB2.out] at this; exact this
        clear hle H3 H2 H1 HS HB2
        go_wp2_with fail
        go_roundw
        case rel => exact ⟨q + b, b / 2, k, rfl, rfl, by omega, by omega, HN, HK, hb4⟩
        case measure => simp [intOf]; omega
      · have hc : ¬ cmp3 (dv l3) (dv x) ≤ 0 := cmp3_nle (by rw [H3.out]; omega)
        have HK : Hid (Seek (dv x) n q k) := seek_no HS.out (by rw [← HB2.out]; omega)
        clear hle H3 H2 H1 HS HB2
        go_wp2_with fail
        go_roundw
        case rel => exact ⟨q, b / 2, k, rfl, rfl, by omega, by omega, HN, HK, hb4⟩
        case measure => simp [intOf]; omega

end Go.Proofs.Ytjhkflkffbdafaa
