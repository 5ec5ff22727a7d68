/- What the statement GapHolds calls: is the difference of two shares greater than so many parts? -/
import Derived.Test.YtelekchdbiimiaaGreatGpNum3
import Derived.Test.YtelekchdbiimiaaGreatRfQ
import Derived.Deep.Cut
namespace Go.Proofs.YtelekchdbiimiaaGreat
set_option linter.unusedVariables false
set_option maxRecDepth 100000
open Go.RowKit
set_option maxHeartbeats 6400000 in
theorem gpBeyond_any (p m q n den k : Int) (w : World) (p0 : 0 ≤ p) (p1 : p ≤ 9223372036854775807) (m0 : 0 ≤ m) (m1 : m ≤ 9223372036854775807) (q0 : 0 ≤ q) (q1 : q ≤ 9223372036854775807) (n0 : 0 ≤ n) (n1 : n ≤ 9223372036854775807) (d0 : 0 ≤ den) (d1 : den ≤ 9223372036854775807) (k0 : 0 ≤ k) (k1 : k ≤ 9223372036854775807) :
    Calls Tryz.prog 20 #[.int .i64 p, .int .i64 m, .int .i64 q, .int .i64 n, .int .i64 den, .int .i64 k] w fun e w' => e = .returned (.bool (byB p m q n den k)) ∧ Below w.heap.size w w' := by
  have Dp := Lib.hid (fun v => digits_any p v p0 p1)
  have Dm := Lib.hid (fun v => digits_any m v m0 m1)
  have Dq := Lib.hid (fun v => digits_any q v q0 q1)
  have Dn := Lib.hid (fun v => digits_any n v n0 n1)
  have Dn_den := Lib.hid (fun v => digits_any den v d0 d1)
  have Dk := Lib.hid (fun v => digits_any k v k0 k1)
  clear p0 p1 m0 m1 q0 q1 n0 n1 d0 d1 k0 k1
  go_enter Tryz.func20, Tryz.ntmps20
  go_wp2_with fail
  refine ((Dp.out) _).mono ?_
  rintro e v1 ⟨a1, l1, rfl, s1, e1, t1, m1, g1⟩
  have S1_1 := Lib.hid s1; have E1 := Lib.hid e1; have T1 := Lib.hid t1; have M1 := Lib.hid m1
  have B1 := Lib.hid g1
  clear s1 e1 t1 m1 g1
  go_wp2_with fail
  refine ((Dn.out) _).mono ?_
  rintro e v2 ⟨a2, l2, rfl, s2, e2, t2, m2, g2⟩
  have S2_2 := Lib.hid s2; have E2 := Lib.hid e2; have T2 := Lib.hid t2; have M2 := Lib.hid m2
  have B2 := Lib.hid (B1.out.trans (g2.mono B1.out.size))
  have S1_2 := Lib.hid (seg_below S1_1.out g2)
  clear s2 e2 t2 m2 g2
  go_wp2_with fail
  refine (times_any _ _ _ _ 7 _ S1_2.out S2_2.out E1.out E2.out (by have := M1.out; omega) (by have := M2.out; omega) (by omega)).mono ?_
  rintro e v3 ⟨a3, l3, rfl, s3, e3, t3, m3, g3⟩
  have S3_3 := Lib.hid s3; have E3 := Lib.hid e3; have T3 := Lib.hid t3; have M3 := Lib.hid m3
  have B3 := Lib.hid (B2.out.trans (g3.mono B2.out.size))
  have S1_3 := Lib.hid (seg_below S1_2.out g3)
  have S2_3 := Lib.hid (seg_below S2_2.out g3)
  clear s3 e3 t3 m3 g3
  go_wp2_with fail
  refine ((Dn_den.out) _).mono ?_
  rintro e v4 ⟨a4, l4, rfl, s4, e4, t4, m4, g4⟩
  have S4_4 := Lib.hid s4; have E4 := Lib.hid e4; have T4 := Lib.hid t4; have M4 := Lib.hid m4
  have B4 := Lib.hid (B3.out.trans (g4.mono B3.out.size))
  have S3_4 := Lib.hid (seg_below S3_3.out g4)
  clear s4 e4 t4 m4 g4
  go_wp2_with fail
  refine (times_any _ _ _ _ 21 _ S3_4.out S4_4.out E3.out E4.out (by have := M3.out; omega) (by have := M4.out; omega) (by omega)).mono ?_
  rintro e v5 ⟨a5, l5, rfl, s5, e5, t5, m5, g5⟩
  have S5_5 := Lib.hid s5; have E5 := Lib.hid e5; have T5 := Lib.hid t5; have M5 := Lib.hid m5
  have B5 := Lib.hid (B4.out.trans (g5.mono B4.out.size))
  have S3_5 := Lib.hid (seg_below S3_4.out g5)
  have S4_5 := Lib.hid (seg_below S4_4.out g5)
  clear s5 e5 t5 m5 g5
  go_wp2_with fail
  refine ((Dq.out) _).mono ?_
  rintro e v6 ⟨a6, l6, rfl, s6, e6, t6, m6, g6⟩
  have S6_6 := Lib.hid s6; have E6 := Lib.hid e6; have T6 := Lib.hid t6; have M6 := Lib.hid m6
  have B6 := Lib.hid (B5.out.trans (g6.mono B5.out.size))
  have S5_6 := Lib.hid (seg_below S5_5.out g6)
  clear s6 e6 t6 m6 g6
  go_wp2_with fail
  refine ((Dm.out) _).mono ?_
  rintro e v7 ⟨a7, l7, rfl, s7, e7, t7, m7, g7⟩
  have S7_7 := Lib.hid s7; have E7 := Lib.hid e7; have T7 := Lib.hid t7; have M7 := Lib.hid m7
  have B7 := Lib.hid (B6.out.trans (g7.mono B6.out.size))
  have S5_7 := Lib.hid (seg_below S5_6.out g7)
  have S6_7 := Lib.hid (seg_below S6_6.out g7)
  clear s7 e7 t7 m7 g7
  go_wp2_with fail
  refine (times_any _ _ _ _ 7 _ S6_7.out S7_7.out E6.out E7.out (by have := M6.out; omega) (by have := M7.out; omega) (by omega)).mono ?_
  rintro e v8 ⟨a8, l8, rfl, s8, e8, t8, m8, g8⟩
  have S8_8 := Lib.hid s8; have E8 := Lib.hid e8; have T8 := Lib.hid t8; have M8 := Lib.hid m8
  have B8 := Lib.hid (B7.out.trans (g8.mono B7.out.size))
  have S5_8 := Lib.hid (seg_below S5_7.out g8)
  have S6_8 := Lib.hid (seg_below S6_7.out g8)
  have S7_8 := Lib.hid (seg_below S7_7.out g8)
  clear s8 e8 t8 m8 g8
  go_wp2_with fail
  refine ((Dn_den.out) _).mono ?_
  rintro e v9 ⟨a9, l9, rfl, s9, e9, t9, m9, g9⟩
  have S9_9 := Lib.hid s9; have E9 := Lib.hid e9; have T9 := Lib.hid t9; have M9 := Lib.hid m9
  have B9 := Lib.hid (B8.out.trans (g9.mono B8.out.size))
  have S5_9 := Lib.hid (seg_below S5_8.out g9)
  have S8_9 := Lib.hid (seg_below S8_8.out g9)
  clear s9 e9 t9 m9 g9
  go_wp2_with fail
  refine (times_any _ _ _ _ 21 _ S8_9.out S9_9.out E8.out E9.out (by have := M8.out; omega) (by have := M9.out; omega) (by omega)).mono ?_
  rintro e v10 ⟨a10, l10, rfl, s10, e10, t10, m10, g10⟩
  have S10_10 := Lib.hid s10; have E10 := Lib.hid e10; have T10 := Lib.hid t10; have M10 := Lib.hid m10
  have B10 := Lib.hid (B9.out.trans (g10.mono B9.out.size))
  have S5_10 := Lib.hid (seg_below S5_9.out g10)
  have S8_10 := Lib.hid (seg_below S8_9.out g10)
  have S9_10 := Lib.hid (seg_below S9_9.out g10)
  clear s10 e10 t10 m10 g10
  go_wp2_with fail
  refine ((Dm.out) _).mono ?_
  rintro e v11 ⟨a11, l11, rfl, s11, e11, t11, m11, g11⟩
  have S11_11 := Lib.hid s11; have E11 := Lib.hid e11; have T11 := Lib.hid t11; have M11 := Lib.hid m11
  have B11 := Lib.hid (B10.out.trans (g11.mono B10.out.size))
  have S5_11 := Lib.hid (seg_below S5_10.out g11)
  have S10_11 := Lib.hid (seg_below S10_10.out g11)
  clear s11 e11 t11 m11 g11
  go_wp2_with fail
  refine ((Dn.out) _).mono ?_
  rintro e v12 ⟨a12, l12, rfl, s12, e12, t12, m12, g12⟩
  have S12_12 := Lib.hid s12; have E12 := Lib.hid e12; have T12 := Lib.hid t12; have M12 := Lib.hid m12
  have B12 := Lib.hid (B11.out.trans (g12.mono B11.out.size))
  have S5_12 := Lib.hid (seg_below S5_11.out g12)
  have S10_12 := Lib.hid (seg_below S10_11.out g12)
  have S11_12 := Lib.hid (seg_below S11_11.out g12)
  clear s12 e12 t12 m12 g12
  go_wp2_with fail
  refine (times_any _ _ _ _ 7 _ S11_12.out S12_12.out E11.out E12.out (by have := M11.out; omega) (by have := M12.out; omega) (by omega)).mono ?_
  rintro e v13 ⟨a13, l13, rfl, s13, e13, t13, m13, g13⟩
  have S13_13 := Lib.hid s13; have E13 := Lib.hid e13; have T13 := Lib.hid t13; have M13 := Lib.hid m13
  have B13 := Lib.hid (B12.out.trans (g13.mono B12.out.size))
  have S5_13 := Lib.hid (seg_below S5_12.out g13)
  have S10_13 := Lib.hid (seg_below S10_12.out g13)
  have S11_13 := Lib.hid (seg_below S11_12.out g13)
  have S12_13 := Lib.hid (seg_below S12_12.out g13)
  clear s13 e13 t13 m13 g13
  go_wp2_with fail
  refine ((Dk.out) _).mono ?_
  rintro e v14 ⟨a14, l14, rfl, s14, e14, t14, m14, g14⟩
  have S14_14 := Lib.hid s14; have E14 := Lib.hid e14; have T14 := Lib.hid t14; have M14 := Lib.hid m14
  have B14 := Lib.hid (B13.out.trans (g14.mono B13.out.size))
  have S5_14 := Lib.hid (seg_below S5_13.out g14)
  have S10_14 := Lib.hid (seg_below S10_13.out g14)
  have S13_14 := Lib.hid (seg_below S13_13.out g14)
  clear s14 e14 t14 m14 g14
  go_wp2_with fail
  refine (times_any _ _ _ _ 21 _ S13_14.out S14_14.out E13.out E14.out (by have := M13.out; omega) (by have := M14.out; omega) (by omega)).mono ?_
  rintro e v15 ⟨a15, l15, rfl, s15, e15, t15, m15, g15⟩
  have S15_15 := Lib.hid s15; have E15 := Lib.hid e15; have T15 := Lib.hid t15; have M15 := Lib.hid m15
  have B15 := Lib.hid (B14.out.trans (g15.mono B14.out.size))
  have S5_15 := Lib.hid (seg_below S5_14.out g15)
  have S10_15 := Lib.hid (seg_below S10_14.out g15)
  have S13_15 := Lib.hid (seg_below S13_14.out g15)
  have S14_15 := Lib.hid (seg_below S14_14.out g15)
  clear s15 e15 t15 m15 g15
  go_wp2_with fail
  refine (sum_any _ _ _ _ 63 _ S10_15.out S15_15.out E10.out E15.out (by have := M10.out; omega) (by have := M15.out; omega) (by omega)).mono ?_
  rintro e v16 ⟨a16, l16, rfl, s16, e16, t16, m16, g16⟩
  have S16_16 := Lib.hid s16; have E16 := Lib.hid e16; have T16 := Lib.hid t16; have M16 := Lib.hid m16
  have B16 := Lib.hid (B15.out.trans (g16.mono B15.out.size))
  have S5_16 := Lib.hid (seg_below S5_15.out g16)
  have S10_16 := Lib.hid (seg_below S10_15.out g16)
  have S15_16 := Lib.hid (seg_below S15_15.out g16)
  clear s16 e16 t16 m16 g16
  have VA : Hid (dv l5 = p * n * den) := by show _ = _; rw [T5.out, T3.out, T1.out, T2.out, T4.out]
  have VB : Hid (dv l10 = q * m * den) := by show _ = _; rw [T10.out, T8.out, T6.out, T7.out, T9.out]
  have VR : Hid (dv l15 = m * n * k) := by show _ = _; rw [T15.out, T13.out, T11.out, T12.out, T14.out]
  have VS : Hid (dv l16 = q * m * den + m * n * k) := by show _ = _; rw [T16.out, VB.out, VR.out]
  have LS := Lib.hid (less_any _ _ l5 l16 v16 S5_16.out S16_16.out E5.out E16.out (by have := M5.out; omega) (by have := M16.out; omega))
  rw [VA.out, VS.out] at LS
  by_cases c1 : q * m * den + m * n * k < p * n * den
  · have yb : byB p m q n den k = true := by unfold byB; rw [decide_eq_true c1]; rfl
    rw [cmp3_gt c1] at LS
    have YB := Lib.hid yb
    clear yb c1
    go_wp2_with (go_at_call 42; refine LS.out.mono ?_; rintro e x1 ⟨rfl, rfl⟩)
    go_ret
    exact ⟨congrArg (fun b => Ending.returned (.bool b)) YB.out.symm, B16.out⟩
  · have yb : byB p m q n den k = decide (p * n * den + m * n * k < q * m * den) := by unfold byB; rw [decide_eq_false c1]; rfl
    have cm : ¬ 0 < cmp3 (p * n * den) (q * m * den + m * n * k) := by have := cmp3_le (x := p * n * den) (y := q * m * den + m * n * k) (by omega); omega
    have YB := Lib.hid yb
    clear yb c1
    generalize cmp3 (p * n * den) (q * m * den + m * n * k) = cv at *
    go_wp2_with (go_at_call 42; refine LS.out.mono ?_; rintro e x1 ⟨rfl, rfl⟩)
    go_wp2_with fail
    refine (sum_any _ _ _ _ 63 _ S5_16.out S15_16.out E5.out E15.out (by have := M5.out; omega) (by have := M15.out; omega) (by omega)).mono ?_
    rintro e v17 ⟨a17, l17, rfl, s17, e17, t17, m17, g17⟩
    have S17_17 := Lib.hid s17; have E17 := Lib.hid e17; have T17 := Lib.hid t17; have M17 := Lib.hid m17
    have B17 := Lib.hid (B16.out.trans (g17.mono B16.out.size))
    have S5_17 := Lib.hid (seg_below S5_16.out g17)
    have S10_17 := Lib.hid (seg_below S10_16.out g17)
    have S15_17 := Lib.hid (seg_below S15_16.out g17)
    clear s17 e17 t17 m17 g17
    have VU : Hid (dv l17 = p * n * den + m * n * k) := by show _ = _; rw [T17.out, VA.out, VR.out]
    have LU := Lib.hid (less_any _ _ l10 l17 v17 S10_17.out S17_17.out E10.out E17.out (by have := M10.out; omega) (by have := M17.out; omega))
    rw [VB.out, VU.out] at LU
    by_cases c2 : p * n * den + m * n * k < q * m * den
    · rw [cmp3_gt c2] at LU
      have YD := Lib.hid (decide_eq_true c2)
      clear c2
      go_wp2_with (go_at_call 42; refine LU.out.mono ?_; rintro e x2 ⟨rfl, rfl⟩)
      go_ret
      exact ⟨congrArg (fun b => Ending.returned (.bool b)) (YB.out.trans YD.out).symm, B17.out⟩
    · have cm2 : ¬ 0 < cmp3 (q * m * den) (p * n * den + m * n * k) := by have := cmp3_le (x := q * m * den) (y := p * n * den + m * n * k) (by omega); omega
      have YD := Lib.hid (decide_eq_false c2)
      clear c2
      generalize cmp3 (q * m * den) (p * n * den + m * n * k) = cu at *
      have YE : (decide (0 < cv) || decide (0 < cu)) = byB p m q n den k := by rw [YB.out, YD.out, decide_eq_false (show ¬ 0 < cv by omega), decide_eq_false (show ¬ 0 < cu by omega)]; rfl
      have YF := Lib.hid YE
      clear YE
      go_wp2_with (go_at_call 42; refine LU.out.mono ?_; rintro e x2 ⟨rfl, rfl⟩)
      go_ret
      exact ⟨congrArg (fun b => Ending.returned (.bool b)) YF.out, B17.out⟩
end Go.Proofs.YtelekchdbiimiaaGreat
