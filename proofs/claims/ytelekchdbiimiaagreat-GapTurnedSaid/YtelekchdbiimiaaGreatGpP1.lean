/- The project's package gap: what is refused; shares; Side. -/
import Derived.Test.YtelekchdbiimiaaGreatGpK
import Derived.Test.YtelekchdbiimiaaGreatGpNum4
import Derived.Test.YtelekchdbiimiaaGreatRkPlus
import Derived.Test.YtelekchdbiimiaaGreatDvQ
import Derived.Test.YtelekchdbiimiaaGreatRnQ
namespace Go.Proofs.YtelekchdbiimiaaGreat
set_option linter.unusedVariables false
set_option maxRecDepth 100000
open Go.RowKit
/-- why two are refused -/
theorem gpE_far {la lb : Int} {L M : List Nd} (h : ¬ la = lb) : gpE la lb L M = 6 := if_neg h
theorem gpE_none {l : Int} {L M : List Nd} (h : sumC L = 0 ∨ sumC M = 0) : gpE l l L M = 7 := by unfold gpE; rw [if_pos rfl, if_pos h]
theorem gpE_ok {l : Int} {L M : List Nd} (h : ¬ sumC L = 0) (k : ¬ sumC M = 0) : gpE l l L M = 0 := by unfold gpE; rw [if_pos rfl, if_neg (fun q => q.elim h k)]
/-- a share in order: what surely is greater -/
def shS (slo shi sn tlo thi tn : Int) : Int := if thi * sn < slo * tn then 1 else if shi * tn < tlo * sn then -1 else 0
theorem shS_one {slo shi sn tlo thi tn : Int} (h : thi * sn < slo * tn) : shS slo shi sn tlo thi tn = 1 := if_pos h
theorem shS_two {slo shi sn tlo thi tn : Int} (h : ¬ thi * sn < slo * tn) (k : shi * tn < tlo * sn) : shS slo shi sn tlo thi tn = -1 := by unfold shS; rw [if_neg h, if_pos k]
theorem shS_nil {slo shi sn tlo thi tn : Int} (h : ¬ thi * sn < slo * tn) (k : ¬ shi * tn < tlo * sn) : shS slo shi sn tlo thi tn = 0 := by unfold shS; rw [if_neg h, if_neg k]
theorem sh_sd (l : Int) (L M : List Nd) (x : Int) : shS (lowR l L x) (highR l L x) (sumC L) (lowR l M x) (highR l M x) (sumC M) = sdN l L M x := rfl
theorem cmp_pos (a b : Int) : decide (0 < cmp3 a b) = decide (b < a) := by
  unfold cmp3
  rw [decide_eq_decide]
  split
  · omega
  · split <;> omega
/-- what weighs in all, and up to a number -/
theorem gp_all {l x : Int} {L : List Nd} (h : RollC l L) : (0 ≤ lowR l L x ∧ lowR l L x ≤ sumC L) ∧ (0 ≤ highR l L x ∧ highR l L x ≤ sumC L) ∧ 0 ≤ sumC L ∧ sumC L ≤ 72057594037927935 := by
  have nn := good_nonneg (roll_good h)
  have lo := wtF_bd (fun n => decide (hiN l n ≤ x)) nn
  have hi := wtF_bd (fun n => decide (loN l n ≤ x)) nn
  exact ⟨lo, hi, Int.le_trans lo.1 lo.2, h.2.2.2.2⟩
theorem gpRefused_nn (w : World) : Calls Tryz.prog 25 #[.pointer none, .pointer none] w fun e w' => e = .returned (.int .i64 1) ∧ Below w.heap.size w w' := by
  go_enter Tryz.func25, Tryz.ntmps25
  go_wp2_with fail
  go_ret
  exact ⟨rfl, Below.refl _ _⟩
theorem gpRefused_nd (q : Nat) (w : World) : Calls Tryz.prog 25 #[.pointer none, .pointer (some ⟨q, 0, none⟩)] w fun e w' => e = .returned (.int .i64 1) ∧ Below w.heap.size w w' := by
  go_enter Tryz.func25, Tryz.ntmps25
  go_wp2_with fail
  go_ret
  exact ⟨rfl, Below.refl _ _⟩
theorem gpRefused_dn (q : Nat) (w : World) : Calls Tryz.prog 25 #[.pointer (some ⟨q, 0, none⟩), .pointer none] w fun e w' => e = .returned (.int .i64 1) ∧ Below w.heap.size w w' := by
  have PN : ∀ w, (binOp .eql 27 (.pointer (some ⟨q, 0, none⟩)) (.pointer none)).run Tryz.prog w = .ok (.bool false) w := fun _ => by kernel_rfl
  go_enter Tryz.func25, Tryz.ntmps25
  go_wp2_with fail
  go_ret
  exact ⟨rfl, Below.refl _ _⟩
set_option maxHeartbeats 3200000 in
theorem gpRefused_any {B1 q1 p1 g1 h1 B2 q2 p2 g2 h2 : Nat} {kd1 l1 k1 kd2 l2 k2 : Int} {n1 n2 : Nat} {L M : List Nd} (w : World) (d1 : DgA w B1 q1 p1 g1 h1 kd1 l1 k1 n1 L) (hn1 : n1 ≤ 400) (d2 : DgA w B2 q2 p2 g2 h2 kd2 l2 k2 n2 M) (hn2 : n2 ≤ 400) :
    Calls Tryz.prog 25 #[.pointer (some ⟨q1, 0, none⟩), .pointer (some ⟨q2, 0, none⟩)] w fun e w' => e = .returned (.int .i64 (gpE l1 l2 L M)) ∧ Below w.heap.size w w' := by
  have PN1 : ∀ w, (binOp .eql 27 (.pointer (some ⟨q1, 0, none⟩)) (.pointer none)).run Tryz.prog w = .ok (.bool false) w := fun _ => by kernel_rfl
  have PN2 : ∀ w, (binOp .eql 27 (.pointer (some ⟨q2, 0, none⟩)) (.pointer none)).run Tryz.prog w = .ok (.bool false) w := fun _ => by kernel_rfl
  have FD1 : ∀ w, (Instr.field 23 (.agg #[.int .i64 l1, .int .i64 k1, .int .i64 kd1]) 0).run Tryz.prog w = .ok (.int .i64 l1) w := fun _ => by kernel_rfl
  have FD2 : ∀ w, (Instr.field 23 (.agg #[.int .i64 l2, .int .i64 k2, .int .i64 kd2]) 0).run Tryz.prog w = .ok (.int .i64 l2) w := fun _ => by kernel_rfl
  have C1 := Lib.hid (fun v (hb : Below w.heap.size w v) => dgConf_any v (d1.below hb).box)
  have C2 := Lib.hid (fun v (hb : Below w.heap.size w v) => dgConf_any v (d2.below hb).box)
  have N1 := Lib.hid (fun v (hb : Below w.heap.size w v) => dgN_any v (d1.below hb).box (d1.below hb).po (by omega))
  have N2 := Lib.hid (fun v (hb : Below w.heap.size w v) => dgN_any v (d2.below hb).box (d2.below hb).po (by omega))
  have U1 := d1.po.uni
  have U2 := d2.po.uni
  clear d1 d2
  by_cases hl : l1 = l2
  · subst hl
    by_cases z1 : sumC L = 0
    · rw [gpE_none (.inl z1)]
      rw [z1] at N1
      go_enter Tryz.func25, Tryz.ntmps25
      go_wp2_with fail
      refine (C1.out _ (Below.refl _ _)).mono ?_
      rintro e w1 ⟨rfl, hb1⟩
      have B1 := Lib.hid hb1
      clear hb1
      go_wp2_with fail
      refine (C2.out _ B1.out).mono ?_
      rintro e w2 ⟨rfl, hb2⟩
      have B2 := Lib.hid (B1.out.trans (hb2.mono B1.out.size))
      clear hb2
      go_wp2_with fail
      refine (N1.out _ B2.out).mono ?_
      rintro e w3 ⟨rfl, hb3⟩
      have B3 := Lib.hid (B2.out.trans (hb3.mono B2.out.size))
      clear hb3
      go_wp2_with fail
      go_ret
      exact ⟨rfl, B3.out⟩
    · have q1 : (sumC L == 0) = false := beq_eq_false_iff_ne.2 z1
      by_cases z2 : sumC M = 0
      · rw [gpE_none (.inr z2)]
        rw [z2] at N2
        generalize sumC L = s1 at *
        go_enter Tryz.func25, Tryz.ntmps25
        go_wp2_with fail
        refine (C1.out _ (Below.refl _ _)).mono ?_
        rintro e w1 ⟨rfl, hb1⟩
        have B1 := Lib.hid hb1
        clear hb1
        go_wp2_with fail
        refine (C2.out _ B1.out).mono ?_
        rintro e w2 ⟨rfl, hb2⟩
        have B2 := Lib.hid (B1.out.trans (hb2.mono B1.out.size))
        clear hb2
        go_wp2_with fail
        refine (N1.out _ B2.out).mono ?_
        rintro e w3 ⟨rfl, hb3⟩
        have B3 := Lib.hid (B2.out.trans (hb3.mono B2.out.size))
        clear hb3
        go_wp2_with fail
        refine (N2.out _ B3.out).mono ?_
        rintro e w4 ⟨rfl, hb4⟩
        have B4 := Lib.hid (B3.out.trans (hb4.mono B3.out.size))
        clear hb4
        go_wp2_with fail
        go_ret
        exact ⟨rfl, B4.out⟩
      · have q2 : (sumC M == 0) = false := beq_eq_false_iff_ne.2 z2
        rw [gpE_ok z1 z2]
        generalize sumC L = s1 at *
        generalize sumC M = s2 at *
        go_enter Tryz.func25, Tryz.ntmps25
        go_wp2_with fail
        refine (C1.out _ (Below.refl _ _)).mono ?_
        rintro e w1 ⟨rfl, hb1⟩
        have B1 := Lib.hid hb1
        clear hb1
        go_wp2_with fail
        refine (C2.out _ B1.out).mono ?_
        rintro e w2 ⟨rfl, hb2⟩
        have B2 := Lib.hid (B1.out.trans (hb2.mono B1.out.size))
        clear hb2
        go_wp2_with fail
        refine (N1.out _ B2.out).mono ?_
        rintro e w3 ⟨rfl, hb3⟩
        have B3 := Lib.hid (B2.out.trans (hb3.mono B2.out.size))
        clear hb3
        go_wp2_with fail
        refine (N2.out _ B3.out).mono ?_
        rintro e w4 ⟨rfl, hb4⟩
        have B4 := Lib.hid (B3.out.trans (hb4.mono B3.out.size))
        clear hb4
        go_wp2_with fail
        go_ret
        exact ⟨rfl, B4.out⟩
  · rw [gpE_far hl]
    have hq : (l1 == l2) = false := beq_eq_false_iff_ne.2 hl
    go_enter Tryz.func25, Tryz.ntmps25
    go_wp2_with fail
    refine (C1.out _ (Below.refl _ _)).mono ?_
    rintro e w1 ⟨rfl, hb1⟩
    have B1 := Lib.hid hb1
    clear hb1
    go_wp2_with fail
    refine (C2.out _ B1.out).mono ?_
    rintro e w2 ⟨rfl, hb2⟩
    have B2 := Lib.hid (B1.out.trans (hb2.mono B1.out.size))
    clear hb2
    go_wp2_with fail
    go_ret
    exact ⟨rfl, B2.out⟩
set_option maxHeartbeats 1600000 in
theorem gpShareOf_any {B q p g h : Nat} {kd l k : Int} {n : Nat} {L : List Nd} (x : Int) (w : World) (d : DgA w B q p g h kd l k n L) (hn : n ≤ 400) (x0 : -9223372036854775808 ≤ x) (x1 : x ≤ 9223372036854775807) :
    Calls Tryz.prog 27 #[.pointer (some ⟨q, 0, none⟩), .int .i64 x] w fun e w' => e = .returned (.agg #[.int .i64 (lowR l L x), .int .i64 (highR l L x), .int .i64 (sumC L)]) ∧ Below w.heap.size w w' := by
  have LO := Lib.hid (fun v (hb : Below w.heap.size w v) => rnkLow_any x v (d.below hb) (by omega) x0 x1)
  have HI := Lib.hid (fun v (hb : Below w.heap.size w v) => rnkHigh_any x v (d.below hb) (by omega) x0 x1)
  have NN := Lib.hid (fun v (hb : Below w.heap.size w v) => dgN_any v (d.below hb).box (d.below hb).po (by omega))
  clear d
  generalize lowR l L x = lo at *
  generalize highR l L x = hi at *
  generalize sumC L = s at *
  have X0 := Lib.hid (tri_nw w 81 (.int .i64 0) (.int .i64 0) (.int .i64 0))
  have B0 := Lib.hid (below_one w (.cells #[.int .i64 0, .int .i64 0, .int .i64 0] 81))
  go_enter Tryz.func27, Tryz.ntmps27
  go_wp2_with fail
  generalize w.alloc (.cells #[.int .i64 0, .int .i64 0, .int .i64 0] 81) = W at *
  refine (LO.out _ B0.out).mono ?_
  rintro e w1 ⟨rfl, hb1⟩
  have B1 := Lib.hid (B0.out.trans (hb1.mono B0.out.size))
  have X1 := Lib.hid (own_below X0.out hb1)
  clear hb1
  go_wp2_with fail
  refine (HI.out _ B1.out).mono ?_
  rintro e w2 ⟨rfl, hb2⟩
  have B2 := Lib.hid (B1.out.trans (hb2.mono B1.out.size))
  have X2 := Lib.hid (own_below X1.out hb2)
  clear hb2
  go_wp2_with fail
  refine (NN.out _ B2.out).mono ?_
  rintro e w3 ⟨rfl, hb3⟩
  have X3 := Lib.hid (own_below X2.out hb3)
  obtain ⟨y0, y1, y2, f0, f1, f2, hz2⟩ := tri_all X3.out
  obtain ⟨q0, q1, q2⟩ := set_three X3.out (.int .i64 lo) (.int .i64 hi) (.int .i64 s)
  have B3 := Lib.hid ((B2.out.trans (hb3.mono B2.out.size)).trans (tri_set X3.out (.int .i64 lo) (.int .i64 hi) (.int .i64 s)).2.2.1)
  clear hb3
  go_wp2_with fail
  exact bodyPost_ret (v := .agg #[.int .i64 lo, .int .i64 hi, .int .i64 s]) (by simp [results, Tryz.results27, go_sem, q0, q1, q2]) rfl ⟨rfl, B3.out⟩
/-- counts, none of them too great -/
def ShC (lo hi n : Int) : Prop := (0 ≤ lo ∧ lo ≤ n) ∧ (0 ≤ hi ∧ hi ≤ n) ∧ 0 ≤ n ∧ n ≤ 72057594037927935
set_option maxHeartbeats 1600000 in
theorem gpAbove_any {slo shi sn tlo thi tn : Int} (w : World) (S : ShC slo shi sn) (T : ShC tlo thi tn) :
    Calls Tryz.prog 55 #[.agg #[.int .i64 slo, .int .i64 shi, .int .i64 sn], .agg #[.int .i64 tlo, .int .i64 thi, .int .i64 tn]] w fun e w' => e = .returned (.bool (decide (thi * sn < slo * tn))) ∧ Below w.heap.size w w' := by
  obtain ⟨⟨s1, s2⟩, ⟨s3, s4⟩, s5, s6⟩ := S
  obtain ⟨⟨t1, t2⟩, ⟨t3, t4⟩, t5, t6⟩ := T
  have OC : ordC slo tn thi sn := ⟨s1, t5, t3, s5⟩
  have OR := Lib.hid (fun v => rpOrder_any slo tn thi sn v (by omega) (by omega) (by omega) (by omega) (by omega) (by omega) (by omega) (by omega))
  rw [(ord_yes OC).1, (ord_yes OC).2] at OR
  have CP := cmp_pos (slo * tn) (thi * sn)
  rw [← CP]
  clear OC CP s1 s2 s3 s4 s5 s6 t1 t2 t3 t4 t5 t6
  generalize cmp3 (slo * tn) (thi * sn) = c at *
  have X0 := Lib.hid ((tri_nw w 81 (.int .i64 slo) (.int .i64 shi) (.int .i64 sn)).alloc (.cells #[.int .i64 tlo, .int .i64 thi, .int .i64 tn] 81))
  have e0 : (w.alloc (.cells #[.int .i64 slo, .int .i64 shi, .int .i64 sn] 81)).heap.size = w.heap.size + 1 := by simp
  have X1 := tri_nw (w.alloc (.cells #[.int .i64 slo, .int .i64 shi, .int .i64 sn] 81)) 81 (.int .i64 tlo) (.int .i64 thi) (.int .i64 tn)
  rw [e0] at X1
  have B0 : Hid (Below w.heap.size w ((w.alloc (.cells #[.int .i64 slo, .int .i64 shi, .int .i64 sn] 81)).alloc (.cells #[.int .i64 tlo, .int .i64 thi, .int .i64 tn] 81))) := ((Below.refl _ _).alloc (Nat.le_refl _) _).alloc (by simp) _
  obtain ⟨a0, a1, a2, _, _, _, az⟩ := tri_all X0.out
  obtain ⟨b0, b1, b2, _, _, _, bz⟩ := tri_all X1
  clear X0 X1 e0
  go_enter Tryz.func55, Tryz.ntmps55
  go_upto_region 1 with fail
  generalize (w.alloc (.cells #[.int .i64 slo, .int .i64 shi, .int .i64 sn] 81)).alloc (.cells #[.int .i64 tlo, .int .i64 thi, .int .i64 tn] 81) = W at *
  go_wp2_with fail
  refine (OR.out _).mono ?_
  rintro e w1 ⟨rfl, hb1⟩
  have B1 := Lib.hid (B0.out.trans (hb1.mono B0.out.size))
  clear hb1
  go_wp2_with fail
  go_ret
  exact ⟨rfl, B1.out⟩
set_option maxHeartbeats 1600000 in
theorem gpSideOf_any {slo shi sn tlo thi tn : Int} (w : World) (S : ShC slo shi sn) (T : ShC tlo thi tn) :
    Calls Tryz.prog 26 #[.agg #[.int .i64 slo, .int .i64 shi, .int .i64 sn], .agg #[.int .i64 tlo, .int .i64 thi, .int .i64 tn]] w fun e w' => e = .returned (.int .i64 (shS slo shi sn tlo thi tn)) ∧ Below w.heap.size w w' := by
  have A1 := Lib.hid (fun v => gpAbove_any v S T)
  have A2 := Lib.hid (fun v => gpAbove_any v T S)
  have X0 := Lib.hid ((tri_nw w 81 (.int .i64 slo) (.int .i64 shi) (.int .i64 sn)).alloc (.cells #[.int .i64 tlo, .int .i64 thi, .int .i64 tn] 81))
  have e0 : (w.alloc (.cells #[.int .i64 slo, .int .i64 shi, .int .i64 sn] 81)).heap.size = w.heap.size + 1 := by simp
  have X1 := tri_nw (w.alloc (.cells #[.int .i64 slo, .int .i64 shi, .int .i64 sn] 81)) 81 (.int .i64 tlo) (.int .i64 thi) (.int .i64 tn)
  rw [e0] at X1
  have Y1 := Lib.hid (own_low X1 (Nat.le_succ _))
  have B0 : Hid (Below w.heap.size w ((w.alloc (.cells #[.int .i64 slo, .int .i64 shi, .int .i64 sn] 81)).alloc (.cells #[.int .i64 tlo, .int .i64 thi, .int .i64 tn] 81))) := ((Below.refl _ _).alloc (Nat.le_refl _) _).alloc (by simp) _
  obtain ⟨a0, a1, a2, _, _, _, az⟩ := tri_all X0.out
  obtain ⟨b0, b1, b2, _, _, _, bz⟩ := tri_all X1
  clear X1 e0
  by_cases c1 : thi * sn < slo * tn
  · rw [decide_eq_true c1] at A1
    rw [shS_one c1]
    clear c1 A2
    go_enter Tryz.func26, Tryz.ntmps26
    go_upto_region 1 with fail
    generalize (w.alloc (.cells #[.int .i64 slo, .int .i64 shi, .int .i64 sn] 81)).alloc (.cells #[.int .i64 tlo, .int .i64 thi, .int .i64 tn] 81) = W at *
    go_wp2_with fail
    refine (A1.out _).mono ?_
    rintro e w1 ⟨rfl, hb1⟩
    have B1 := Lib.hid (B0.out.trans (hb1.mono B0.out.size))
    clear hb1
    go_wp2_with fail
    go_ret
    exact ⟨rfl, B1.out⟩
  · by_cases c2 : shi * tn < tlo * sn
    · rw [decide_eq_false c1] at A1
      rw [decide_eq_true c2] at A2
      rw [shS_two c1 c2]
      clear c1 c2
      go_enter Tryz.func26, Tryz.ntmps26
      go_upto_region 1 with fail
      generalize (w.alloc (.cells #[.int .i64 slo, .int .i64 shi, .int .i64 sn] 81)).alloc (.cells #[.int .i64 tlo, .int .i64 thi, .int .i64 tn] 81) = W at *
      go_wp2_with fail
      refine (A1.out _).mono ?_
      rintro e w1 ⟨rfl, hb1⟩
      have B1 := Lib.hid (B0.out.trans (hb1.mono B0.out.size))
      have X2 := own_below X0.out hb1
      have X3 := own_below Y1.out hb1
      clear hb1 a0 a1 a2 az b0 b1 b2 bz
      obtain ⟨a0, a1, a2, _, _, _, az⟩ := tri_all X2
      obtain ⟨b0, b1, b2, _, _, _, bz⟩ := tri_all X3
      clear X2 X3
      go_wp2_with fail
      refine (A2.out _).mono ?_
      rintro e w2 ⟨rfl, hb2⟩
      have B2 := Lib.hid (B1.out.trans (hb2.mono B1.out.size))
      clear hb2
      go_wp2_with fail
      go_ret
      exact ⟨rfl, B2.out⟩
    · rw [decide_eq_false c1] at A1
      rw [decide_eq_false c2] at A2
      rw [shS_nil c1 c2]
      clear c1 c2
      go_enter Tryz.func26, Tryz.ntmps26
      go_upto_region 1 with fail
      generalize (w.alloc (.cells #[.int .i64 slo, .int .i64 shi, .int .i64 sn] 81)).alloc (.cells #[.int .i64 tlo, .int .i64 thi, .int .i64 tn] 81) = W at *
      go_wp2_with fail
      refine (A1.out _).mono ?_
      rintro e w1 ⟨rfl, hb1⟩
      have B1 := Lib.hid (B0.out.trans (hb1.mono B0.out.size))
      have X2 := own_below X0.out hb1
      have X3 := own_below Y1.out hb1
      clear hb1 a0 a1 a2 az b0 b1 b2 bz
      obtain ⟨a0, a1, a2, _, _, _, az⟩ := tri_all X2
      obtain ⟨b0, b1, b2, _, _, _, bz⟩ := tri_all X3
      clear X2 X3
      go_wp2_with fail
      refine (A2.out _).mono ?_
      rintro e w2 ⟨rfl, hb2⟩
      have B2 := Lib.hid (B1.out.trans (hb2.mono B1.out.size))
      clear hb2
      go_wp2_with fail
      go_ret
      exact ⟨rfl, B2.out⟩
set_option maxHeartbeats 400000 in
theorem gpPart_any (n m d : Int) (w : World) (N0 : -9223372036854775808 ≤ n) (N1 : n ≤ 9223372036854775807) (M0 : -9223372036854775808 ≤ m) (M1 : m ≤ 9223372036854775807) (D0 : -9223372036854775808 ≤ d) (D1 : d ≤ 9223372036854775807) :
    Calls Tryz.prog 71 #[.int .i64 n, .int .i64 m, .int .i64 d] w fun e w' => Ans2 (partN n m d) (partB n m d) w w' e := by
  go_enter Tryz.func71, Tryz.ntmps71
  go_wp2_with (go_at_call 116; refine (share_any n m d _ N0 N1 M0 M1 D0 D1).mono ?_; rintro e w' ⟨rfl, B1⟩)
  go_ret2
  exact ans2 ⟨rfl, rfl⟩ B1
set_option maxHeartbeats 1600000 in
theorem gpParts_any {lo hi n : Int} (den : Int) (w : World) (S : ShC lo hi n) (d0 : -9223372036854775808 ≤ den) (d1 : den ≤ 9223372036854775807) :
    Calls Tryz.prog 35 #[.agg #[.int .i64 lo, .int .i64 hi, .int .i64 n], .int .i64 den] w fun e w' => e = .returned (.agg #[.int .i64 (partN lo den n), .int .i64 (partUpN hi den n)]) ∧ Below w.heap.size w w' := by
  obtain ⟨⟨s1, s2⟩, ⟨s3, s4⟩, s5, s6⟩ := S
  have P1 := Lib.hid (fun v => gpPart_any lo den n v (by omega) (by omega) d0 d1 (by omega) (by omega))
  have P2 := Lib.hid (fun v => partUp_any hi den n v (by omega) (by omega) d0 d1 (by omega) (by omega))
  generalize partN lo den n = dn at *
  generalize partUpN hi den n = up at *
  generalize partB lo den n = b1 at *
  generalize partUpB hi den n = b2 at *
  clear s1 s2 s3 s4 s5 s6 d0 d1
  have X0 := Lib.hid ((tri_nw w 81 (.int .i64 lo) (.int .i64 hi) (.int .i64 n)).alloc (.cells #[.int .i64 0, .int .i64 0] 46))
  have e0 : (w.alloc (.cells #[.int .i64 lo, .int .i64 hi, .int .i64 n] 81)).heap.size = w.heap.size + 1 := by simp
  have X1 := box2 (w.alloc (.cells #[.int .i64 lo, .int .i64 hi, .int .i64 n] 81)) 46 (.int .i64 0) (.int .i64 0)
  rw [e0] at X1
  have Y1 := Lib.hid (own_low X1 (Nat.le_succ _))
  have B0 : Hid (Below w.heap.size w ((w.alloc (.cells #[.int .i64 lo, .int .i64 hi, .int .i64 n] 81)).alloc (.cells #[.int .i64 0, .int .i64 0] 46))) := ((Below.refl _ _).alloc (Nat.le_refl _) _).alloc (by simp) _
  obtain ⟨a0, a1, a2, _, _, _, az⟩ := tri_all X0.out
  clear X1 e0
  go_enter Tryz.func35, Tryz.ntmps35
  go_upto_region 1 with fail
  generalize (w.alloc (.cells #[.int .i64 lo, .int .i64 hi, .int .i64 n] 81)).alloc (.cells #[.int .i64 0, .int .i64 0] 46) = W at *
  go_wp2_with fail
  refine (P1.out _).mono ?_
  rintro e w1 ⟨rfl, hb1⟩
  have B1 := Lib.hid (B0.out.trans (hb1.mono B0.out.size))
  have X2 := Lib.hid (own_below X0.out hb1)
  have Y2 := Lib.hid (own_below Y1.out hb1)
  clear hb1 a0 a1 a2 az
  obtain ⟨a0, a1, a2, _, _, _, az⟩ := tri_all X2.out
  go_wp2_with fail
  refine (P2.out _).mono ?_
  rintro e w2 ⟨rfl, hb2⟩
  have Y3 := Lib.hid (own_below Y2.out hb2)
  obtain ⟨y0, y1, f0, f1, yz⟩ := box_cells Y3.out
  obtain ⟨q0, q1⟩ := set_two y0 y1
  have B2 := Lib.hid ((B1.out.trans (hb2.mono B1.out.size)).trans (box_set Y3.out (.int .i64 dn) (.int .i64 up)).2.2.1)
  have t0 := (box_cells (box_set Y3.out (.int .i64 dn) (.int .i64 up)).1).1
  have t1 := (box_cells (box_set Y3.out (.int .i64 dn) (.int .i64 up)).1).2.1
  clear hb2 a0 a1 a2 az q0 q1
  go_wp2_with fail
  exact bodyPost_ret (v := .agg #[.int .i64 dn, .int .i64 up]) (by simp [results, Tryz.results35, go_sem, t0, t1]) rfl ⟨rfl, B2.out⟩
theorem gpSide_nn (x : Int) (w : World) : Calls Tryz.prog 10 #[.pointer none, .pointer none, .int .i64 x] w fun e w' => e = .returned (.tuple #[.int .i64 0, .int .i64 1]) ∧ Below w.heap.size w w' := by
  go_enter Tryz.func10, Tryz.ntmps10
  go_wp2_with fail
  refine (gpRefused_nn _).mono ?_
  rintro e w1 ⟨rfl, hb1⟩
  have B1 := Lib.hid hb1
  clear hb1
  go_wp2_with fail
  go_ret2
  exact ⟨rfl, B1.out⟩
theorem gpSide_dn (q : Nat) (x : Int) (w : World) : Calls Tryz.prog 10 #[.pointer (some ⟨q, 0, none⟩), .pointer none, .int .i64 x] w fun e w' => e = .returned (.tuple #[.int .i64 0, .int .i64 1]) ∧ Below w.heap.size w w' := by
  go_enter Tryz.func10, Tryz.ntmps10
  go_wp2_with fail
  refine (gpRefused_dn _ _).mono ?_
  rintro e w1 ⟨rfl, hb1⟩
  have B1 := Lib.hid hb1
  clear hb1
  go_wp2_with fail
  go_ret2
  exact ⟨rfl, B1.out⟩
set_option maxHeartbeats 1600000 in
theorem gpSide_any {B1 q1 p1 g1 h1 B2 q2 p2 g2 h2 : Nat} {kd1 l1 k1 kd2 l2 k2 : Int} {n1 n2 : Nat} {L M : List Nd} (x : Int) (w : World) (d1 : DgA w B1 q1 p1 g1 h1 kd1 l1 k1 n1 L) (hn1 : n1 ≤ 400) (d2 : DgA w B2 q2 p2 g2 h2 kd2 l2 k2 n2 M) (hn2 : n2 ≤ 400) (x0 : -9223372036854775808 ≤ x) (x1 : x ≤ 9223372036854775807) :
    Calls Tryz.prog 10 #[.pointer (some ⟨q1, 0, none⟩), .pointer (some ⟨q2, 0, none⟩), .int .i64 x] w fun e w' => e = .returned (.tuple #[.int .i64 (sdE l1 l2 L M x), .int .i64 (gpE l1 l2 L M)]) ∧ Below w.heap.size w w' := by
  have RF := Lib.hid (gpRefused_any w d1 hn1 d2 hn2)
  by_cases hg : gpE l1 l2 L M = 0
  · obtain ⟨rfl, _, _⟩ := gpE_yes hg
    have E : sdE l1 l1 L M x = shS (lowR l1 L x) (highR l1 L x) (sumC L) (lowR l1 M x) (highR l1 M x) (sumC M) := if_pos hg
    rw [E, hg]
    rw [hg] at RF
    have S1 := Lib.hid (fun v (hb : Below w.heap.size w v) => gpShareOf_any x v (d1.below hb) hn1 x0 x1)
    have S2 := Lib.hid (fun v (hb : Below w.heap.size w v) => gpShareOf_any x v (d2.below hb) hn2 x0 x1)
    have SO := Lib.hid (fun v => gpSideOf_any v (gp_all (x := x) d1.v.roll) (gp_all (x := x) d2.v.roll))
    clear d1 d2 hg E
    generalize shS (lowR l1 L x) (highR l1 L x) (sumC L) (lowR l1 M x) (highR l1 M x) (sumC M) = sd at *
    generalize lowR l1 L x = a0 at *
    generalize highR l1 L x = a1 at *
    generalize sumC L = a2 at *
    generalize lowR l1 M x = b0 at *
    generalize highR l1 M x = b1 at *
    generalize sumC M = b2 at *
    go_enter Tryz.func10, Tryz.ntmps10
    go_wp2_with fail
    refine RF.out.mono ?_
    rintro e w1 ⟨rfl, hb1⟩
    have B1 := Lib.hid hb1
    clear hb1
    go_wp2_with fail
    refine (S1.out _ B1.out).mono ?_
    rintro e w2 ⟨rfl, hb2⟩
    have B2 := Lib.hid (B1.out.trans (hb2.mono B1.out.size))
    clear hb2
    go_wp2_with fail
    refine (S2.out _ B2.out).mono ?_
    rintro e w3 ⟨rfl, hb3⟩
    have B3 := Lib.hid (B2.out.trans (hb3.mono B2.out.size))
    clear hb3
    go_wp2_with fail
    refine (SO.out _).mono ?_
    rintro e w4 ⟨rfl, hb4⟩
    have B4 := Lib.hid (B3.out.trans (hb4.mono B3.out.size))
    clear hb4
    go_wp2_with fail
    go_ret2
    exact ⟨rfl, B4.out⟩
  · have E : sdE l1 l2 L M x = 0 := if_neg hg
    rw [E]
    clear d1 d2 E
    have hq : (gpE l1 l2 L M == 0) = false := beq_eq_false_iff_ne.2 hg
    generalize gpE l1 l2 L M = er at *
    go_enter Tryz.func10, Tryz.ntmps10
    go_wp2_with fail
    refine RF.out.mono ?_
    rintro e w1 ⟨rfl, hb1⟩
    have B1 := Lib.hid hb1
    clear hb1
    go_wp2_with fail
    go_ret2
    exact ⟨rfl, B1.out⟩
theorem gpSd : GpSd := ⟨fun x w => gpSide_nn x w, fun x w d hn => gpSide_dn _ x w, fun x w d1 h1 d2 h2 a b => gpSide_any x w d1 h1 d2 h2 a b⟩
end Go.Proofs.YtelekchdbiimiaaGreat
