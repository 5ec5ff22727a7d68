/- The walk of the statement BoundWorst of layer bound, over the project's contracts: for every input it returns true, and nothing that was there before is changed. -/
import Derived.Test.YtkoefclkpdpdpaaGreatBoLaw
import Derived.Test.YtkoefclkpdpdpaaGreatBoRef2
import Derived.Test.YtkoefclkpdpdpaaGreatBoRk
import Derived.Deep.Cut
namespace Go.Proofs.YtkoefclkpdpdpaaGreat
set_option linter.unusedVariables false
set_option maxRecDepth 100000
open Go.RowKit

set_option maxHeartbeats 25600000 in
theorem walk_boundWorstK (KE : BoE) (KM : BoM) (KW : BoW) (KI : BoI) (l k kd : Int) (A : Option Addr) (n c : Nat) (L : List Nd) (L0 : -9223372036854775808 ≤ l) (L1 : l ≤ 9223372036854775807) (K0 : -9223372036854775808 ≤ k) (K1 : k ≤ 9223372036854775807) (D0 : -9223372036854775808 ≤ kd) (D1 : kd ≤ 9223372036854775807) (NB : NBds L) (m1 : n ≤ 9223372036854775807)
    (a b : Int) (A0 : -9223372036854775808 ≤ a) (A1 : a ≤ 9223372036854775807) (B0 : -9223372036854775808 ≤ b) (B1 : b ≤ 9223372036854775807) (w : World) (hv : NodesAt w (.slice A n c) L) :
    Calls Tryz.prog 5 #[.agg #[.int .i64 l, .int .i64 k, .int .i64 kd, .slice A n c], .int .i64 a, .int .i64 b] w fun e w' => e = .returned (.bool true) ∧ Below w.heap.size w w' := by
  have X0 := Lib.hid (quad_new w 26 (.int .i64 l) (.int .i64 k) (.int .i64 kd) (.slice A n c))
  have HB0 : Hid (Below w.heap.size w (w.alloc (.cells #[.int .i64 l, .int .i64 k, .int .i64 kd, .slice A n c] 26))) := (Below.refl _ _).alloc (Nat.le_refl _) _
  have PW := Lib.hid KW
  have PI := Lib.hid KI
  have RB := Lib.hid (And.intro (And.intro A0 A1) (And.intro B0 B1))
  have HV := Lib.hid hv
  have HNB : Hid (NBds L) := NB
  have LL := Lib.hid (And.intro L0 L1)
  have AL := Lib.hid (fun v => boAlive_any KE KM KW v)
  clear KE KM KW KI A0 A1 B0 B1 K0 K1 D0 D1 m1 hv NB L0 L1
  go_enter Tryz.func5, Tryz.ntmps5
  obtain ⟨x0, x1, x2, x3, _, _, _, _, hz⟩ := quad_all X0.out
  go_upto_region 1 with fail
  generalize w.alloc (.cells #[.int .i64 l, .int .i64 k, .int .i64 kd, .slice A n c] 26) = W at *
  cases hld : rnkLdB kd l k n L
  · have LD := Lib.hid (rnkLoad_no l k kd A n c L W (HV.out.below HB0.out) HNB.out LL.out.1 LL.out.2 hld)
    clear hld
    go_wp2_with fail
    refine LD.out.mono ?_
    rintro e w7 ⟨rfl, hb7⟩
    have Q1 := Lib.hid (HB0.out.trans (hb7.mono HB0.out.size))
    have Q2 := Lib.hid (Q1.out.alloc Q1.out.size (.cells #[.int .i64 0, .int .i64 0, .slice none 0 0] 31))
    clear hb7 LD x0 x1 x2 x3 hz
    go_wp2_with (go_at_call 9; refine (AL.out _).mono ?_; rintro e v7 ⟨rfl, hbv7⟩)
    go_ret
    exact ⟨rfl, Q2.out.trans (hbv7.mono Q2.out.size)⟩
  · have LD := Lib.hid (rnkLoad_yes l k kd A n c L W (HV.out.below HB0.out) HNB.out LL.out.1 LL.out.2 hld)
    have NL : Hid (¬ 150 < n) := (of_decide_eq_true hld).1
    clear hld
    go_wp2_with fail
    refine LD.out.mono ?_
    rintro e w7 ⟨q, p, g, h, rfl, hd7, hb7⟩
    have hba := (Below.refl w7.heap.size w7).alloc (Nat.le_refl _) (.cells #[.int .i64 k, .int .i64 l, .slice A n c] 31)
    have R8 := Lib.hid (HB0.out.trans ((hb7.trans (hba.mono hb7.size)).mono HB0.out.size))
    have D8 := Lib.hid (hd7.below hba)
    have Y8 := Lib.hid (tri_nw w7 31 (.int .i64 k) (.int .i64 l) (.slice A n c))
    have PN : ∀ w, (binOp .eql 27 (.pointer (some ⟨q, 0, none⟩)) (.pointer none)).run Tryz.prog w = .ok (.bool false) w := fun _ => by kernel_rfl
    clear hd7 hb7 hba LD x0 x1 x2 x3 hz X0
    go_upto_region 4 with fail
    generalize w7.alloc (.cells #[.int .i64 k, .int .i64 l, .slice A n c] 31) = W8 at *
    have V8 := Lib.hid (HV.out.below R8.out)
    have rl := D8.out.v.roll
    have P1 := Lib.hid (fun v (hb : Below W8.heap.size W8 v) => PW.out.worst v (D8.out.below hb) (by have := NL.out; omega))
    have P2 := Lib.hid (fun v (hb : Below W8.heap.size W8 v) => PI.out.within a b v (D8.out.below hb) (by have := NL.out; omega) RB.out.1.1 RB.out.1.2 RB.out.2.1 RB.out.2.2)
    have DN := Lib.hid (fun v (hb : Below W8.heap.size W8 v) => dgN_any v (D8.out.below hb).box (D8.out.below hb).po (by have := NL.out; omega))
    have RE := Lib.hid (fun v (hb : Below W8.heap.size W8 v) => rBoWorst_any (l := l) k A n c L v (V8.out.below hb) rl (by have := NL.out; omega))
    by_cases z : sumC L = 0
    · obtain ⟨z1, z2⟩ := bo_no z
      have z3 : wiE L a b = 7 := if_pos z
      have z4 : wiB l L a b = false := by unfold wiB; rw [z3]; simp
      rw [z1, z2, z2] at P1
      rw [z3, z4] at P2
      rw [z] at DN
      clear z z1 z2 z3 z4 RE Y8 rl V8
      go_wp2_with fail
      refine (P1.out _ (Below.refl _ _)).mono ?_
      rintro e u1 ⟨rfl, hu1⟩
      have V1 := Lib.hid hu1
      clear hu1
      go_wp2_with fail
      refine (P2.out _ V1.out).mono ?_
      rintro e u2 ⟨rfl, hu2⟩
      have V2 := Lib.hid (re_next V1.out hu2)
      clear hu2
      go_wp2_with fail
      refine (DN.out _ V2.out).mono ?_
      rintro e u3 ⟨rfl, hu3⟩
      have V3 := Lib.hid (R8.out.trans ((re_next V2.out hu3).mono R8.out.size))
      clear hu3
      go_wp2_with (go_at_call 9; refine (AL.out _).mono ?_; rintro e v7 ⟨rfl, hbv7⟩)
      go_ret
      exact ⟨rfl, re_next V3.out hbv7⟩
    · obtain ⟨z1, z2⟩ := bo_yes z
      have nz : (sumC L == 0) = false := by simp [z]
      have gb := gw_bd rl (woF l L L).1
      rw [(wo_is rl).at'] at gb
      have scb : 0 ≤ sumC L ∧ sumC L ≤ 72057594037927935 := ⟨sumC_nonneg (good_nonneg (roll_good rl)), rl.2.2.2.2⟩
      have WE : Hid (wiE L a b = if a < 0 ∨ b < 1 then 2 else 0) := if_neg z
      have WB : Hid (wiB l L a b = decide (wiE L a b = 0 ∧ (woF l L L).2 * b ≤ a * sumC L)) := rfl
      rw [z1, z2, z2] at P1
      generalize wiE L a b = we at *
      generalize wiB l L a b = wb at *
      generalize (woF l L L).1 = gx at *
      generalize (woF l L L).2 = gg at *
      clear z z1 z2 rl V8
      generalize sumC L = sc at *
      go_wp2_with fail
      refine (P1.out _ (Below.refl _ _)).mono ?_
      rintro e u1 ⟨rfl, hu1⟩
      have V1 := Lib.hid hu1
      clear hu1
      go_wp2_with fail
      refine (P2.out _ V1.out).mono ?_
      rintro e u2 ⟨rfl, hu2⟩
      have V2 := Lib.hid (re_next V1.out hu2)
      clear hu2
      go_wp2_with fail
      refine (DN.out _ V2.out).mono ?_
      rintro e u3 ⟨rfl, hu3⟩
      have V3 := Lib.hid (re_next V2.out hu3)
      have Y9 := own_below Y8.out V3.out
      obtain ⟨t0, t1, t2, _, _, _, ht⟩ := tri_all Y9
      clear hu3 Y9
      go_wp2_with fail
      refine (RE.out _ V3.out).mono ?_
      rintro e u4 ⟨rfl, hu4⟩
      have V4 := Lib.hid (re_next V3.out hu4)
      clear hu4 RE t0 t1 t2 ht Y8
      have c1 : (gx == gx) = true := by simp
      have c2 : (gg == gg) = true := by simp
      have rb1 := RB.out.1
      have rb2 := RB.out.2
      have R9 := Lib.hid (R8.out.trans (V4.out.mono R8.out.size))
      by_cases bad : a < 0 ∨ b < 1
      · have e1 : we = 2 := by have := WE.out; rw [if_pos bad] at this; exact this
        have e2 : wb = false := by rw [WB.out, e1]; simp
        subst e1 e2
        by_cases ba : a < 0
        · clear bad
          go_wp2_with (go_at_call 9; refine (AL.out _).mono ?_; rintro e v7 ⟨rfl, hbv7⟩)
          go_ret
          exact ⟨rfl, re_next R9.out hbv7⟩
        · have bb : b < 1 := by omega
          clear bad
          go_wp2_with (go_at_call 9; refine (AL.out _).mono ?_; rintro e v7 ⟨rfl, hbv7⟩)
          go_ret
          exact ⟨rfl, re_next R9.out hbv7⟩
      · have e1 : we = 0 := by have := WE.out; rw [if_neg bad] at this; exact this
        have e2 : wb = decide (gg * b ≤ a * sc) := by rw [WB.out, e1]; simp
        have ba : ¬ a < 0 := by omega
        have bb : ¬ b < 1 := by omega
        have OR := Lib.hid (fun v => rfOrd_any gg b a sc v (by omega) (by omega) (by omega) (by omega) (by omega) (by omega) (by omega) (by omega))
        have oy := ord_yes (a := gg) (b := b) (c := a) (d := sc) (by unfold ordC; omega)
        rw [oy.1, oy.2] at OR
        clear oy bad WE WB
        by_cases le : gg * b ≤ a * sc
        · have e4 : wb = true := e2.trans (decide_eq_true le)
          have cm := cmp3_le le
          generalize cmp3 (gg * b) (a * sc) = cm0 at *
          clear e2 le
          subst e1 e4
          go_wp2_with fail
          refine (DN.out _ V4.out).mono ?_
          rintro e u5 ⟨rfl, hu5⟩
          have R5 := Lib.hid (re_next R9.out hu5)
          clear hu5 DN
          go_wp2_with fail
          refine (OR.out _).mono ?_
          rintro e u6 ⟨rfl, hu6⟩
          have R6 := Lib.hid (re_next R5.out hu6)
          clear hu6
          go_wp2_with (go_at_call 9; refine (AL.out _).mono ?_; rintro e v7 ⟨rfl, hbv7⟩)
          go_ret
          exact ⟨rfl, re_next R6.out hbv7⟩
        · have e4 : wb = false := e2.trans (decide_eq_false le)
          have cm := cmp3_nle (Int.not_le.1 le)
          generalize cmp3 (gg * b) (a * sc) = cm0 at *
          clear e2 le
          subst e1 e4
          go_wp2_with fail
          refine (DN.out _ V4.out).mono ?_
          rintro e u5 ⟨rfl, hu5⟩
          have R5 := Lib.hid (re_next R9.out hu5)
          clear hu5 DN
          go_wp2_with fail
          refine (OR.out _).mono ?_
          rintro e u6 ⟨rfl, hu6⟩
          have R6 := Lib.hid (re_next R5.out hu6)
          clear hu6
          go_wp2_with (go_at_call 9; refine (AL.out _).mono ?_; rintro e v7 ⟨rfl, hbv7⟩)
          go_ret
          exact ⟨ret_b (by simp [cm]), re_next R6.out hbv7⟩

end Go.Proofs.YtkoefclkpdpdpaaGreat
