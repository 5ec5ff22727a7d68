/- The walk of the statement BoundSums of layer bound, over the project's contracts: for every input it returns true, and nothing that was there before is changed. -/
import Derived.Test.YtkoefclkpdpdpaaGreatBoLaw
import Derived.Test.YtkoefclkpdpdpaaGreatBoRef4
import Derived.Deep.RegionHeld3
import Derived.Deep.Cut
namespace Go.Proofs.YtkoefclkpdpdpaaGreat
set_option linter.unusedVariables false
set_option maxRecDepth 100000
open Go.RowKit

theorem cmp3_self (x : Int) : cmp3 x x = 0 := by unfold cmp3; rw [if_neg (Int.lt_irrefl _), if_neg (Int.lt_irrefl _)]
theorem bo_keep7 {W a b : World} {p1 p2 p3 p4 p5 p6 p7 : Addr} {x1 x2 x3 x4 x5 x6 x7 : Value} (h : a.cell? p1 = some x1 ∧ a.cell? p2 = some x2 ∧ a.cell? p3 = some x3 ∧ a.cell? p4 = some x4 ∧ a.cell? p5 = some x5 ∧ a.cell? p6 = some x6 ∧ a.cell? p7 = some x7 ∧ Below W.heap.size W a) (hb : Below a.heap.size a b) (k1 : p1.block < W.heap.size) (k2 : p2.block < W.heap.size) (k3 : p3.block < W.heap.size) (k4 : p4.block < W.heap.size) (k5 : p5.block < W.heap.size) (k6 : p6.block < W.heap.size) (k7 : p7.block < W.heap.size) :
    b.cell? p1 = some x1 ∧ b.cell? p2 = some x2 ∧ b.cell? p3 = some x3 ∧ b.cell? p4 = some x4 ∧ b.cell? p5 = some x5 ∧ b.cell? p6 = some x6 ∧ b.cell? p7 = some x7 ∧ Below W.heap.size W b := by
  obtain ⟨h1, h2, h3, h4, h5, h6, h7, h⟩ := h
  have hz := h.size
  exact ⟨(hb.cell (by omega)).trans h1, (hb.cell (by omega)).trans h2, (hb.cell (by omega)).trans h3, (hb.cell (by omega)).trans h4, (hb.cell (by omega)).trans h5, (hb.cell (by omega)).trans h6, (hb.cell (by omega)).trans h7, h.trans (hb.mono hz)⟩
theorem bo_below7 {W a : World} {p1 p2 p3 p4 p5 p6 p7 : Addr} {x1 x2 x3 x4 x5 x6 x7 : Value} (h : a.cell? p1 = some x1 ∧ a.cell? p2 = some x2 ∧ a.cell? p3 = some x3 ∧ a.cell? p4 = some x4 ∧ a.cell? p5 = some x5 ∧ a.cell? p6 = some x6 ∧ a.cell? p7 = some x7 ∧ Below W.heap.size W a) : Below W.heap.size W a := h.2.2.2.2.2.2.2
theorem bo_keep5 {W a b : World} {p1 p2 p3 p4 p5 : Addr} {x1 x2 x3 x4 x5 : Value} (h : a.cell? p1 = some x1 ∧ a.cell? p2 = some x2 ∧ a.cell? p3 = some x3 ∧ a.cell? p4 = some x4 ∧ a.cell? p5 = some x5 ∧ Below W.heap.size W a) (hb : Below a.heap.size a b) (k1 : p1.block < W.heap.size) (k2 : p2.block < W.heap.size) (k3 : p3.block < W.heap.size) (k4 : p4.block < W.heap.size) (k5 : p5.block < W.heap.size) :
    b.cell? p1 = some x1 ∧ b.cell? p2 = some x2 ∧ b.cell? p3 = some x3 ∧ b.cell? p4 = some x4 ∧ b.cell? p5 = some x5 ∧ Below W.heap.size W b := by
  obtain ⟨h1, h2, h3, h4, h5, h⟩ := h
  have hz := h.size
  exact ⟨(hb.cell (by omega)).trans h1, (hb.cell (by omega)).trans h2, (hb.cell (by omega)).trans h3, (hb.cell (by omega)).trans h4, (hb.cell (by omega)).trans h5, h.trans (hb.mono hz)⟩
theorem bo_below5 {W a : World} {p1 p2 p3 p4 p5 : Addr} {x1 x2 x3 x4 x5 : Value} (h : a.cell? p1 = some x1 ∧ a.cell? p2 = some x2 ∧ a.cell? p3 = some x3 ∧ a.cell? p4 = some x4 ∧ a.cell? p5 = some x5 ∧ Below W.heap.size W a) : Below W.heap.size W a := h.2.2.2.2.2
set_option maxHeartbeats 25600000 in
theorem walk_boundSumsK (KE : BoE) (KS : BoS) (KM : BoM) (KW : BoW) (l k kd : Int) (A : Option Addr) (n c : Nat) (L : List Nd) (L0 : -9223372036854775808 ≤ l) (L1 : l ≤ 9223372036854775807) (K0 : -9223372036854775808 ≤ k) (K1 : k ≤ 9223372036854775807) (D0 : -9223372036854775808 ≤ kd) (D1 : kd ≤ 9223372036854775807) (NB : NBds L) (m1 : n ≤ 9223372036854775807)
    (w : World) (hv : NodesAt w (.slice A n c) L) :
    Calls Tryz.prog 4 #[.agg #[.int .i64 l, .int .i64 k, .int .i64 kd, .slice A n c]] w fun e w' => e = .returned (.bool true) ∧ Below w.heap.size w w' := by
  have X0 := Lib.hid (quad_new w 26 (.int .i64 l) (.int .i64 k) (.int .i64 kd) (.slice A n c))
  have HB0 : Hid (Below w.heap.size w (w.alloc (.cells #[.int .i64 l, .int .i64 k, .int .i64 kd, .slice A n c] 26))) := (Below.refl _ _).alloc (Nat.le_refl _) _
  have PS := Lib.hid KS
  have PM := Lib.hid KM
  have HV := Lib.hid hv
  have HNB : Hid (NBds L) := NB
  have LL := Lib.hid (And.intro L0 L1)
  have AL := Lib.hid (fun v => boAlive_any KE KM KW v)
  clear KE KS KM KW K0 K1 D0 D1 m1 hv NB L0 L1
  go_enter Tryz.func4, Tryz.ntmps4
  obtain ⟨x0, x1, x2, x3, _, _, _, _, hz⟩ := quad_all X0.out
  go_upto_region 1 with fail
  generalize w.alloc (.cells #[.int .i64 l, .int .i64 k, .int .i64 kd, .slice A n c] 26) = W at *
  cases hld : rnkLdB kd l k n L
  · have LD := Lib.hid (rnkLoad_no l k kd A n c L W (HV.out.below HB0.out) HNB.out LL.out.1 LL.out.2 hld)
    clear hld
    go_wp2_with fail
    refine LD.out.mono ?_
    rintro e w7 ⟨rfl, hb7⟩
    have Q1 := Lib.hid (HB0.out.trans (hb7.mono HB0.out.size))
    have Q2 := Lib.hid (Q1.out.alloc Q1.out.size (.cells #[.int .i64 0, .int .i64 0, .slice none 0 0] 31))
    clear hb7 LD x0 x1 x2 x3 hz
    go_wp2_with (go_at_call 9; refine (AL.out _).mono ?_; rintro e v7 ⟨rfl, hbv7⟩)
    go_ret
    exact ⟨rfl, Q2.out.trans (hbv7.mono Q2.out.size)⟩
  · have LD := Lib.hid (rnkLoad_yes l k kd A n c L W (HV.out.below HB0.out) HNB.out LL.out.1 LL.out.2 hld)
    have NL : Hid (¬ 150 < n) := (of_decide_eq_true hld).1
    clear hld
    go_wp2_with fail
    refine LD.out.mono ?_
    rintro e w7 ⟨q, p, g, h, rfl, hd7, hb7⟩
    have hba := (Below.refl w7.heap.size w7).alloc (Nat.le_refl _) (.cells #[.int .i64 k, .int .i64 l, .slice A n c] 31)
    have R8 := Lib.hid (HB0.out.trans ((hb7.trans (hba.mono hb7.size)).mono HB0.out.size))
    have D8 := Lib.hid (hd7.below hba)
    have Y8 := Lib.hid (tri_nw w7 31 (.int .i64 k) (.int .i64 l) (.slice A n c))
    have PN : ∀ w, (binOp .eql 27 (.pointer (some ⟨q, 0, none⟩)) (.pointer none)).run Tryz.prog w = .ok (.bool false) w := fun _ => by kernel_rfl
    clear hd7 hb7 hba LD x0 x1 x2 x3 hz X0
    go_upto_region 4 with fail
    generalize w7.alloc (.cells #[.int .i64 k, .int .i64 l, .slice A n c] 31) = W8 at *
    have V8 := Lib.hid (HV.out.below R8.out)
    have rl := D8.out.v.roll
    have u : 1 ≤ l ∧ l ≤ 48 := of_decide_eq_true rl.1
    have p48 : (2 : Int) ^ l.toNat ≤ 281474976710656 := two_le l.toNat 48 (by omega)
    have sc : 0 ≤ sumC L ∧ sumC L ≤ 72057594037927935 := ⟨sumC_nonneg (good_nonneg (roll_good rl)), rl.2.2.2.2⟩
    have bl := suF_bd (loN l) (L := L) (M := 281474976710656) (good_nonneg (roll_good rl)) fun n hn => by have := node_ends rl hn; omega
    have bh := suF_bd (hiN l) (L := L) (M := 281474976710656) (good_nonneg (roll_good rl)) fun n hn => by have := node_ends rl hn; omega
    have P1 := Lib.hid (fun v (hb : Below W8.heap.size W8 v) => PS.out.sum v (D8.out.below hb) (by have := NL.out; omega))
    have P2 := Lib.hid (fun v (hb : Below W8.heap.size W8 v) => PM.out.mean v (D8.out.below hb) (by have := NL.out; omega))
    have DN := Lib.hid (fun v (hb : Below W8.heap.size W8 v) => dgN_any v (D8.out.below hb).box (D8.out.below hb).po (by have := NL.out; omega))
    have R1 : Hid (∀ v, Below W8.heap.size W8 v → Calls Tryz.prog 18 #[.agg #[.int .i64 k, .int .i64 l, .slice A n c], .bool false] v fun e w' => NewDigs v w' e (suF (loN l) L) 2000) := fun v hb => rBoSum_any (l := l) k A n c L false v (V8.out.below hb) rl (by have := NL.out; omega)
    have R2 : Hid (∀ v, Below W8.heap.size W8 v → Calls Tryz.prog 18 #[.agg #[.int .i64 k, .int .i64 l, .slice A n c], .bool true] v fun e w' => NewDigs v w' e (suF (hiN l) L) 2000) := fun v hb => rBoSum_any (l := l) k A n c L true v (V8.out.below hb) rl (by have := NL.out; omega)
    have RM := Lib.hid (fun v (hb : Below W8.heap.size W8 v) h1 => rBoMean_any (l := l) k A n c L v (V8.out.below hb) rl (by have := NL.out; omega) h1)
    have BI1 := Lib.hid (fun v => rbits_any (suF (loN l) L % 18446744073709551616) (suF (loN l) L / 18446744073709551616) v (by omega) (by omega) (by omega) (by omega))
    have BI2 := Lib.hid (fun v => rbits_any (suF (hiN l) L % 18446744073709551616) (suF (hiN l) L / 18446744073709551616) v (by omega) (by omega) (by omega) (by omega))
    rw [Int.ediv_mul_add_emod] at BI1 BI2
    clear bl bh u p48 rl
    generalize suF (loN l) L % 18446744073709551616 = p0 at *
    generalize suF (loN l) L / 18446744073709551616 = p1 at *
    generalize suF (hiN l) L % 18446744073709551616 = p2 at *
    generalize suF (hiN l) L / 18446744073709551616 = p3 at *
    go_wp2_with fail
    refine (P1.out _ (Below.refl _ _)).mono ?_
    rintro e u1 ⟨rfl, hu1⟩
    have X2 := Lib.hid (box2 u1 46 (.int .u64 p0) (.int .u64 p1))
    have X3 := Lib.hid (box2 (u1.alloc (.cells #[.int .u64 p0, .int .u64 p1] 46)) 46 (.int .u64 p2) (.int .u64 p3))
    have X2n := Lib.hid (own_below X2.out ((Below.refl _ _).alloc (Nat.le_refl _) (.cells #[.int .u64 p2, .int .u64 p3] 46)))
    have hv1 := (hu1.alloc hu1.size (.cells #[.int .u64 p0, .int .u64 p1] 46)).alloc (Nat.le_trans hu1.size (by simp)) (.cells #[.int .u64 p2, .int .u64 p3] 46)
    have Y9 := Lib.hid (own_below Y8.out hv1)
    have V1 := Lib.hid hv1
    obtain ⟨a0, a1, _, _, za⟩ := box_cells X2n.out
    obtain ⟨b0, b1, _, _, zb⟩ := box_cells X3.out
    obtain ⟨t0, t1, t2, _, _, _, zt⟩ := tri_all Y9.out
    rw [show (u1.alloc (.cells #[.int .u64 p0, .int .u64 p1] 46)).heap.size = u1.heap.size + 1 by simp] at b0 b1 zb
    have ZA := Lib.hid za
    have ZB := Lib.hid zb
    have ZT := Lib.hid zt
    clear hu1 hv1 X2 X3 X2n Y8 P1 za zb zt
    go_upto_region 5 with fail
    generalize (u1.alloc (.cells #[.int .u64 p0, .int .u64 p1] 46)).alloc (.cells #[.int .u64 p2, .int .u64 p3] 46) = U1 at *
    go_region_held3 (fun w' => w'.cell? ⟨u1.heap.size, 0, none⟩ = some (.int .u64 p0) ∧ w'.cell? ⟨u1.heap.size, 1, none⟩ = some (.int .u64 p1) ∧ w'.cell? ⟨u1.heap.size + 1, 0, none⟩ = some (.int .u64 p2) ∧ w'.cell? ⟨u1.heap.size + 1, 1, none⟩ = some (.int .u64 p3) ∧ w'.cell? ⟨w7.heap.size, 0, none⟩ = some (.int .i64 k) ∧ w'.cell? ⟨w7.heap.size, 1, none⟩ = some (.int .i64 l) ∧ w'.cell? ⟨w7.heap.size, 2, none⟩ = some (.slice A n c) ∧ Below U1.heap.size U1 w')
      (first | assumption | (exact bo_keep7 (by assumption) G4 ZA.out ZA.out ZB.out ZB.out ZT.out ZT.out ZT.out) | (exact bo_keep7 (by assumption) G3 ZA.out ZA.out ZB.out ZB.out ZT.out ZT.out ZT.out) | (exact bo_keep7 (by assumption) G2 ZA.out ZA.out ZB.out ZB.out ZT.out ZT.out ZT.out) | (exact bo_keep7 (by assumption) G1 ZA.out ZA.out ZB.out ZB.out ZT.out ZT.out ZT.out) | (exact ⟨a0, a1, b0, b1, t0, t1, t2, below_drew _⟩))
      (first
        | ((with_reducible refine (BI1.out _).mono ?_); rintro e v1 ⟨q1, l1, rfl, S1, E1, T1, M1, G1⟩)
        | ((with_reducible refine (BI2.out _).mono ?_); rintro e v3 ⟨q3, l3, rfl, S3, E3, T3, M3, G3⟩)
        | ((with_reducible refine (R1.out _ (re_next V1.out (bo_below7 (by assumption)))).mono ?_); rintro e v2 ⟨q2, l2, rfl, S2, E2, T2, M2, G2⟩)
        | ((with_reducible refine (R2.out _ (re_next V1.out (bo_below7 (by assumption)))).mono ?_); rintro e v4 ⟨q4, l4, rfl, S4, E4, T4, M4, G4⟩)
        | ((with_reducible refine (less_any _ _ l1 l2 _ (seg_below S1 G2) S2 E1 E2 (by omega) (by omega)).mono ?_); rintro e v5 ⟨he, rfl⟩; rw [T1, T2, cmp3_self] at he; subst he)
        | ((with_reducible refine (less_any _ _ l3 l4 _ (seg_below S3 G4) S4 E3 E4 (by omega) (by omega)).mono ?_); rintro e v6 ⟨he, rfl⟩; rw [T3, T4, cmp3_self] at he; subst he))
    rename_i hH
    have BU := hH.2.2.2.2.2.2.2
    have V2 := Lib.hid (re_next V1.out BU)
    have Y2 := Lib.hid (own_below Y9.out BU)
    clear S1 S2 S3 S4 E1 E2 E3 E4 T1 T2 T3 T4 M1 M2 M3 M4 G1 G2 G3 G4 hH BU a0 a1 b0 b1 t0 t1 t2 BI1 BI2 R1 R2 Y9 ZA ZB ZT V1
    by_cases z : sumC L = 0
    · obtain ⟨z1, z2⟩ := bo_no z
      rw [z1, z2, z2] at P2
      rw [z] at DN
      clear z z1 z2 RM Y2 V8 sc
      go_wp2_with fail
      refine (P2.out _ V2.out).mono ?_
      rintro e u5 ⟨rfl, hu5⟩
      have X5 := Lib.hid (box2 u5 36 (.int .i64 0) (.int .i64 0))
      have V3 := Lib.hid (re_next V2.out (hu5.alloc hu5.size (.cells #[.int .i64 0, .int .i64 0] 36)))
      clear hu5 P2
      go_wp2_with fail
      refine (DN.out _ V3.out).mono ?_
      rintro e u6 ⟨rfl, hu6⟩
      have V4 := Lib.hid (R8.out.trans ((re_next V3.out hu6).mono R8.out.size))
      obtain ⟨c0, c1, _, _, _⟩ := box_cells (own_below X5.out hu6)
      have q1 := both_same 0 0
      clear hu6 DN
      go_wp2_with (go_at_call 9; refine (AL.out _).mono ?_; rintro e v7 ⟨rfl, hbv7⟩)
      go_ret
      exact ⟨rfl, re_next V4.out hbv7⟩
    · obtain ⟨z1, z2⟩ := bo_yes z
      rw [z1, z2, z2] at P2
      have nz : (sumC L == 0) = false := by simp [z]
      have RN := Lib.hid (fun v hb => RM.out v hb (by omega))
      generalize meL l L = ml at *
      generalize meH l L = mh at *
      clear z z1 z2 RM V8
      generalize sumC L = scn at *
      go_wp2_with fail
      refine (P2.out _ V2.out).mono ?_
      rintro e u5 ⟨rfl, hu5⟩
      have X5 := Lib.hid (box2 u5 36 (.int .i64 ml) (.int .i64 mh))
      have hv5 := hu5.alloc hu5.size (.cells #[.int .i64 ml, .int .i64 mh] 36)
      have V3 := Lib.hid (re_next V2.out hv5)
      have Y3 := Lib.hid (own_below Y2.out hv5)
      clear hu5 hv5 P2 Y2
      go_wp2_with fail
      refine (DN.out _ V3.out).mono ?_
      rintro e u6 ⟨rfl, hu6⟩
      have V4 := Lib.hid (re_next V3.out hu6)
      obtain ⟨c0, c1, _, _, zc⟩ := box_cells (own_below X5.out hu6)
      obtain ⟨t0, t1, t2, _, _, _, zt⟩ := tri_all (own_below Y3.out hu6)
      have q1 := both_same ml mh
      have ZC := Lib.hid zc
      have ZT := Lib.hid zt
      clear hu6 DN X5 Y3 zc zt V3
      go_upto_region 10 with fail
      go_region_held3 (fun w' => w'.cell? ⟨u5.heap.size, 0, none⟩ = some (.int .i64 ml) ∧ w'.cell? ⟨u5.heap.size, 1, none⟩ = some (.int .i64 mh) ∧ w'.cell? ⟨w7.heap.size, 0, none⟩ = some (.int .i64 k) ∧ w'.cell? ⟨w7.heap.size, 1, none⟩ = some (.int .i64 l) ∧ w'.cell? ⟨w7.heap.size, 2, none⟩ = some (.slice A n c) ∧ Below u6.heap.size u6 w')
        (first | assumption | (exact bo_keep5 (by assumption) G6 ZC.out ZC.out ZT.out ZT.out ZT.out) | (exact bo_keep5 (by assumption) G5 ZC.out ZC.out ZT.out ZT.out ZT.out) | (exact ⟨c0, c1, t0, t1, t2, below_drew _⟩))
        (first
          | ((with_reducible refine (RN.out _ (re_next V4.out (bo_below5 (by assumption)))).mono ?_); rintro e v5 ⟨rfl, G5⟩)
          | ((with_reducible refine (AL.out _).mono ?_); rintro e v6 ⟨rfl, G6⟩))
      rename_i hH
      have BU := hH.2.2.2.2.2
      have V5 := Lib.hid (R8.out.trans ((re_next V4.out BU).mono R8.out.size))
      clear hH
      go_wp2_with fail
      go_ret
      exact ⟨rfl, V5.out⟩

end Go.Proofs.YtkoefclkpdpdpaaGreat
