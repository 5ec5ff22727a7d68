/- The walk of the statement GapTurned of layer gap, over the project's contracts: for every input it returns true, and nothing that was there before is changed. -/
import Derived.Test.YtelekchdbiimiaaGreatGpTwo
import Derived.Test.YtelekchdbiimiaaGreatGpNum2
import Derived.Test.YtelekchdbiimiaaGreatGpRef6
import Derived.Deep.Cut
namespace Go.Proofs.YtelekchdbiimiaaGreat
set_option linter.unusedVariables false
set_option maxRecDepth 100000
open Go.RowKit
theorem gp_held1G {W a b : World} {p : Addr} {x : Value} (h : a.cell? p = some x ∧ Below W.heap.size W a) (hb : Below W.heap.size a b) (hp : p.block < W.heap.size) : b.cell? p = some x ∧ Below W.heap.size W b := ⟨(hb.cell hp).trans h.1, h.2.trans hb⟩
set_option maxHeartbeats 12800000 in
theorem walk_gapTurnedK (KS : GpSd) (KA : GpAp) (KM : GpMo) (l1 k1 kd1 : Int) (A1 : Option Addr) (n1 c1 : Nat) (L : List Nd) (l2 k2 kd2 : Int) (A2 : Option Addr) (n2 c2 : Nat) (M : List Nd) (z den : Int)
    (L0 : -9223372036854775808 ≤ l1) (L1 : l1 ≤ 9223372036854775807) (K0 : -9223372036854775808 ≤ k1) (K1 : k1 ≤ 9223372036854775807) (D0 : -9223372036854775808 ≤ kd1) (D1 : kd1 ≤ 9223372036854775807) (NB1 : NBds L) (m1 : n1 ≤ 9223372036854775807)
    (L2 : -9223372036854775808 ≤ l2) (L3 : l2 ≤ 9223372036854775807) (K2 : -9223372036854775808 ≤ k2) (K3 : k2 ≤ 9223372036854775807) (D2 : -9223372036854775808 ≤ kd2) (D3 : kd2 ≤ 9223372036854775807) (NB2 : NBds M) (m2 : n2 ≤ 9223372036854775807)
    (Z0 : -9223372036854775808 ≤ z) (Z3 : z ≤ 9223372036854775807) (A0 : -9223372036854775808 ≤ den) (A3 : den ≤ 9223372036854775807) (w : World) (hv1 : NodesAt w (.slice A1 n1 c1) L) (hv2 : NodesAt w (.slice A2 n2 c2) M) :
    Calls Tryz.prog 6 #[.agg #[.int .i64 l1, .int .i64 k1, .int .i64 kd1, .slice A1 n1 c1], .agg #[.int .i64 l2, .int .i64 k2, .int .i64 kd2, .slice A2 n2 c2], .agg #[.int .i64 z, .int .i64 den]] w fun e w' => e = .returned (.bool true) ∧ Below w.heap.size w w' := by
  have e1 : (w.alloc (.cells #[.int .i64 l1, .int .i64 k1, .int .i64 kd1, .slice A1 n1 c1] 26)).heap.size = w.heap.size + 1 := by simp
  have e2 : ((w.alloc (.cells #[.int .i64 l1, .int .i64 k1, .int .i64 kd1, .slice A1 n1 c1] 26)).alloc (.cells #[.int .i64 l2, .int .i64 k2, .int .i64 kd2, .slice A2 n2 c2] 26)).heap.size = w.heap.size + 1 + 1 := by simp
  have X0 := Lib.hid (((quad_new w 26 (.int .i64 l1) (.int .i64 k1) (.int .i64 kd1) (.slice A1 n1 c1)).alloc (.cells #[.int .i64 l2, .int .i64 k2, .int .i64 kd2, .slice A2 n2 c2] 26)).alloc (.cells #[.int .i64 z, .int .i64 den] 54))
  have y := (quad_new (w.alloc (.cells #[.int .i64 l1, .int .i64 k1, .int .i64 kd1, .slice A1 n1 c1] 26)) 26 (.int .i64 l2) (.int .i64 k2) (.int .i64 kd2) (.slice A2 n2 c2)).alloc (.cells #[.int .i64 z, .int .i64 den] 54)
  rw [e1] at y
  have Y0 := Lib.hid y
  have q := box2 ((w.alloc (.cells #[.int .i64 l1, .int .i64 k1, .int .i64 kd1, .slice A1 n1 c1] 26)).alloc (.cells #[.int .i64 l2, .int .i64 k2, .int .i64 kd2, .slice A2 n2 c2] 26)) 54 (.int .i64 z) (.int .i64 den)
  rw [e2] at q
  have Q0 := Lib.hid q
  have HB0 : Hid (Below w.heap.size w (((w.alloc (.cells #[.int .i64 l1, .int .i64 k1, .int .i64 kd1, .slice A1 n1 c1] 26)).alloc (.cells #[.int .i64 l2, .int .i64 k2, .int .i64 kd2, .slice A2 n2 c2] 26)).alloc (.cells #[.int .i64 z, .int .i64 den] 54))) := (((Below.refl _ _).alloc (Nat.le_refl _) _).alloc (by simp) _).alloc (by simp; omega) _
  have AL := Lib.hid (fun v => gpAlive_any KS KA KM v)
  have PS := Lib.hid KS
  have PA := Lib.hid KA
  have PM := Lib.hid KM
  have H1 := Lib.hid hv1
  have H2 := Lib.hid hv2
  have RB := Lib.hid (And.intro A0 A3)
  have RZ := Lib.hid (And.intro Z0 Z3)
  have TT := Lib.hid (fun (v : World) (hb : Below w.heap.size w v) => gpTwo_any (kd1 := kd1) (k1 := k1) (kd2 := kd2) (k2 := k2) v (hv1.below hb) NB1 (hv2.below hb) NB2 L0 L1 L2 L3)
  clear KS KA KM hv1 hv2 A0 A3 Z0 Z3 y q e1 e2 NB1 NB2 m1 m2 L0 L1 L2 L3 K0 K1 K2 K3 D0 D1 D2 D3
  obtain ⟨x0, x1, x2, x3, _, _, _, _, hz⟩ := quad_all X0.out
  obtain ⟨y0, y1, y2, y3, _, _, _, _, hy⟩ := quad_all Y0.out
  go_enter Tryz.func6, Tryz.ntmps6
  go_upto_region 1 with fail
  generalize (((w.alloc (.cells #[.int .i64 l1, .int .i64 k1, .int .i64 kd1, .slice A1 n1 c1] 26)).alloc (.cells #[.int .i64 l2, .int .i64 k2, .int .i64 kd2, .slice A2 n2 c2] 26)).alloc (.cells #[.int .i64 z, .int .i64 den] 54)) = W at *
  go_wp2_with fail
  refine (TT.out _ HB0.out).mono ?_
  rintro e v1 (⟨⟨pa, pb, a, b, A, n, c, a', b', A', n', c', rfl⟩, hb1⟩ | ⟨j1, j2, ⟨q1, p1, g1, h1, q2, p2, g2, h2, rfl, d1, d2⟩, hb1⟩)
  · have B1 := HB0.out.trans (hb1.mono HB0.out.size)
    have B2 := Lib.hid ((B1.alloc B1.size (.cells #[.int .i64 a, .int .i64 b, .slice A n c] 31)).alloc (by have := B1.size; simp; omega) (.cells #[.int .i64 a', .int .i64 b', .slice A' n' c'] 31))
    clear hb1 x0 x1 x2 x3 hz y0 y1 y2 y3 hy B1
    go_wp2_with (go_at_call 9; refine (AL.out _).mono ?_; rintro e v7 ⟨rfl, hbv7⟩)
    go_ret
    exact ⟨rfl, B2.out.trans (hbv7.mono B2.out.size)⟩
  · have TN := GpTw.new 31 v1 k1 l1 A1 n1 c1 k2 l2 A2 n2 c2
    have E1 := Lib.hid (d1.below TN.hb)
    have E2 := Lib.hid (d2.below TN.hb)
    have Q2 := Lib.hid (own_below Q0.out (hb1.trans (TN.hb.mono hb1.size)))
    have B2 := Lib.hid (HB0.out.trans ((hb1.trans (TN.hb.mono hb1.size)).mono HB0.out.size))
    have J1 := Lib.hid j1
    have J2 := Lib.hid j2
    clear hb1 x0 x1 x2 x3 hz y0 y1 y2 y3 hy TN d1 d2 j1 j2 X0 Y0 TT HB0
    go_upto_region 2 with fail
    generalize hg3 : v1.heap.size = g3 at *
    generalize ((v1.alloc (.cells #[.int .i64 k1, .int .i64 l1, .slice A1 n1 c1] 31)).alloc (.cells #[.int .i64 k2, .int .i64 l2, .slice A2 n2 c2] 31)) = W2 at *
    clear hg3
    have rl1 := E1.out.v.roll
    have rl2 := E2.out.v.roll
    have st := sdE_turn rl1 rl2 z
    have at' := ap_turn rl1 rl2
    have mt := mt_turn rl1 rl2 den
    have as' := ap_self rl1
    have ms := mtA_self (den := den) rl1 RB.out.2
    have ge := gpE_self l1 L
    have me := mtE_self l1 L den
    have bd1 : -1 ≤ sdE l1 l2 L M z ∧ sdE l1 l2 L M z ≤ 1 := by
      unfold sdE; split
      · exact sd_bd _ _ _ _
      · omega
    have P1 := Lib.hid (fun v (hb : Below W2.heap.size W2 v) => PS.out.side z v (E1.out.below hb) (by omega) (E2.out.below hb) (by omega) RZ.out.1 RZ.out.2)
    have P2 := Lib.hid (fun v (hb : Below W2.heap.size W2 v) => PS.out.side z v (E2.out.below hb) (by omega) (E1.out.below hb) (by omega) RZ.out.1 RZ.out.2)
    have P3 := Lib.hid (fun v (hb : Below W2.heap.size W2 v) => PA.out.apart v (E1.out.below hb) (by omega) (E2.out.below hb) (by omega))
    have P4 := Lib.hid (fun v (hb : Below W2.heap.size W2 v) => PA.out.apart v (E2.out.below hb) (by omega) (E1.out.below hb) (by omega))
    have P5 := Lib.hid (fun v (hb : Below W2.heap.size W2 v) => PM.out.most den v (E1.out.below hb) (by omega) (E2.out.below hb) (by omega) RB.out.1 RB.out.2)
    have P6 := Lib.hid (fun v (hb : Below W2.heap.size W2 v) => PM.out.most den v (E2.out.below hb) (by omega) (E1.out.below hb) (by omega) RB.out.1 RB.out.2)
    rw [st, gpE_turn] at P2
    rw [at'.1, at'.2, gpE_turn] at P4
    rw [mt.1, mt.2.1, mt.2.2] at P6
    have za : -1 ≤ apZ l1 l2 L M ∧ apZ l1 l2 L M ≤ 1 := by
      unfold apZ
      split
      · rename_i hz
        obtain ⟨hll, _, _⟩ := gpE_yes hz
        subst hll
        by_cases q : (apF (sdN l1 L M) (gpP l1 L M)).2 = 0
        · rw [q]; omega
        · have a := ((ap_is rl1 rl2).one q).2.1
          rw [← a]; exact sd_bd _ _ _ _
      · omega
    have PC := Lib.hid (fun v (hb : Below W2.heap.size W2 v) => dgClone_any v (E1.out.below hb) (by omega))
    have PN := Lib.hid (fun v (hb : Below W2.heap.size W2 v) => dgN_any v (E1.out.below hb).box (E1.out.below hb).po (by omega))
    have PQ := Lib.hid (fun q p g h B v (hb : Below W2.heap.size W2 v) (dc : DgA v B q p g h kd1 l1 k1 150 L) => PA.out.apart v (E1.out.below hb) (by omega) dc (by omega))
    have PR := Lib.hid (fun q p g h B v (hb : Below W2.heap.size W2 v) (dc : DgA v B q p g h kd1 l1 k1 150 L) => PM.out.most den v (E1.out.below hb) (by omega) dc (by omega) RB.out.1 RB.out.2)
    obtain ⟨ek, hek⟩ : ∃ ek, ek = gpE l1 l1 L L := ⟨_, rfl⟩
    rw [as'.1, as'.2, ← hek] at PQ
    have EK : Hid ((sumC L = 0 → ek = 7) ∧ (¬ sumC L = 0 → ek = 0)) := ⟨fun a => by rw [hek, ge, if_pos a], fun a => by rw [hek, ge, if_neg a]⟩
    clear hek
    rw [ms, me] at PR
    have s0 : 0 ≤ sumC L := sumC_nonneg (good_nonneg (roll_good rl1))
    clear PS PA PM H1 H2 J1 J2 st at' mt as' ms ge me rl1 rl2 E1 E2
    generalize sdE l1 l2 L M z = sd at *
    generalize gpE l1 l2 L M = ge at *
    generalize apX l1 l2 L M = ax at *
    generalize apZ l1 l2 L M = az at *
    generalize mtA l1 l2 L M den = ma at *
    generalize mtB l1 l2 L M den = mb at *
    generalize mtE l1 l2 L M den = me at *
    have bn : ∀ w, (binOp .neq 46 (.agg #[.int .i64 ma, .int .i64 mb]) (.agg #[.int .i64 ma, .int .i64 mb])).run Tryz.prog w = .ok (.bool false) w := fun w => by rw [run_neq_both2]; simp
    have ws : IntKind.i64.wrap (- -sd) = sd := by rw [Int.neg_neg]; exact wrap_lit rfl (by omega) (by omega)
    have ws2 : wrap64 sd = sd := IntWalk.wrap64_in _ (by omega)
    have wz : IntKind.i64.wrap (- -az) = az := by rw [Int.neg_neg]; exact wrap_lit rfl (by omega) (by omega)
    have wz2 : wrap64 az = az := IntWalk.wrap64_in _ (by omega)
    have V0 := Lib.hid (Below.refl W2.heap.size W2)
    obtain ⟨z0, z1, _, _, zl⟩ := box_cells (own_below Q2.out V0.out)
    go_wp2_with fail
    refine (P1.out _ V0.out).mono ?_
    rintro e u1 ⟨rfl, hu1⟩
    have V1 := Lib.hid (re_next V0.out hu1)
    clear hu1 P1 z0 z1 zl
    obtain ⟨z0, z1, _, _, zl⟩ := box_cells (own_below Q2.out V1.out)
    go_wp2_with fail
    refine (P2.out _ V1.out).mono ?_
    rintro e u2 ⟨rfl, hu2⟩
    have V2 := Lib.hid (re_next V1.out hu2)
    clear hu2 P2 z0 z1 zl
    go_wp2_with fail
    refine (P3.out _ V2.out).mono ?_
    rintro e u3 ⟨rfl, hu3⟩
    have V3 := Lib.hid (re_next V2.out hu3)
    clear hu3 P3
    go_wp2_with fail
    refine (P4.out _ V3.out).mono ?_
    rintro e u4 ⟨rfl, hu4⟩
    have V4 := Lib.hid (re_next V3.out hu4)
    clear hu4 P4
    obtain ⟨z0, z1, _, _, zl⟩ := box_cells (own_below Q2.out V4.out)
    go_wp2_with fail
    refine (P5.out _ V4.out).mono ?_
    rintro e u5 ⟨rfl, hu5⟩
    have hv5 := hu5.alloc hu5.size (.cells #[.int .i64 ma, .int .i64 mb] 46)
    have V5 := Lib.hid (re_next V4.out hv5)
    have M5 := Lib.hid (box2 u5 46 (.int .i64 ma) (.int .i64 mb))
    clear hu5 hv5 P5 z0 z1 zl
    go_upto_region 9 with fail
    generalize u5.heap.size = b5 at *
    generalize u5.alloc (.cells #[.int .i64 ma, .int .i64 mb] 46) = U5 at *
    obtain ⟨z0, z1, _, _, zl⟩ := box_cells (own_below Q2.out V5.out)
    go_wp2_with fail
    refine (P6.out _ V5.out).mono ?_
    rintro e u6 ⟨rfl, hu6⟩
    have hv6 := hu6.alloc hu6.size (.cells #[.int .i64 ma, .int .i64 mb] 46)
    have V6 := Lib.hid (re_next V5.out hv6)
    have M6 := Lib.hid (box2 u6 46 (.int .i64 ma) (.int .i64 mb))
    have M5b := Lib.hid (own_below M5.out hv6)
    clear hu6 hv6 P6 z0 z1 zl
    go_upto_region 10 with fail
    generalize u6.heap.size = b6 at *
    generalize u6.alloc (.cells #[.int .i64 ma, .int .i64 mb] 46) = U6 at *
    obtain ⟨s1, s2, _, _, _⟩ := box_cells M5b.out
    obtain ⟨t1, t2, _, _, _⟩ := box_cells M6.out
    go_upto_region 12 with fail
    clear s1 s2 t1 t2
    go_wp2_with fail
    refine (PC.out _ V6.out).mono ?_
    rintro e u7 ⟨q3, p3, g3', h3, rfl, d3, hu7⟩
    have V7 := Lib.hid (re_next V6.out hu7)
    have D3 := Lib.hid d3
    clear hu7 d3 M5b M6 M5
    go_wp2_with fail
    refine (PQ.out q3 p3 g3' h3 _ _ V7.out D3.out).mono ?_
    rintro e u8 ⟨rfl, hu8⟩
    have V8 := Lib.hid (re_next V7.out hu8)
    clear hu8 D3 PQ V7
    go_upto_region 13 with fail
    obtain ⟨z0, z1, _, _, zl⟩ := box_cells (own_below Q2.out V8.out)
    have ZL := Lib.hid zl
    generalize hmb : mtB l1 l1 L L den = mbs at *
    clear hmb
    obtain ⟨es, hes⟩ : ∃ es, es = (if sumC L = 0 then (7 : Int) else if den < 1 then 2 else 0) := ⟨_, rfl⟩
    rw [← hes] at PR
    have ES : Hid ((sumC L = 0 → es = 7) ∧ (¬ sumC L = 0 → den < 1 → es = 2) ∧ (¬ sumC L = 0 → ¬ den < 1 → es = 0)) := ⟨fun a => by rw [hes, if_pos a], fun a b => by rw [hes, if_neg a, if_pos b], fun a b => by rw [hes, if_neg a, if_neg b]⟩
    clear hes
    go_cut [29, 30] (fun s29 s30 wx => ∃ g, s29 = .pointer (some ⟨g, 0, none⟩) ∧ s30 = .int .i64 es ∧ wx.ownsRow 0 46 2 (.slice (some ⟨g, 0, none⟩) 1 1) 1 [.int .i64 0, .int .i64 mbs] ∧ Below u8.heap.size u8 wx)
    case first =>
      clear bn ws ws2 wz wz2 PN AL
      go_region_held3 (fun w' => w'.cell? ⟨w.heap.size + 1 + 1, 1, none⟩ = some (.int .i64 den) ∧ Below u8.heap.size u8 w')
        (first | (with_reducible exact gp_held1G K2.out (by repeat (first | with_reducible exact Below.refl _ _ | with_reducible refine gp_bsG ?_ (by first | omega | (simp; omega)) | with_reducible refine Below.alloc ?_ (by first | omega | (simp; omega)) _)) ZL.out) | assumption | (with_reducible exact held1 (by assumption) hx2 ZL.out) | (with_reducible exact held1 (by assumption) hx1 ZL.out) | (with_reducible exact held1 (by assumption) ((Below.refl _ _).alloc (Nat.le_refl _) _) ZL.out) | (exact ⟨z1, below_drew _⟩))
        (first
          | (go_at_call 21; (with_reducible refine (PC.out _ (re_next V8.out (held1B (p := ⟨w.heap.size + 1 + 1, 1, none⟩) (x := .int .i64 den) (by assumption)))).mono ?_); rintro e x1 ⟨q4, p4, g4', h4, rfl, d4, hx1⟩; have D4 := Lib.hid d4; clear d4; have s1 := hx1.size; (try simp at s1); have K1 := Lib.hid (held1 (W := u8) (p := ⟨w.heap.size + 1 + 1, 1, none⟩) (x := .int .i64 den) (by assumption) hx1 ZL.out); (try (have da : Hid (x1.ownsRow 0 46 2 (.slice (some ⟨u8.heap.size, 0, none⟩) 1 1) 1 [.int .i64 0, .int .i64 0]) := own_below (gp_box u8.drew _ _ _) hx1)))
          | (go_at_call 14; (with_reducible refine (PR.out q4 p4 g4' h4 _ _ (re_next V8.out (held1B (p := ⟨w.heap.size + 1 + 1, 1, none⟩) (x := .int .i64 den) (by assumption))) (by first | exact D4.out | exact D4.out.below ((Below.refl _ _).alloc (Nat.le_refl _) _))).mono ?_); rintro e x2 ⟨rfl, hx2⟩; have s2 := hx2.size; (try simp at s2); have K2 := Lib.hid (held1 (W := u8) (p := ⟨w.heap.size + 1 + 1, 1, none⟩) (x := .int .i64 den) (by assumption) hx2 ZL.out); have hw2 : Below x1.heap.size x1 x2 := Below.trans (by first | (exact Below.refl _ _) | (exact (Below.refl _ _).alloc (Nat.le_refl _) _)) (Below.mono hx2 (by first | (simp; done) | (simp; omega))); (try (have ea : x2.ownsRow 0 46 2 (.slice (some ⟨u8.heap.size, 0, none⟩) 1 1) 1 [.int .i64 0, .int .i64 0] := own_below da.out hw2; obtain ⟨ea0, ea1, ea2, ea3, ea4⟩ := box_cells ea)); (try (have ec : x2.ownsRow 0 46 2 (.slice (some ⟨x1.heap.size, 0, none⟩) 1 1) 1 [.int .i64 0, .int .i64 0] := own_below (gp_box x1 _ _ _) hx2; obtain ⟨ec0, ec1, ec2, ec3, ec4⟩ := box_cells ec))))
      all_goals go_wp2_with fail
      all_goals go_meet
      all_goals refine ⟨_, rfl, rfl, ?_, Below.trans K2.out.2 ?_⟩
      all_goals repeat (first | (with_reducible exact ea) | (with_reducible exact ec) | (with_reducible exact Below.refl _ _) | (with_reducible refine gp_st1 (x := .int .i64 0) (y := .int .i64 0) ?_) | (with_reducible exact gp_boxN _ _ _ _ _ (by first | rfl | (simp; done))) | (with_reducible refine World.ownsRow.alloc ?_ _) | (with_reducible refine gp_bsG ?_ (by first | omega | (simp; omega))) | (with_reducible refine Below.alloc ?_ (by first | omega | (simp; omega)) _))
    case rest =>
      obtain ⟨g9, rfl, rfl, hg9, hbc⟩ := hcut
      have V9 := Lib.hid (re_next V8.out hbc)
      have G9 := Lib.hid hg9
      clear hg9 hbc z0 z1 zl ZL PR PC
      obtain ⟨W9, hW9⟩ : ∃ W9 : World, W9 = wc := ⟨_, rfl⟩
      subst hW9
      obtain ⟨z0, z1, _, _, zl⟩ := box_cells (own_below Q2.out V9.out)
      obtain ⟨t0, t1, _, _, tz⟩ := box_cells G9.out
      have NN := Lib.hid (fun v (hb : Below W2.heap.size W2 v) => PN.out v hb)
      clear PN bn ws ws2 wz wz2 bd1 za
      by_cases q0 : sumC L = 0
      · have ek7 : ek = 7 := EK.out.1 q0
        have es7 : es = 7 := ES.out.1 q0
        subst ek7 es7
        rw [q0] at NN
        clear q0 s0
        clear EK ES
        go_wp2_with fail
        refine (NN.out _ V9.out).mono ?_
        rintro e v5 ⟨rfl, hb5⟩
        have V10 := Lib.hid (re_next V9.out hb5)
        have G10 := Lib.hid (own_below G9.out hb5)
        clear hb5 z0 z1 zl t0 t1 tz
        obtain ⟨t0, t1, _, _, tz⟩ := box_cells G10.out
        go_wp2_with fail
        refine (NN.out _ V10.out).mono ?_
        rintro e v6 ⟨rfl, hb6⟩
        have V11 := Lib.hid (re_next V10.out hb6)
        have V12 := Lib.hid (B2.out.trans (V11.out.mono B2.out.size))
        obtain ⟨z0, z1, _, _, zl⟩ := box_cells (own_below Q2.out V11.out)
        clear hb6 t0 t1 tz
        go_wp2_with (go_at_call 9; refine (AL.out _).mono ?_; rintro e v7 ⟨rfl, hbv7⟩)
        go_ret
        exact ⟨rfl, V12.out.trans (hbv7.mono V12.out.size)⟩
      · have ek0 : ek = 0 := EK.out.2 q0
        have sp : decide (0 < sumC L) = true := decide_eq_true (by omega)
        subst ek0
        by_cases d1 : den < 1
        · have es2 : es = 2 := ES.out.2.1 q0 d1
          have d2 : decide (1 ≤ den) = false := decide_eq_false (by omega)
          subst es2
          clear q0 s0 d1
          generalize sumC L = sN at *
          clear EK ES
          go_wp2_with fail
          refine (NN.out _ V9.out).mono ?_
          rintro e v5 ⟨rfl, hb5⟩
          have V10 := Lib.hid (re_next V9.out hb5)
          have G10 := Lib.hid (own_below G9.out hb5)
          clear hb5 z0 z1 zl t0 t1 tz
          obtain ⟨t0, t1, _, _, tz⟩ := box_cells G10.out
          go_wp2_with fail
          refine (NN.out _ V10.out).mono ?_
          rintro e v6 ⟨rfl, hb6⟩
          have V11 := Lib.hid (re_next V10.out hb6)
          have V12 := Lib.hid (B2.out.trans (V11.out.mono B2.out.size))
          obtain ⟨z0, z1, _, _, zl⟩ := box_cells (own_below Q2.out V11.out)
          clear hb6 t0 t1 tz
          go_wp2_with (go_at_call 9; refine (AL.out _).mono ?_; rintro e v7 ⟨rfl, hbv7⟩)
          go_ret
          exact ⟨rfl, V12.out.trans (hbv7.mono V12.out.size)⟩
        · have es0 : es = 0 := ES.out.2.2 q0 d1
          have d2 : decide (1 ≤ den) = true := decide_eq_true (by omega)
          subst es0
          clear q0 s0 d1
          generalize sumC L = sN at *
          clear EK ES
          go_wp2_with fail
          refine (NN.out _ V9.out).mono ?_
          rintro e v5 ⟨rfl, hb5⟩
          have V10 := Lib.hid (re_next V9.out hb5)
          have G10 := Lib.hid (own_below G9.out hb5)
          clear hb5 z0 z1 zl t0 t1 tz
          obtain ⟨t0, t1, _, _, tz⟩ := box_cells G10.out
          go_wp2_with fail
          refine (NN.out _ V10.out).mono ?_
          rintro e v6 ⟨rfl, hb6⟩
          have V11 := Lib.hid (re_next V10.out hb6)
          have V12 := Lib.hid (B2.out.trans (V11.out.mono B2.out.size))
          obtain ⟨z0, z1, _, _, zl⟩ := box_cells (own_below Q2.out V11.out)
          clear hb6 t0 t1 tz
          go_wp2_with (go_at_call 9; refine (AL.out _).mono ?_; rintro e v7 ⟨rfl, hbv7⟩)
          go_ret
          exact ⟨rfl, V12.out.trans (hbv7.mono V12.out.size)⟩
end Go.Proofs.YtelekchdbiimiaaGreat
