/- The walk of the statement GapMost of layer gap, over the project's contracts: for every input it returns true, and nothing that was there before is changed. -/
import Derived.Test.YtelekchdbiimiaaGreatGpTwo
import Derived.Test.YtelekchdbiimiaaGreatGpRef6
import Derived.Deep.Cut
namespace Go.Proofs.YtelekchdbiimiaaGreat
set_option linter.unusedVariables false
set_option maxRecDepth 100000
open Go.RowKit
set_option maxHeartbeats 12800000 in
theorem walk_gapMostK (KS : GpSd) (KA : GpAp) (KM : GpMo) (l1 k1 kd1 : Int) (A1 : Option Addr) (n1 c1 : Nat) (L : List Nd) (l2 k2 kd2 : Int) (A2 : Option Addr) (n2 c2 : Nat) (M : List Nd) (den : Int)
    (L0 : -9223372036854775808 ≤ l1) (L1 : l1 ≤ 9223372036854775807) (K0 : -9223372036854775808 ≤ k1) (K1 : k1 ≤ 9223372036854775807) (D0 : -9223372036854775808 ≤ kd1) (D1 : kd1 ≤ 9223372036854775807) (NB1 : NBds L) (m1 : n1 ≤ 9223372036854775807)
    (L2 : -9223372036854775808 ≤ l2) (L3 : l2 ≤ 9223372036854775807) (K2 : -9223372036854775808 ≤ k2) (K3 : k2 ≤ 9223372036854775807) (D2 : -9223372036854775808 ≤ kd2) (D3 : kd2 ≤ 9223372036854775807) (NB2 : NBds M) (m2 : n2 ≤ 9223372036854775807)
    (A0 : -9223372036854775808 ≤ den) (A3 : den ≤ 9223372036854775807) (w : World) (hv1 : NodesAt w (.slice A1 n1 c1) L) (hv2 : NodesAt w (.slice A2 n2 c2) M) :
    Calls Tryz.prog 4 #[.agg #[.int .i64 l1, .int .i64 k1, .int .i64 kd1, .slice A1 n1 c1], .agg #[.int .i64 l2, .int .i64 k2, .int .i64 kd2, .slice A2 n2 c2], .int .i64 den] w fun e w' => e = .returned (.bool true) ∧ Below w.heap.size w w' := by
  have e1 : (w.alloc (.cells #[.int .i64 l1, .int .i64 k1, .int .i64 kd1, .slice A1 n1 c1] 26)).heap.size = w.heap.size + 1 := by simp
  have X0 := Lib.hid ((quad_new w 26 (.int .i64 l1) (.int .i64 k1) (.int .i64 kd1) (.slice A1 n1 c1)).alloc (.cells #[.int .i64 l2, .int .i64 k2, .int .i64 kd2, .slice A2 n2 c2] 26))
  have y := quad_new (w.alloc (.cells #[.int .i64 l1, .int .i64 k1, .int .i64 kd1, .slice A1 n1 c1] 26)) 26 (.int .i64 l2) (.int .i64 k2) (.int .i64 kd2) (.slice A2 n2 c2)
  rw [e1] at y
  have Y0 := Lib.hid y
  have HB0 : Hid (Below w.heap.size w ((w.alloc (.cells #[.int .i64 l1, .int .i64 k1, .int .i64 kd1, .slice A1 n1 c1] 26)).alloc (.cells #[.int .i64 l2, .int .i64 k2, .int .i64 kd2, .slice A2 n2 c2] 26))) := ((Below.refl _ _).alloc (Nat.le_refl _) _).alloc (by simp) _
  have AL := Lib.hid (fun v => gpAlive_any KS KA KM v)
  have PS := Lib.hid KS
  have PA := Lib.hid KA
  have PM := Lib.hid KM
  have H1 := Lib.hid hv1
  have H2 := Lib.hid hv2
  have RB := Lib.hid (And.intro A0 A3)
  have TT := Lib.hid (fun (v : World) (hb : Below w.heap.size w v) => gpTwo_any (kd1 := kd1) (k1 := k1) (kd2 := kd2) (k2 := k2) v (hv1.below hb) NB1 (hv2.below hb) NB2 L0 L1 L2 L3)
  clear KS KA KM hv1 hv2 A0 A3 y e1 NB1 NB2 m1 m2 L0 L1 L2 L3 K0 K1 K2 K3 D0 D1 D2 D3
  obtain ⟨x0, x1, x2, x3, _, _, _, _, hz⟩ := quad_all X0.out
  obtain ⟨y0, y1, y2, y3, _, _, _, _, hy⟩ := quad_all Y0.out
  go_enter Tryz.func4, Tryz.ntmps4
  go_upto_region 1 with fail
  generalize ((w.alloc (.cells #[.int .i64 l1, .int .i64 k1, .int .i64 kd1, .slice A1 n1 c1] 26)).alloc (.cells #[.int .i64 l2, .int .i64 k2, .int .i64 kd2, .slice A2 n2 c2] 26)) = W at *
  go_wp2_with fail
  refine (TT.out _ HB0.out).mono ?_
  rintro e v1 (⟨⟨pa, pb, a, b, A, n, c, a', b', A', n', c', rfl⟩, hb1⟩ | ⟨j1, j2, ⟨q1, p1, g1, h1, q2, p2, g2, h2, rfl, d1, d2⟩, hb1⟩)
  · have B1 := HB0.out.trans (hb1.mono HB0.out.size)
    have B2 := Lib.hid ((B1.alloc B1.size (.cells #[.int .i64 a, .int .i64 b, .slice A n c] 31)).alloc (by have := B1.size; simp; omega) (.cells #[.int .i64 a', .int .i64 b', .slice A' n' c'] 31))
    clear hb1 x0 x1 x2 x3 hz y0 y1 y2 y3 hy B1
    go_wp2_with (go_at_call 9; refine (AL.out _).mono ?_; rintro e v7 ⟨rfl, hbv7⟩)
    go_ret
    exact ⟨rfl, B2.out.trans (hbv7.mono B2.out.size)⟩
  · have TN := GpTw.new 31 v1 k1 l1 A1 n1 c1 k2 l2 A2 n2 c2
    have E1 := Lib.hid (d1.below TN.hb)
    have E2 := Lib.hid (d2.below TN.hb)
    have T0 := Lib.hid TN
    have B2 := Lib.hid (HB0.out.trans ((hb1.trans (TN.hb.mono hb1.size)).mono HB0.out.size))
    have J1 := Lib.hid j1
    have J2 := Lib.hid j2
    clear hb1 x0 x1 x2 x3 hz y0 y1 y2 y3 hy TN d1 d2 j1 j2 X0 Y0 TT HB0
    go_upto_region 2 with fail
    generalize hg3 : v1.heap.size = g3 at *
    generalize ((v1.alloc (.cells #[.int .i64 k1, .int .i64 l1, .slice A1 n1 c1] 31)).alloc (.cells #[.int .i64 k2, .int .i64 l2, .slice A2 n2 c2] 31)) = W2 at *
    clear hg3
    have TK := Lib.hid (fun (v : World) (hb : Below W2.heap.size W2 v) => (T0.out.below hb).cells)
    have P1 := Lib.hid (fun v (hb : Below W2.heap.size W2 v) => PM.out.most den v (E1.out.below hb) (by omega) (E2.out.below hb) (by omega) RB.out.1 RB.out.2)
    have RE := Lib.hid (fun v (hb : Below W2.heap.size W2 v) => rGpMost_any k1 A1 n1 c1 L k2 A2 n2 c2 M den v (H1.out.below (B2.out.trans (hb.mono B2.out.size))) E1.out.v.roll (by have := J1.out; omega) (H2.out.below (B2.out.trans (hb.mono B2.out.size))) E2.out.v.roll (by have := J2.out; omega) RB.out.1 RB.out.2)
    clear PS PA PM H1 H2 T0 E1 E2 J1 J2
    generalize mtA l1 l2 L M den = ma at *
    generalize mtB l1 l2 L M den = mb at *
    generalize mtE l1 l2 L M den = me at *
    have q1' := both_same ma mb
    have q2' : (me == me) = true := by simp
    go_wp2_with fail
    refine (P1.out _ (Below.refl _ _)).mono ?_
    rintro e u1 ⟨rfl, hu1⟩
    have hv1 := hu1.alloc hu1.size (.cells #[.int .i64 ma, .int .i64 mb] 46)
    have V1 := Lib.hid hv1
    have M1 := Lib.hid (box2 u1 46 (.int .i64 ma) (.int .i64 mb))
    clear hu1 hv1 P1
    go_upto_region 5 with fail
    generalize hg4 : u1.heap.size = g4 at *
    generalize u1.alloc (.cells #[.int .i64 ma, .int .i64 mb] 46) = U1 at *
    clear hg4
    obtain ⟨⟨x0, x1, x2⟩, ⟨y0, y1, y2⟩, zx, zy⟩ := TK.out _ V1.out
    go_wp2_with fail
    refine (RE.out _ V1.out).mono ?_
    rintro e u2 ⟨rfl, hu2⟩
    have hv2 := hu2.alloc hu2.size (.cells #[.int .i64 ma, .int .i64 mb] 46)
    have V2 := Lib.hid (B2.out.trans ((re_next V1.out hv2).mono B2.out.size))
    have N1 := Lib.hid (own_below M1.out hv2)
    have M2 := Lib.hid (box2 u2 46 (.int .i64 ma) (.int .i64 mb))
    clear hu2 hv2 RE x0 x1 x2 y0 y1 y2 zx zy
    go_upto_region 6 with fail
    generalize hg5 : u2.heap.size = g5 at *
    generalize u2.alloc (.cells #[.int .i64 ma, .int .i64 mb] 46) = U2 at *
    clear hg5
    obtain ⟨s0, s1, _, _, _⟩ := box_cells N1.out
    obtain ⟨t0, t1, _, _, _⟩ := box_cells M2.out
    go_wp2_with (go_at_call 9; refine (AL.out _).mono ?_; rintro e v7 ⟨rfl, hbv7⟩)
    go_ret
    exact ⟨rfl, V2.out.trans (hbv7.mono V2.out.size)⟩
end Go.Proofs.YtelekchdbiimiaaGreat
