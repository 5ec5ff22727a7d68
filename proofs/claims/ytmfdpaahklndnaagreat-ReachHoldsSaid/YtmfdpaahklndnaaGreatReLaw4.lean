/- The walk of the statement ReachHolds of layer reach, over the project's contracts: for every input it returns true, and nothing that was there before is changed. -/
import Derived.Test.YtmfdpaahklndnaaGreatReLaw
import Derived.Test.YtmfdpaahklndnaaGreatDgS
import Derived.Test.YtmfdpaahklndnaaGreatBlL
import Derived.Test.YtmfdpaahklndnaaGreatBgR
import Derived.Test.YtmfdpaahklndnaaGreatOpQ
import Derived.Deep.Cut
import Derived.Deep.RegionHeld3
namespace Go.Proofs.YtmfdpaahklndnaaGreat
set_option linter.unusedVariables false
set_option maxRecDepth 100000
open Go.RowKit

theorem re_keep6 {W a b : World} {p1 p2 p3 p4 p5 p6 : Addr} {x1 x2 x3 x4 x5 x6 : Value} (h : a.cell? p1 = some x1 ∧ a.cell? p2 = some x2 ∧ a.cell? p3 = some x3 ∧ a.cell? p4 = some x4 ∧ a.cell? p5 = some x5 ∧ a.cell? p6 = some x6 ∧ Below W.heap.size W a) (hb : Below a.heap.size a b)
    (h1 : p1.block < W.heap.size) (h2 : p2.block < W.heap.size) (h3 : p3.block < W.heap.size) (h4 : p4.block < W.heap.size) (h5 : p5.block < W.heap.size) (h6 : p6.block < W.heap.size) : b.cell? p1 = some x1 ∧ b.cell? p2 = some x2 ∧ b.cell? p3 = some x3 ∧ b.cell? p4 = some x4 ∧ b.cell? p5 = some x5 ∧ b.cell? p6 = some x6 ∧ Below W.heap.size W b := by
  obtain ⟨a1, a2, a3, a4, a5, a6, a7⟩ := h
  have hz := a7.size
  exact ⟨(hb.cell (by omega)).trans a1, (hb.cell (by omega)).trans a2, (hb.cell (by omega)).trans a3, (hb.cell (by omega)).trans a4, (hb.cell (by omega)).trans a5, (hb.cell (by omega)).trans a6, a7.trans (hb.mono hz)⟩
theorem re_below6 {W a : World} {p1 p2 p3 p4 p5 p6 : Addr} {x1 x2 x3 x4 x5 x6 : Value} (h : a.cell? p1 = some x1 ∧ a.cell? p2 = some x2 ∧ a.cell? p3 = some x3 ∧ a.cell? p4 = some x4 ∧ a.cell? p5 = some x5 ∧ a.cell? p6 = some x6 ∧ Below W.heap.size W a) : Below W.heap.size W a := h.2.2.2.2.2.2
set_option maxHeartbeats 12800000 in
theorem walk_reachHoldsK (KB : ReB) (s : SideX) (a b : Int) (A0 : -9223372036854775808 ≤ a) (A1 : a ≤ 9223372036854775807) (B0 : -9223372036854775808 ≤ b) (B1 : b ≤ 9223372036854775807) (w : World) (hs : SideG w s) :
    Calls Tryz.prog 5 #[.agg #[.int .i64 s.l, .int .i64 s.k, .int .i64 s.kd, .slice s.A s.n s.c], .int .i64 a, .int .i64 b] w fun e w' => e = .returned (.bool true) ∧ Below w.heap.size w w' := by
  obtain ⟨l, k, kd, A, n, c, O⟩ := s
  obtain ⟨⟨L0, L1⟩, ⟨K0, K1⟩, _, hp, hob, _⟩ := hs
  simp only at hp hob L0 L1 K0 K1 ⊢
  have HB0 : Hid (Below w.heap.size w (w.alloc (.cells #[.int .i64 l, .int .i64 k, .int .i64 kd, .slice A n c] 52))) := (Below.refl _ _).alloc (Nat.le_refl _) _
  have X0 := Lib.hid (quad_new w 52 (.int .i64 l) (.int .i64 k) (.int .i64 kd) (.slice A n c))
  have P0 := Lib.hid (hp.below HB0.out)
  have OB := Lib.hid hob
  have PB := Lib.hid KB
  have AL := Lib.hid (fun v => reAlive_any KB v)
  have RB := Lib.hid (And.intro (And.intro A0 A1) (And.intro B0 B1))
  obtain ⟨x0, x1, x2, x3, _, _, _, _, hz⟩ := quad_all X0.out
  clear hp hob KB A0 A1 B0 B1
  rcases (show 120 < n ∨ (¬ 120 < n ∧ k < 1) ∨ (¬ 120 < n ∧ ¬ k < 1 ∧ kd = 1 ∧ 10 < l) ∨ ((¬ 120 < n ∧ ¬ k < 1 ∧ kd = 1 ∧ ¬ 10 < l) ∨ (¬ 120 < n ∧ ¬ k < 1 ∧ ¬ kd = 1)) by omega) with hn | ⟨hn, hk⟩ | ⟨hn, hk, h1, h2⟩ | hh
  · have g0 : decide (120 < (n : Int)) = true := decide_eq_true (by omega)
    clear hn
    go_enter Tryz.func5, Tryz.ntmps5
    go_wp2_with (go_at_call 10; refine (AL.out _).mono ?_; rintro e v7 ⟨rfl, hbv7⟩)
    go_ret
    exact ⟨rfl, HB0.out.trans (hbv7.mono HB0.out.size)⟩
  · have g0 : decide (120 < (n : Int)) = false := decide_eq_false (by omega)
    clear hn
    go_enter Tryz.func5, Tryz.ntmps5
    go_wp2_with (go_at_call 10; refine (AL.out _).mono ?_; rintro e v7 ⟨rfl, hbv7⟩)
    go_ret
    exact ⟨rfl, HB0.out.trans (hbv7.mono HB0.out.size)⟩
  · have g0 : decide (120 < (n : Int)) = false := decide_eq_false (by omega)
    have g1 : (kd == 1) = true := beq_iff_eq.2 h1
    have g2 : decide (10 < l) = true := decide_eq_true h2
    have g3 : decide (k < 1) = false := decide_eq_false hk
    clear hn h1 h2 hk
    go_enter Tryz.func5, Tryz.ntmps5
    go_wp2_with (go_at_call 10; refine (AL.out _).mono ?_; rintro e v7 ⟨rfl, hbv7⟩)
    go_ret
    exact ⟨rfl, HB0.out.trans (hbv7.mono HB0.out.size)⟩
  · rcases hh with ⟨hn, hk, h1, h2⟩ | ⟨hn, hk, h1⟩
    case' inl =>
      have g1 : (kd == 1) = true := beq_iff_eq.2 h1
      have g2 : decide (10 < l) = false := decide_eq_false h2
      clear h1 h2
    case' inr =>
      have g1 : (kd == 1) = false := beq_eq_false_iff_ne.2 h1
      clear h1
    all_goals
      have g0 : decide (120 < (n : Int)) = false := decide_eq_false (by omega)
      have g3 : decide (k < 1) = false := decide_eq_false hk
      by_cases hc : kIs k = true ∧ isP kd l = true
      · have MD := Lib.hid (dgMade_any l k kd A n c O _ P0.out OB.out (by omega) hc)
        have HN := Lib.hid (show n ≤ 120 by omega)
        clear hc hn
        go_enter Tryz.func5, Tryz.ntmps5
        go_wp2_with fail
        generalize w.alloc (.cells #[.int .i64 l, .int .i64 k, .int .i64 kd, .slice A n c] 52) = W at *
        refine MD.out.mono ?_
        rintro e w1 ⟨q, p, g, h, T, A2, m2, c2, rfl, hd, hv, hlen, hds, hb1⟩
        generalize dgOf l k O = L at *
        have hba : Below w1.heap.size w1 (w1.alloc (.cells #[.int .i64 l, .slice A2 m2 c2] 55)) := (Below.refl _ _).alloc (Nat.le_refl _) _
        have X2 := Lib.hid (own_below X0.out (hb1.trans (hba.mono hb1.size)))
        have B2 := Lib.hid (HB0.out.trans ((hb1.trans (hba.mono hb1.size)).mono HB0.out.size))
        have D2 := Lib.hid (hd.below hba)
        have V2 := Lib.hid (hv.below hba)
        have Y2 := Lib.hid (box2 w1 55 (.int .i64 l) (.slice A2 m2 c2))
        have ML : Hid (m2 ≤ 400000) := by have := (nodes_cells hv).1; have := HN.out; show _ ≤ _; omega
        have DS := Lib.hid hds
        have PN : ∀ w, (binOp .eql 34 (.pointer (some ⟨q, 0, none⟩)) (.pointer none)).run Tryz.prog w = .ok (.bool false) w := fun _ => by kernel_rfl
        clear hd hv hlen hds hb1 hba MD x0 x1 x2 x3 hz g0 g1
        go_upto_region 4 with fail
        generalize hg2 : w1.heap.size = g2 at *
        generalize w1.alloc (.cells #[.int .i64 l, .slice A2 m2 c2] 55) = W2 at *
        clear hg2
        have dv := D2.out.v
        obtain ⟨⟨r0, r1⟩, r2, r3⟩ := RB.out
        have lh : min a b ≤ max a b := by omega
        have TT := Lib.hid (fun v (hb : Below W2.heap.size W2 v) => rgTotal_any l A2 m2 c2 T v (V2.out.below hb) (good_nonneg DS.out.bag.good) DS.out.bag.tot (by have := ML.out; omega))
        rw [← DS.out.std.tot] at TT
        have BT := Lib.hid (fun v (hb : Below W2.heap.size W2 v) => rgBetween_any l (min a b) (max a b) A2 m2 c2 T v (V2.out.below hb) (good_nonneg DS.out.bag.good) DS.out.bag.tot (by have := ML.out; omega))
        have QB := PB.out.bet (min a b) (max a b) W2 D2.out (by have := HN.out; omega) (by omega) (by omega) (by omega) (by omega)
        obtain ⟨be1, be2, be3⟩ := be_yes (l := l) (L := L) lh
        rw [be1, be2, be3] at QB
        have QB2 := Lib.hid QB
        have sk := std_bet (a := min a b) (b := max a b) DS.out.std dv.roll DS.out.bag
        have gp := btw_gap dv lh
        have sb := slack_bd dv
        have bb := btw_bd dv.roll (min a b) (max a b)
        have sf : 0 ≤ sumC L ∧ sumC L ≤ 72057594037927935 := ⟨sumC_nonneg (good_nonneg (roll_good dv.roll)), dv.roll.2.2.2.2⟩
        have u := D2.out.po.uni
        have kz : ¬ k = 0 := by omega
        have HWq : IntKind.i64.wrap ((sumC L).tdiv k) = sumC L / k := by
          rw [Int.tdiv_eq_ediv_of_nonneg sf.1]
          exact wrap_lit rfl (by omega) (by omega)
        have es : 2 * l * (sumC L / k) = 2 * slackN l k L := by rw [Int.mul_assoc]; rfl
        have HWl : IntKind.i64.wrap (2 * l) = 2 * l := wrap_lit rfl (by omega) (by omega)
        have HWl2 : wrap64 (2 * l) = 2 * l := IntWalk.wrap64_in _ (by omega)
        have HWn : IntKind.i64.wrap (2 * l * (sumC L / k)) = 2 * l * (sumC L / k) := wrap_lit rfl (by omega) (by omega)
        have HWm : wrap64 (2 * l * (sumC L / k)) = 2 * l * (sumC L / k) := IntWalk.wrap64_in _ (by omega)
        have HWg : IntKind.i64.wrap (btwH l L (min a b) (max a b) - btwL l L (min a b) (max a b)) = btwH l L (min a b) (max a b) - btwL l L (min a b) (max a b) := wrap_lit rfl (by omega) (by omega)
        have d1 : decide (btwL l L (min a b) (max a b) ≤ betN T (min a b) (max a b)) = true := decide_eq_true sk.1
        have d2 : decide (betN T (min a b) (max a b) ≤ btwH l L (min a b) (max a b)) = true := decide_eq_true (sk.2 lh)
        have d3 : decide (btwH l L (min a b) (max a b) - btwL l L (min a b) (max a b) ≤ 2 * l * (sumC L / k)) = true := decide_eq_true (by omega)
        have dk : (k == 0) = false := beq_eq_false_iff_ne.2 kz
        clear dv QB sk gp sb bb sf u be1 be2 be3 es lh r0 r1 r2 r3
        generalize btwL l L (min a b) (max a b) = bl at *
        generalize btwH l L (min a b) (max a b) = bh at *
        generalize betN T (min a b) (max a b) = bn at *
        generalize sumC L / k = cp at *
        generalize sumC L = su at *
        go_wp2_with fail
        refine QB2.out.mono ?_
        rintro e w3 ⟨rfl, hb3⟩
        have hv3 := hb3.alloc hb3.size (.cells #[.int .i64 bl, .int .i64 bh] 29)
        have X4 := Lib.hid (own_below X2.out hv3)
        have Y4 := Lib.hid (own_below Y2.out hv3)
        have Z4 := Lib.hid (box2 w3 29 (.int .i64 bl) (.int .i64 bh))
        have U4 := Lib.hid hv3
        clear hb3 hv3 QB2 X2 Y2
        go_upto_region 8 with fail
        generalize hg3 : w3.heap.size = g3 at *
        generalize w3.alloc (.cells #[.int .i64 bl, .int .i64 bh] 29) = W4 at *
        clear hg3
        obtain ⟨y0, y1, _, _, hy⟩ := box_cells Y4.out
        go_wp2_with fail
        refine (BT.out _ U4.out).mono ?_
        rintro e W5 ⟨rfl, hb5⟩
        have X5 := Lib.hid (own_below X4.out hb5)
        have Y5 := Lib.hid (own_below Y4.out hb5)
        have Z5 := Lib.hid (own_below Z4.out hb5)
        have U5 := Lib.hid (re_next U4.out hb5)
        have R5 := Lib.hid (B2.out.trans (U5.out.mono B2.out.size))
        clear hb5 BT X4 Y4 Z4 y0 y1 hy
        go_upto_region 9 with fail
        obtain ⟨x0, x1, x2, x3, _, _, _, _, hz⟩ := quad_all X5.out
        obtain ⟨y0, y1, _, _, hy⟩ := box_cells Y5.out
        obtain ⟨z0, z1, _, _, hzz⟩ := box_cells Z5.out
        have HX := Lib.hid hz
        have HY := Lib.hid hy
        have HZ := Lib.hid hzz
        have TT5 := Lib.hid (fun v (hb : Below W5.heap.size W5 v) => TT.out v (U5.out.trans (hb.mono U5.out.size)))
        go_region_held3 (fun w' => w'.cell? ⟨w.heap.size, 0, none⟩ = some (.int .i64 l) ∧ w'.cell? ⟨w.heap.size, 1, none⟩ = some (.int .i64 k) ∧ w'.cell? ⟨g3, 0, none⟩ = some (.int .i64 bl) ∧ w'.cell? ⟨g3, 1, none⟩ = some (.int .i64 bh) ∧ w'.cell? ⟨g2, 0, none⟩ = some (.int .i64 l) ∧ w'.cell? ⟨g2, 1, none⟩ = some (.slice A2 m2 c2) ∧ Below W5.heap.size W5 w')
          (first | assumption | (exact re_keep6 (by assumption) (by assumption) HX.out HX.out HZ.out HZ.out HY.out HY.out) | (exact ⟨x0, x1, z0, z1, y0, y1, below_drew _⟩))
          (first
            | (go_at_call 18; (with_reducible refine (TT5.out _ (re_below6 (p1 := ⟨w.heap.size, 0, none⟩) (p2 := ⟨w.heap.size, 1, none⟩) (p3 := ⟨g3, 0, none⟩) (p4 := ⟨g3, 1, none⟩) (p5 := ⟨g2, 0, none⟩) (p6 := ⟨g2, 1, none⟩) (x1 := .int .i64 l) (x2 := .int .i64 k) (x3 := .int .i64 bl) (x4 := .int .i64 bh) (x5 := .int .i64 l) (x6 := .slice A2 m2 c2) (by assumption))).mono ?_); rintro e v1 ⟨rfl, hbv1⟩)
            | (go_at_call 10; refine (AL.out _).mono ?_; rintro e v7 ⟨rfl, hbv7⟩))
        rename_i hH
        have B6 := Lib.hid (R5.out.trans (Below.mono hH.2.2.2.2.2.2 R5.out.size))
        clear hH
        go_wp2_with fail
        go_ret
        exact ⟨rfl, B6.out⟩
      · have MD := Lib.hid (dgMade_no l k kd A n c (w.alloc (.cells #[.int .i64 l, .int .i64 k, .int .i64 kd, .slice A n c] 52)) hc L0 L1)
        clear hc hn
        go_enter Tryz.func5, Tryz.ntmps5
        go_wp2_with fail
        generalize w.alloc (.cells #[.int .i64 l, .int .i64 k, .int .i64 kd, .slice A n c] 52) = W at *
        refine MD.out.mono ?_
        rintro e w1 ⟨rfl, hb1⟩
        have B1 := Lib.hid (HB0.out.trans (hb1.mono HB0.out.size))
        have B2 := Lib.hid (B1.out.alloc B1.out.size (.cells #[.int .i64 0, .slice none 0 0] 55))
        clear hb1 MD x0 x1 x2 x3 hz g0 g1
        go_wp2_with (go_at_call 10; refine (AL.out _).mono ?_; rintro e v7 ⟨rfl, hbv7⟩)
        go_ret
        exact ⟨rfl, B2.out.trans (hbv7.mono B2.out.size)⟩

end Go.Proofs.YtmfdpaahklndnaaGreat
