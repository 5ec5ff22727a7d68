/- What the statements of layer rank call: holds; and the walk of RankHolds, over the project's contracts. -/
import Derived.Test.YtfmgcabgbnfjlaaGreatRnkLaw
import Derived.Test.YtfmgcabgbnfjlaaGreatDgLaw9
import Derived.Test.YtfmgcabgbnfjlaaGreatBlL
import Derived.Test.YtfmgcabgbnfjlaaGreatOpQ
import Derived.Deep.Cut
namespace Go.Proofs.YtfmgcabgbnfjlaaGreat
set_option linter.unusedVariables false
set_option maxRecDepth 100000
open Go.RowKit

theorem rnk_keep5 {W a b : World} {p q r s t : Addr} {x y z u v : Value} (h : a.cell? p = some x ∧ a.cell? q = some y ∧ a.cell? r = some z ∧ a.cell? s = some u ∧ a.cell? t = some v ∧ Below W.heap.size W a) (hb : Below a.heap.size a b)
    (hp : p.block < W.heap.size) (hq : q.block < W.heap.size) (hr : r.block < W.heap.size) (hs : s.block < W.heap.size) (ht : t.block < W.heap.size) : b.cell? p = some x ∧ b.cell? q = some y ∧ b.cell? r = some z ∧ b.cell? s = some u ∧ b.cell? t = some v ∧ Below W.heap.size W b := by
  obtain ⟨h1, h2, h3, h4, h5, h6⟩ := h
  have hz := h6.size
  exact ⟨(hb.cell (by omega)).trans h1, (hb.cell (by omega)).trans h2, (hb.cell (by omega)).trans h3, (hb.cell (by omega)).trans h4, (hb.cell (by omega)).trans h5, h6.trans (hb.mono hz)⟩
theorem rnk_below5 {W a : World} {p q r s t : Addr} {x y z u v : Value} (h : a.cell? p = some x ∧ a.cell? q = some y ∧ a.cell? r = some z ∧ a.cell? s = some u ∧ a.cell? t = some v ∧ Below W.heap.size W a) : Below W.heap.size W a := h.2.2.2.2.2
set_option maxHeartbeats 12800000 in
theorem rnkHolds_any (K : RnkLH) (S : RnkS) {B q p g h : Nat} {kd l k : Int} {n : Nat} {L T : List Nd} (y : Int) (A : Option Addr) (m c : Nat) (w : World) (d : DgA w B q p g h kd l k n L) (hn : n ≤ 1000) (hv : NodesAt w (.slice A m c) T) (hm : m ≤ 1000000) (s : DgS l L T) (Y0 : -9223372036854775808 ≤ y) (Y1 : y ≤ 9223372036854775807) :
    Calls Tryz.prog 21 #[.pointer (some ⟨q, 0, none⟩), .agg #[.int .i64 l, .slice A m c], .int .i64 y] w fun e w' => e = .returned (.bool true) ∧ Below w.heap.size w w' := by
  have HB0 : Hid (Below w.heap.size w (w.alloc (.cells #[.int .i64 l, .slice A m c] 56))) := (Below.refl _ _).alloc (Nat.le_refl _) _
  have X0 := Lib.hid (box2 w 56 (.int .i64 l) (.slice A m c))
  have D0 := Lib.hid (d.below HB0.out)
  have V0 := Lib.hid (hv.below HB0.out)
  have SS := Lib.hid s
  have sk := std_rank (y := y) s.std d.v.roll s.bag
  have sb := slack_bd d.v
  have gp : lowR l L y ≤ highR l L y ∧ highR l L y - lowR l L y ≤ slackN l k L := rank_gap (y := y) d.v.roll sb.1 d.v.light
  have lb := low_bd d.v.roll y
  have hib := high_bd d.v.roll y
  have k1 := d.v.k1
  have u := d.po.uni
  have sf : 0 ≤ sumC L ∧ sumC L ≤ 72057594037927935 := ⟨sumC_nonneg (good_nonneg (roll_good d.v.roll)), d.v.roll.2.2.2.2⟩
  have RK := Lib.hid (fun v (hb : Below _ _ v) => rgRank_any l y A m c T v (V0.out.below hb) (good_nonneg SS.out.bag.good) SS.out.bag.tot hm)
  have TT := Lib.hid (fun v (hb : Below _ _ v) => rgTotal_any l A m c T v (V0.out.below hb) (good_nonneg SS.out.bag.good) SS.out.bag.tot hm)
  rw [← s.std.tot] at TT
  have LO := Lib.hid (fun v (hb : Below _ _ v) => K.low y v (D0.out.below hb) hn Y0 Y1)
  have HI := Lib.hid (fun v (hb : Below _ _ v) => K.high y v (D0.out.below hb) hn Y0 Y1)
  have SL := Lib.hid (fun v (hb : Below _ _ v) => S.slack v (D0.out.below hb) hn)
  have CF := Lib.hid (fun v (hb : Below _ _ v) => dgConf_any v (D0.out.below hb).box)
  have kz : ¬ k = 0 := by omega
  have c0 : decide (k < 1) = false := decide_eq_false (by omega)
  have HWg : IntKind.i64.wrap (highR l L y - lowR l L y) = highR l L y - lowR l L y := wrap_lit rfl (by omega) (by omega)
  have HWq : IntKind.i64.wrap ((sumC L).tdiv k) = sumC L / k := by
    rw [Int.tdiv_eq_ediv_of_nonneg sf.1]
    exact wrap_lit rfl (by omega) (by omega)
  have HWn : IntKind.i64.wrap (l * (sumC L / k)) = slackN l k L := wrap_lit rfl (by have := sb.2.2; unfold slackN at this; omega) (by have := sb.2.2; unfold slackN at this; omega)
  have HWm : wrap64 (l * (sumC L / k)) = slackN l k L := IntWalk.wrap64_in _ (by have := sb.2.2; unfold slackN at this; omega)
  have h1 : decide (lowR l L y ≤ betN T 0 y) = true := decide_eq_true sk.1
  have h2 : decide (betN T 0 y ≤ highR l L y) = true := decide_eq_true sk.2
  have h3 : decide (highR l L y - lowR l L y ≤ slackN l k L) = true := decide_eq_true gp.2
  have h4 : (slackN l k L == slackN l k L) = true := by simp
  clear d hv s sk sb gp lb hib k1 u sf
  generalize slackN l k L = sl at *
  generalize sumC L / k = cp at *
  generalize sumC L = su at *
  generalize lowR l L y = lo at *
  generalize highR l L y = hi at *
  generalize betN T 0 y = rk at *
  obtain ⟨x0, x1, _, _, hx⟩ := box_cells X0.out
  go_enter Tryz.func21, Tryz.ntmps21
  go_wp2_with fail
  generalize w.alloc (.cells #[.int .i64 l, .slice A m c] 56) = W at *
  refine (RK.out _ (Below.refl _ _)).mono ?_
  rintro e w1 ⟨rfl, hb1⟩
  have B1 := Lib.hid hb1
  clear hb1 RK x0 x1 hx
  go_wp2_with fail
  refine (LO.out _ B1.out).mono ?_
  rintro e w2 ⟨rfl, hb2⟩
  have B2 := Lib.hid (B1.out.trans (hb2.mono B1.out.size))
  clear hb2 LO
  go_wp2_with fail
  refine (HI.out _ B2.out).mono ?_
  rintro e w3 ⟨rfl, hb3⟩
  have B3 := Lib.hid (B2.out.trans (hb3.mono B2.out.size))
  clear hb3 HI
  go_wp2_with fail
  refine (CF.out _ B3.out).mono ?_
  rintro e w4 ⟨rfl, hb4⟩
  have Y4 := Lib.hid (tri_nw w4 23 (.int .i64 l) (.int .i64 k) (.int .i64 kd))
  have hb5 := hb4.alloc hb4.size (.cells #[.int .i64 l, .int .i64 k, .int .i64 kd] 23)
  have B5 := Lib.hid (B3.out.trans (hb5.mono B3.out.size))
  have X5 := Lib.hid (own_below X0.out B5.out)
  clear hb4 hb5 CF
  obtain ⟨y0, y1, y2, _, _, _, hy⟩ := tri_all Y4.out
  obtain ⟨x0, x1, _, _, hx⟩ := box_cells X5.out
  have HX := Lib.hid hx
  have HY := Lib.hid hy
  go_upto_region 6 with fail
  generalize w4.alloc (.cells #[.int .i64 l, .int .i64 k, .int .i64 kd] 23) = W5 at *
  have TT5 := Lib.hid (fun v (hb : Below W5.heap.size W5 v) => TT.out v (B5.out.trans (hb.mono B5.out.size)))
  have SL5 := Lib.hid (fun v (hb : Below W5.heap.size W5 v) => SL.out v (B5.out.trans (hb.mono B5.out.size)))
  go_region_held3 (fun w' => w'.cell? ⟨w4.heap.size, 0, none⟩ = some (.int .i64 l) ∧ w'.cell? ⟨w4.heap.size, 1, none⟩ = some (.int .i64 k) ∧ w'.cell? ⟨w4.heap.size, 2, none⟩ = some (.int .i64 kd) ∧ w'.cell? ⟨w.heap.size, 0, none⟩ = some (.int .i64 l) ∧ w'.cell? ⟨w.heap.size, 1, none⟩ = some (.slice A m c) ∧ Below W5.heap.size W5 w')
    (first | assumption | (exact rnk_keep5 (by assumption) (by assumption) HY.out HY.out HY.out HX.out HX.out) | (exact ⟨y0, y1, y2, x0, x1, below_drew _⟩))
    (first
      | (go_at_call 42; (with_reducible refine (TT5.out _ (rnk_below5 (p := ⟨w4.heap.size, 0, none⟩) (q := ⟨w4.heap.size, 1, none⟩) (r := ⟨w4.heap.size, 2, none⟩) (s := ⟨w.heap.size, 0, none⟩) (t := ⟨w.heap.size, 1, none⟩) (x := .int .i64 l) (y := .int .i64 k) (z := .int .i64 kd) (u := .int .i64 l) (v := .slice A m c) (by assumption))).mono ?_); rintro e v1 ⟨rfl, hbv1⟩)
      | (go_at_call 43; (with_reducible refine (SL5.out _ (rnk_below5 (p := ⟨w4.heap.size, 0, none⟩) (q := ⟨w4.heap.size, 1, none⟩) (r := ⟨w4.heap.size, 2, none⟩) (s := ⟨w.heap.size, 0, none⟩) (t := ⟨w.heap.size, 1, none⟩) (x := .int .i64 l) (y := .int .i64 k) (z := .int .i64 kd) (u := .int .i64 l) (v := .slice A m c) (by assumption))).mono ?_); rintro e v2 ⟨rfl, hbv2⟩))
  rename_i hH
  have B6 := Lib.hid (B5.out.trans (Below.mono hH.2.2.2.2.2 B5.out.size))
  clear hH
  go_wp2_with fail
  go_ret
  exact ⟨rfl, HB0.out.trans (B6.out.mono HB0.out.size)⟩
set_option maxHeartbeats 12800000 in
theorem walk_rankHoldsK (K : RnkLH) (S : RnkS) (s : SideX) (y : Int) (Y0 : -9223372036854775808 ≤ y) (Y1 : y ≤ 9223372036854775807) (w : World) (hs : SideG w s) :
    Calls Tryz.prog 4 #[.agg #[.int .i64 s.l, .int .i64 s.k, .int .i64 s.kd, .slice s.A s.n s.c], .int .i64 y] w fun e w' => e = .returned (.bool true) ∧ Below w.heap.size w w' := by
  obtain ⟨l, k, kd, A, n, c, O⟩ := s
  obtain ⟨⟨L0, L1⟩, _, _, hp, hob, _⟩ := hs
  simp only at hp hob L0 L1 ⊢
  have HB0 : Hid (Below w.heap.size w (w.alloc (.cells #[.int .i64 l, .int .i64 k, .int .i64 kd, .slice A n c] 53))) := (Below.refl _ _).alloc (Nat.le_refl _) _
  have X0 := Lib.hid (quad_new w 53 (.int .i64 l) (.int .i64 k) (.int .i64 kd) (.slice A n c))
  have P0 := Lib.hid (hp.below HB0.out)
  have OB := Lib.hid hob
  have KK := Lib.hid K
  have KS := Lib.hid S
  have YB := Lib.hid (And.intro Y0 Y1)
  obtain ⟨x0, x1, x2, x3, _, _, _, _, hz⟩ := quad_all X0.out
  clear hp hob K S Y0 Y1
  rcases (show 120 < n ∨ (¬ 120 < n ∧ kd = 1 ∧ 10 < l) ∨ ((¬ 120 < n ∧ kd = 1 ∧ ¬ 10 < l) ∨ (¬ 120 < n ∧ ¬ kd = 1)) by omega) with hn | ⟨hn, h1, h2⟩ | hh
  · have g0 : decide (120 < (n : Int)) = true := decide_eq_true (by omega)
    clear hn
    go_enter Tryz.func4, Tryz.ntmps4
    go_wp2_with (go_at_call 13; refine (rnkAlive_any KK.out _).mono ?_; rintro e v7 ⟨rfl, hbv7⟩)
    go_ret
    exact ⟨rfl, HB0.out.trans (hbv7.mono HB0.out.size)⟩
  · have g0 : decide (120 < (n : Int)) = false := decide_eq_false (by omega)
    have g1 : (kd == 1) = true := beq_iff_eq.2 h1
    have g2 : decide (10 < l) = true := decide_eq_true h2
    clear hn h1 h2
    go_enter Tryz.func4, Tryz.ntmps4
    go_wp2_with (go_at_call 13; refine (rnkAlive_any KK.out _).mono ?_; rintro e v7 ⟨rfl, hbv7⟩)
    go_ret
    exact ⟨rfl, HB0.out.trans (hbv7.mono HB0.out.size)⟩
  · rcases hh with ⟨hn, h1, h2⟩ | ⟨hn, h1⟩
    case' inl =>
      have g1 : (kd == 1) = true := beq_iff_eq.2 h1
      have g2 : decide (10 < l) = false := decide_eq_false h2
      clear h1 h2
    case' inr =>
      have g1 : (kd == 1) = false := beq_eq_false_iff_ne.2 h1
      clear h1
    all_goals
      have g0 : decide (120 < (n : Int)) = false := decide_eq_false (by omega)
      by_cases hc : kIs k = true ∧ isP kd l = true
      · have MD := Lib.hid (dgMade_any l k kd A n c O _ P0.out OB.out (by omega) hc)
        have HN := Lib.hid (show n ≤ 120 by omega)
        clear hc hn
        go_enter Tryz.func4, Tryz.ntmps4
        go_wp2_with fail
        generalize w.alloc (.cells #[.int .i64 l, .int .i64 k, .int .i64 kd, .slice A n c] 53) = W at *
        refine MD.out.mono ?_
        rintro e w1 ⟨q, p, g, h, T, A2, m2, c2, rfl, hd, hv, hlen, hds, hb1⟩
        generalize dgOf l k O = L at *
        have hba : Below w1.heap.size w1 (w1.alloc (.cells #[.int .i64 l, .slice A2 m2 c2] 56)) := (Below.refl _ _).alloc (Nat.le_refl _) _
        have B1 := Lib.hid (HB0.out.trans (hb1.mono HB0.out.size))
        have B2 := Lib.hid (B1.out.trans (hba.mono B1.out.size))
        have D2 := Lib.hid (hd.below hba)
        have V2 := Lib.hid (hv.below hba)
        have ML : Hid (m2 ≤ 1000000) := by have := (nodes_cells hv).1; have := HN.out; show _ ≤ _; omega
        have HO := Lib.hid (rnkHolds_any KK.out KS.out y A2 m2 c2 _ D2.out (by have := HN.out; omega) V2.out ML.out hds YB.out.1 YB.out.2)
        obtain ⟨y0, y1, _, _, hy⟩ := box_cells (box2 w1 56 (.int .i64 l) (.slice A2 m2 c2))
        have PN : ∀ w, (binOp .eql 38 (.pointer (some ⟨q, 0, none⟩)) (.pointer none)).run Tryz.prog w = .ok (.bool false) w := fun _ => by kernel_rfl
        clear hd hv hlen hds hb1 hba MD x0 x1 x2 x3 hz g0 g1
        go_wp2_with fail
        refine HO.out.mono ?_
        rintro e w3 ⟨rfl, hb3⟩
        have B3 := Lib.hid (B2.out.trans (hb3.mono B2.out.size))
        clear hb3 HO
        go_wp2_with (go_at_call 13; refine (rnkAlive_any KK.out _).mono ?_; rintro e v7 ⟨rfl, hbv7⟩)
        go_ret
        exact ⟨rfl, B3.out.trans (hbv7.mono B3.out.size)⟩
      · have MD := Lib.hid (dgMade_no l k kd A n c (w.alloc (.cells #[.int .i64 l, .int .i64 k, .int .i64 kd, .slice A n c] 53)) hc L0 L1)
        clear hc hn
        go_enter Tryz.func4, Tryz.ntmps4
        go_wp2_with fail
        generalize w.alloc (.cells #[.int .i64 l, .int .i64 k, .int .i64 kd, .slice A n c] 53) = W at *
        refine MD.out.mono ?_
        rintro e w1 ⟨rfl, hb1⟩
        have B1 := Lib.hid (HB0.out.trans (hb1.mono HB0.out.size))
        have B2 := Lib.hid (B1.out.alloc B1.out.size (.cells #[.int .i64 0, .slice none 0 0] 56))
        clear hb1 MD x0 x1 x2 x3 hz g0 g1
        go_wp2_with (go_at_call 13; refine (rnkAlive_any KK.out _).mono ?_; rintro e v7 ⟨rfl, hbv7⟩)
        go_ret
        exact ⟨rfl, B2.out.trans (hbv7.mono B2.out.size)⟩

end Go.Proofs.YtfmgcabgbnfjlaaGreat
