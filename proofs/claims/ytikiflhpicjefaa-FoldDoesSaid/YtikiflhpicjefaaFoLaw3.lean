/- The walk of the statement FoldTells of layer fold: for every input it returns true, and nothing that was there before is changed. -/
import Derived.Test.YtikiflhpicjefaaFoLaw
import Derived.Test.YtikiflhpicjefaaPoLaw4
namespace Go.Proofs.Ytikiflhpicjefaa
set_option linter.unusedVariables false
set_option maxRecDepth 100000
open Go.RowKit

theorem keep_3 {W a b : World} {p0 p1 p2 : Addr} {x0 x1 x2 : Value} (h : a.cell? p0 = some x0 ∧ a.cell? p1 = some x1 ∧ a.cell? p2 = some x2 ∧ Below W.heap.size W a) (hb : Below a.heap.size a b) (q0 : p0.block < W.heap.size) (q1 : p1.block < W.heap.size) (q2 : p2.block < W.heap.size) :
    b.cell? p0 = some x0 ∧ b.cell? p1 = some x1 ∧ b.cell? p2 = some x2 ∧ Below W.heap.size W b := by
  obtain ⟨h0, h1, h2, h6⟩ := h
  have hz := h6.size
  exact ⟨(hb.cell (by omega)).trans h0, (hb.cell (by omega)).trans h1, (hb.cell (by omega)).trans h2, h6.trans (hb.mono hz)⟩
theorem keep_5 {W a b : World} {p0 p1 p2 p3 p4 : Addr} {x0 x1 x2 x3 x4 : Value} (h : a.cell? p0 = some x0 ∧ a.cell? p1 = some x1 ∧ a.cell? p2 = some x2 ∧ a.cell? p3 = some x3 ∧ a.cell? p4 = some x4 ∧ Below W.heap.size W a) (hb : Below a.heap.size a b)
    (q0 : p0.block < W.heap.size) (q1 : p1.block < W.heap.size) (q2 : p2.block < W.heap.size) (q3 : p3.block < W.heap.size) (q4 : p4.block < W.heap.size) :
    b.cell? p0 = some x0 ∧ b.cell? p1 = some x1 ∧ b.cell? p2 = some x2 ∧ b.cell? p3 = some x3 ∧ b.cell? p4 = some x4 ∧ Below W.heap.size W b := by
  obtain ⟨h0, h1, h2, h3, h4, h6⟩ := h
  have hz := h6.size
  exact ⟨(hb.cell (by omega)).trans h0, (hb.cell (by omega)).trans h1, (hb.cell (by omega)).trans h2, (hb.cell (by omega)).trans h3, (hb.cell (by omega)).trans h4, h6.trans (hb.mono hz)⟩
theorem below_5 {W a : World} {p0 p1 p2 p3 p4 : Addr} {x0 x1 x2 x3 x4 : Value} (h : a.cell? p0 = some x0 ∧ a.cell? p1 = some x1 ∧ a.cell? p2 = some x2 ∧ a.cell? p3 = some x3 ∧ a.cell? p4 = some x4 ∧ Below W.heap.size W a) : Below W.heap.size W a := h.2.2.2.2.2
set_option maxHeartbeats 6400000 in
theorem walk_foldTells (kd l : Int) (A : Option Addr) (n c : Nat) (L : List Nd) (a b x : Int) (K0 : -9223372036854775808 ≤ kd) (K1 : kd ≤ 9223372036854775807) (L0 : -9223372036854775808 ≤ l) (L1 : l ≤ 9223372036854775807) (NB : NBds L) (m1 : n ≤ 9223372036854775807)
    (A0 : -9223372036854775808 ≤ a) (A1 : a ≤ 9223372036854775807) (I0 : -9223372036854775808 ≤ b) (I1 : b ≤ 9223372036854775807) (C0 : -9223372036854775808 ≤ x) (C1 : x ≤ 9223372036854775807) (w : World) (H1 : NodesAt w (.slice A n c) L) :
    Calls Try.prog 3 #[.int .i64 kd, .int .i64 l, .agg #[.slice A n c, .int .i64 a, .int .i64 b, .int .i64 x]] w fun e w' => e = .returned (.bool true) ∧ Below w.heap.size w w' := by
  have HV := Lib.hid H1
  have HNB : Hid (NBds L) := NB
  have HB0 : Hid (Below w.heap.size w (w.alloc (.cells #[.slice A n c, .int .i64 a, .int .i64 b, .int .i64 x] 25))) := (Below.refl _ _).alloc (Nat.le_refl _) _
  have XB0 := Lib.hid (box4 w 25 (.slice A n c) (.int .i64 a) (.int .i64 b) (.int .i64 x))
  obtain ⟨x0, x1, x2, x3⟩ := quad_cells XB0.out
  have IS := Lib.hid (fun w1 (hb : Below w.heap.size w w1) => foIs_any kd l A n c L w1 (H1.below hb) NB L0 L1)
  have CP := Lib.hid (fun w => foCap_any a b w A0 A1 I0 I1)
  have CR := Lib.hid (fun w => rFoCap_any a b w A0 A1 I0 I1)
  generalize quoN a b = qn at *
  clear H1 NB
  by_cases hI : IsFo kd l n L
  · rw [show decide (IsFo kd l n L) = true from decide_eq_true hI] at IS
    obtain ⟨hn, hp, _, hr⟩ := hI
    have HP := Lib.hid hp
    have HRL := Lib.hid hr
    have LD := Lib.hid (fun w1 (hb : Below w.heap.size w w1) => poLoad_any kd l A n c L w1 (HV.out.below hb) HNB.out (by omega) L0 L1)
    have hRC : RollC l L := of_decide_eq_true hr
    have RMS := Lib.hid (fun w1 (hb : Below w.heap.size w w1) => rMass_any l x A n c L w1 (HV.out.below hb) hRC (by omega) C0 C1)
    have RRD := Lib.hid (fun w1 (hb : Below w.heap.size w w1) => rReady_any l x a A n c L w1 (HV.out.below hb) hRC (by omega) C0 C1)
    have hlen : L.length ≤ 1000 := by have := (nodes_cells HV.out).1; omega
    clear hp hr hRC
    go_enter Try.func3, Try.ntmps3
    go_wp2_with fail
    generalize w.alloc (.cells #[.slice A n c, .int .i64 a, .int .i64 b, .int .i64 x] 25) = W0 at *
    refine (IS.out _ HB0.out).mono ?_
    rintro e w1 ⟨rfl, hb1⟩
    have B1 := Lib.hid (HB0.out.trans (hb1.mono HB0.out.size))
    have XB1 := Lib.hid (own_below XB0.out hb1)
    obtain ⟨y0, y1, y2, y3⟩ := quad_cells XB1.out
    clear x0 x1 x2 x3 hb1
    go_wp2_with fail
    refine (LD.out _ B1.out).mono ?_
    rintro e w2 ⟨hb2, ⟨hi, _⟩ | ⟨_, hr, _⟩ | ⟨_, _, p, g, h, rfl, hd⟩⟩
    · rw [HP.out] at hi; cases hi
    · rw [HRL.out] at hr; cases hr
    have B2 := Lib.hid (B1.out.trans (hb2.mono B1.out.size))
    have XB2 := Lib.hid (own_below XB1.out hb2)
    obtain ⟨z0, z1, z2, z3⟩ := quad_cells XB2.out
    have D2 := Lib.hid hd
    have hz2 : w.heap.size < w2.heap.size := (XB2.out.lt _ rfl).2
    clear y0 y1 y2 y3 hb2 hd
    go_wp2_with fail
    clear hz2
    have hba : Below w2.heap.size w2 (w2.alloc (.cells #[.int .i64 l, .slice A n c] 34)) := (Below.refl _ _).alloc (Nat.le_refl _) _
    have SB3 := Lib.hid (foBx2 w2 34 (.int .i64 l) (.slice A n c))
    have D3 := Lib.hid (D2.out.below hba)
    have B3 := Lib.hid (B2.out.trans (hba.mono B2.out.size))
    have XB3 := Lib.hid (own_below XB2.out hba)
    have HZ3 : Hid (w2.heap.size < (w2.alloc (.cells #[.int .i64 l, .slice A n c] 34)).heap.size) := by show _ < _; simp
    clear hba z0 z1 z2 z3
    generalize w2.alloc (.cells #[.int .i64 l, .slice A n c] 34) = W3 at *
    have PMS := Lib.hid (foMass_any x W3 D3.out hlen C0 C1)
    refine PMS.out.mono ?_
    rintro e w4 ⟨rfl, hb4⟩
    have B4 := Lib.hid (B3.out.trans (hb4.mono B3.out.size))
    have SB4 := Lib.hid (own_below SB3.out hb4)
    have XB4 := Lib.hid (own_below XB3.out hb4)
    have D4 := Lib.hid (D3.out.below hb4)
    obtain ⟨z0, z1, z2, z3⟩ := quad_cells XB4.out
    obtain ⟨s0, s1, _, _, _⟩ := box_cells SB4.out
    clear hb4
    go_wp2_with fail
    refine (RMS.out _ B4.out).mono ?_
    rintro e w5 ⟨rfl, hb5⟩
    have B5 := Lib.hid (B4.out.trans (hb5.mono B4.out.size))
    have D5 := Lib.hid (D4.out.below hb5)
    obtain ⟨u0, u1, u2, u3⟩ := quad_cells (own_below XB4.out hb5)
    obtain ⟨t0, t1, _, _, ht⟩ := box_cells (own_below SB4.out hb5)
    have HZ5 : Hid (w.heap.size < w5.heap.size) := (own_below XB4.out hb5).lt _ rfl |>.2
    have HT5 := Lib.hid ht
    have PRD := Lib.hid (fun w6 (hb : Below w5.heap.size w5 w6) => foReady_any x a w6 (D5.out.below hb) hlen C0 C1)
    have RRX := Lib.hid (fun w6 (hb : Below w5.heap.size w5 w6) => RRD.out w6 (B5.out.trans (hb.mono B5.out.size)))
    clear z0 z1 z2 z3 s0 s1 hb5 ht RRD RMS PMS LD IS
    generalize readyB l L x a = rb at *
    generalize pairW l L x = pw at *
    generalize allW l L x = aw at *
    go_wp2_with fail
    go_region_held3 (fun w' => w'.cell? ⟨w.heap.size, 1, none⟩ = some (.int .i64 a) ∧ w'.cell? ⟨w.heap.size, 2, none⟩ = some (.int .i64 b) ∧ w'.cell? ⟨w.heap.size, 3, none⟩ = some (.int .i64 x) ∧ w'.cell? ⟨w2.heap.size, 0, none⟩ = some (.int .i64 l) ∧ w'.cell? ⟨w2.heap.size, 1, none⟩ = some (.slice A n c) ∧ Below w5.heap.size w5 w')
      (first | assumption | (exact keep_5 (by assumption) (by assumption) HZ5.out HZ5.out HZ5.out HT5.out HT5.out) | (exact ⟨u1, u2, u3, t0, t1, below_drew _⟩))
      (first
        | ((with_reducible refine (CP.out _).mono ?_); rintro e v1 ⟨rfl, rfl⟩)
        | ((with_reducible refine (CR.out _).mono ?_); rintro e v2 ⟨rfl, rfl⟩)
        | ((with_reducible refine (PRD.out _ (below_5 (p0 := ⟨w.heap.size, 1, none⟩) (x0 := .int .i64 a) (p1 := ⟨w.heap.size, 2, none⟩) (x1 := .int .i64 b) (p2 := ⟨w.heap.size, 3, none⟩) (x2 := .int .i64 x) (p3 := ⟨w2.heap.size, 0, none⟩) (x3 := .int .i64 l) (p4 := ⟨w2.heap.size, 1, none⟩) (x4 := .slice A n c) (by assumption))).mono ?_); rintro e v3 ⟨rfl, hbv3⟩)
        | ((with_reducible refine (RRX.out _ (below_5 (p0 := ⟨w.heap.size, 1, none⟩) (x0 := .int .i64 a) (p1 := ⟨w.heap.size, 2, none⟩) (x1 := .int .i64 b) (p2 := ⟨w.heap.size, 3, none⟩) (x2 := .int .i64 x) (p3 := ⟨w2.heap.size, 0, none⟩) (x3 := .int .i64 l) (p4 := ⟨w2.heap.size, 1, none⟩) (x4 := .slice A n c) (by assumption))).mono ?_); rintro e v4 ⟨rfl, hbv4⟩)
        | (go_at_call 10; refine (foAlive_any _).mono ?_; rintro e v6 ⟨rfl, hbv6⟩))
    rename_i hH
    have hbb := below_5 hH
    go_wp2_with fail
    go_ret
    exact ⟨rfl, B5.out.trans (hbb.mono B5.out.size)⟩
  · rw [show decide (IsFo kd l n L) = false from decide_eq_false hI] at IS
    clear hI
    go_enter Try.func3, Try.ntmps3
    go_wp2_with fail
    generalize w.alloc (.cells #[.slice A n c, .int .i64 a, .int .i64 b, .int .i64 x] 25) = W0 at *
    refine (IS.out _ HB0.out).mono ?_
    rintro e w1 ⟨rfl, hb1⟩
    have B1 := Lib.hid (HB0.out.trans (hb1.mono HB0.out.size))
    have XB1 := own_below XB0.out hb1
    obtain ⟨y0, y1, y2, y3⟩ := quad_cells XB1
    have HZ : Hid (w.heap.size < w1.heap.size) := (XB1.lt _ rfl).2
    clear x0 x1 x2 x3 hb1 XB1 y0 y3
    go_wp2_with fail
    go_region_held3 (fun w' => w'.cell? ⟨w.heap.size, 1, none⟩ = some (.int .i64 a) ∧ w'.cell? ⟨w.heap.size, 2, none⟩ = some (.int .i64 b) ∧ w'.cell? ⟨w.heap.size, 2, none⟩ = some (.int .i64 b) ∧ Below w1.heap.size w1 w')
      (first | assumption | (exact keep_3 (by assumption) (by assumption) HZ.out HZ.out HZ.out) | (exact ⟨y1, y2, y2, below_drew _⟩))
      (first
        | ((with_reducible refine (CP.out _).mono ?_); rintro e u1 ⟨rfl, rfl⟩)
        | ((with_reducible refine (CR.out _).mono ?_); rintro e u2 ⟨rfl, rfl⟩)
        | (go_at_call 10; refine (foAlive_any _).mono ?_; rintro e u6 ⟨rfl, hbu6⟩))
    rename_i hH
    have hbb := hH.2.2.2
    go_wp2_with fail
    go_ret
    exact ⟨rfl, B1.out.trans (hbb.mono B1.out.size)⟩

end Go.Proofs.Ytikiflhpicjefaa
