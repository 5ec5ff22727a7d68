/- The document's answers of package dewpondref21: both, wrong. -/
import Derived.Test.YtelekchdbiimiaaGreatGpNum
import Derived.Test.YtelekchdbiimiaaGreatRnkRef
import Derived.Test.YtelekchdbiimiaaGreatDgR
import Derived.Test.YtelekchdbiimiaaGreatMmy
import Derived.Test.YtelekchdbiimiaaGreatBoRk
import Derived.Test.YtelekchdbiimiaaGreatRfQ
import Derived.Deep.RegionHeld3
namespace Go.Proofs.YtelekchdbiimiaaGreat
set_option linter.unusedVariables false
set_option maxRecDepth 100000
open Go.RowKit
/-- the boxes of two of the document's digests -/
structure GpTw (TD : TypeId) (W w : World) (g1 g2 : Nat) (k1 l1 : Int) (A1 : Option Addr) (n1 c1 : Nat) (k2 l2 : Int) (A2 : Option Addr) (n2 c2 : Nat) : Prop where
  x : w.ownsRow W.heap.size TD 3 (.slice (some ⟨g1, 0, none⟩) 1 1) 1 [.int .i64 k1, .int .i64 l1, .slice A1 n1 c1]
  y : w.ownsRow W.heap.size TD 3 (.slice (some ⟨g2, 0, none⟩) 1 1) 1 [.int .i64 k2, .int .i64 l2, .slice A2 n2 c2]
  hb : Below W.heap.size W w
section
variable {TD : TypeId} {W w w' : World} {g1 g2 : Nat} {k1 l1 : Int} {A1 : Option Addr} {n1 c1 : Nat} {k2 l2 : Int} {A2 : Option Addr} {n2 c2 : Nat}
theorem GpTw.below (h : GpTw TD W w g1 g2 k1 l1 A1 n1 c1 k2 l2 A2 n2 c2) (q : Below w.heap.size w w') : GpTw TD W w' g1 g2 k1 l1 A1 n1 c1 k2 l2 A2 n2 c2 := ⟨own_below h.x q, own_below h.y q, h.hb.trans (q.mono h.hb.size)⟩
theorem GpTw.cells (h : GpTw TD W w g1 g2 k1 l1 A1 n1 c1 k2 l2 A2 n2 c2) : (w.cell? ⟨g1, 0, none⟩ = some (.int .i64 k1) ∧ w.cell? ⟨g1, 1, none⟩ = some (.int .i64 l1) ∧ w.cell? ⟨g1, 2, none⟩ = some (.slice A1 n1 c1)) ∧
    (w.cell? ⟨g2, 0, none⟩ = some (.int .i64 k2) ∧ w.cell? ⟨g2, 1, none⟩ = some (.int .i64 l2) ∧ w.cell? ⟨g2, 2, none⟩ = some (.slice A2 n2 c2)) ∧ g1 < w.heap.size ∧ g2 < w.heap.size :=
  ⟨⟨h.x.cellAt 0 (by omega), h.x.cellAt 1 (by omega), h.x.cellAt 2 (by omega)⟩, ⟨h.y.cellAt 0 (by omega), h.y.cellAt 1 (by omega), h.y.cellAt 2 (by omega)⟩, (h.x.lt g1 rfl).2, (h.y.lt g2 rfl).2⟩
end
theorem GpTw.new (TD : TypeId) (W : World) (k1 l1 : Int) (A1 : Option Addr) (n1 c1 : Nat) (k2 l2 : Int) (A2 : Option Addr) (n2 c2 : Nat) :
    GpTw TD W ((W.alloc (.cells #[.int .i64 k1, .int .i64 l1, .slice A1 n1 c1] TD)).alloc (.cells #[.int .i64 k2, .int .i64 l2, .slice A2 n2 c2] TD)) W.heap.size (W.heap.size + 1) k1 l1 A1 n1 c1 k2 l2 A2 n2 c2 := by
  have e : (W.alloc (.cells #[.int .i64 k1, .int .i64 l1, .slice A1 n1 c1] TD)).heap.size = W.heap.size + 1 := by simp
  have y := tri_nw (W.alloc (.cells #[.int .i64 k1, .int .i64 l1, .slice A1 n1 c1] TD)) TD (.int .i64 k2) (.int .i64 l2) (.slice A2 n2 c2)
  rw [e] at y
  exact ⟨(tri_nw W TD (.int .i64 k1) (.int .i64 l1) (.slice A1 n1 c1)).alloc _, own_low y (by omega), ((Below.refl W.heap.size W).alloc (Nat.le_refl _) _).alloc (by simp) _⟩
theorem gp_keep8 {W a b : World} {p1 p2 p3 p4 p5 p6 p7 p8 : Addr} {x1 x2 x3 x4 x5 x6 x7 x8 : Value} (h : a.cell? p1 = some x1 ∧ a.cell? p2 = some x2 ∧ a.cell? p3 = some x3 ∧ a.cell? p4 = some x4 ∧ a.cell? p5 = some x5 ∧ a.cell? p6 = some x6 ∧ a.cell? p7 = some x7 ∧ a.cell? p8 = some x8 ∧ Below W.heap.size W a) (hb : Below a.heap.size a b)
    (h1 : p1.block < W.heap.size) (h2 : p2.block < W.heap.size) (h3 : p3.block < W.heap.size) (h4 : p4.block < W.heap.size) (h5 : p5.block < W.heap.size) (h6 : p6.block < W.heap.size) (h7 : p7.block < W.heap.size) (h8 : p8.block < W.heap.size) :
    b.cell? p1 = some x1 ∧ b.cell? p2 = some x2 ∧ b.cell? p3 = some x3 ∧ b.cell? p4 = some x4 ∧ b.cell? p5 = some x5 ∧ b.cell? p6 = some x6 ∧ b.cell? p7 = some x7 ∧ b.cell? p8 = some x8 ∧ Below W.heap.size W b := by
  obtain ⟨a1, a2, a3, a4, a5, a6, a7, a8, a9⟩ := h
  have hz := a9.size
  exact ⟨(hb.cell (by omega)).trans a1, (hb.cell (by omega)).trans a2, (hb.cell (by omega)).trans a3, (hb.cell (by omega)).trans a4, (hb.cell (by omega)).trans a5, (hb.cell (by omega)).trans a6, (hb.cell (by omega)).trans a7, (hb.cell (by omega)).trans a8, a9.trans (hb.mono hz)⟩
set_option maxHeartbeats 3200000 in
theorem rGpBoth_any {l : Int} (k y : Int) (A : Option Addr) (n c : Nat) (L : List Nd) (w : World) (h : NodesAt w (.slice A n c) L) (hr : RollC l L) (hn : n ≤ 1000) (Y0 : -9223372036854775808 ≤ y) (Y1 : y ≤ 9223372036854775807) :
    Calls Tryz.prog 59 #[.agg #[.int .i64 k, .int .i64 l, .slice A n c], .int .i64 y] w fun e w' => e = .returned (.agg #[.int .i64 (lowR l L y), .int .i64 (highR l L y)]) ∧ Below w.heap.size w w' := by
  have LW := Lib.hid (fun v (hb : Below w.heap.size w v) => rRnkLow_any (l := l) y A n c L v (h.below hb) hr hn Y0 Y1)
  have HW := Lib.hid (fun v (hb : Below w.heap.size w v) => rRnkHigh_any (l := l) y A n c L v (h.below hb) hr hn Y0 Y1)
  have e1 : (w.alloc (.cells #[.int .i64 k, .int .i64 l, .slice A n c] 31)).heap.size = w.heap.size + 1 := by simp
  have X := Lib.hid ((tri_nw w 31 (.int .i64 k) (.int .i64 l) (.slice A n c)).alloc (.cells #[.int .i64 0, .int .i64 0] 46))
  have R := box2 (w.alloc (.cells #[.int .i64 k, .int .i64 l, .slice A n c] 31)) 46 (.int .i64 0) (.int .i64 0)
  rw [e1] at R
  have R4 := Lib.hid R
  have HB : Hid (Below w.heap.size w ((w.alloc (.cells #[.int .i64 k, .int .i64 l, .slice A n c] 31)).alloc (.cells #[.int .i64 0, .int .i64 0] 46))) := ((Below.refl w.heap.size w).alloc (Nat.le_refl _) _).alloc (by simp) _
  clear h hr R e1
  generalize lowR l L y = lo at *
  generalize highR l L y = hi at *
  go_enter Tryz.func59, Tryz.ntmps59
  go_upto_region 1 with fail
  generalize (w.alloc (.cells #[.int .i64 k, .int .i64 l, .slice A n c] 31)).alloc (.cells #[.int .i64 0, .int .i64 0] 46) = W at *
  obtain ⟨x0, x1, x2, _, _, _, hz⟩ := tri_all X.out
  have X1 := Lib.hid (fun w1 (hb : Below W.heap.size W w1) => (hb.cell (p := ⟨w.heap.size, 1, none⟩) hz).trans x1)
  have X2 := Lib.hid (fun w1 (hb : Below W.heap.size W w1) => (hb.cell (p := ⟨w.heap.size, 2, none⟩) hz).trans x2)
  have HQ : Hid (∀ w1, Below W.heap.size W w1 → (∀ u, (w1.setCell ⟨w.heap.size + 1, 0, none⟩ u).cell? ⟨w.heap.size + 1, 0, none⟩ = some u) ∧ (∀ u u', ((w1.setCell ⟨w.heap.size + 1, 0, none⟩ u).setCell ⟨w.heap.size + 1, 1, none⟩ u').cell? ⟨w.heap.size + 1, 1, none⟩ = some u') ∧ w1.frozen? ⟨w.heap.size + 1, 0, none⟩ = false ∧ w1.frozen? ⟨w.heap.size + 1, 1, none⟩ = false ∧ w1.cell? ⟨w.heap.size + 1, 0, none⟩ = some (.int .i64 0) ∧ w1.cell? ⟨w.heap.size + 1, 1, none⟩ = some (.int .i64 0)) := fun w1 hb => by
    obtain ⟨y0, y1, f0, f1, _⟩ := box_cells (own_below R4.out hb)
    exact ⟨(set_two y0 y1).1, (set_two y0 y1).2, f0, f1, y0, y1⟩
  have hsS := fun w1 u u' => ((Below.refl (w.heap.size + 1) w1).setCell (p := ⟨w.heap.size + 1, 0, none⟩) (Nat.le_refl _) u).setCell (p := ⟨w.heap.size + 1, 1, none⟩) (Nat.le_refl _) u'
  clear x0 x1 x2 hz
  go_region_held3 (fun w' => w'.cell? ⟨w.heap.size, 1, none⟩ = some (.int .i64 l) ∧ w'.cell? ⟨w.heap.size, 2, none⟩ = some (.slice A n c))
    (first | (exact ⟨X1.out _ hb2, X2.out _ hb2⟩) | (exact ⟨((hsS _ _ _).cell (p := ⟨w.heap.size, 1, none⟩) (by simp)).trans (X1.out _ hb2), ((hsS _ _ _).cell (p := ⟨w.heap.size, 2, none⟩) (by simp)).trans (X2.out _ hb2)⟩) | (exact ⟨X1.out _ hb1, X2.out _ hb1⟩) | (exact ⟨X1.out _ (below_drew _), X2.out _ (below_drew _)⟩))
    (first
      | (go_at_call 103; refine (LW.out _ (HB.out.trans ((below_drew _).mono HB.out.size))).mono ?_; rintro e w1 ⟨rfl, h1⟩; have hb1 : Below W.heap.size W w1 := (below_drew W).trans h1)
      | (go_at_call 104; refine (HW.out _ (HB.out.trans (hb1.mono HB.out.size))).mono ?_; rintro e w2 ⟨rfl, h2⟩; have hb2 : Below W.heap.size W w2 := hb1.trans (h2.mono hb1.size); obtain ⟨q0, q1, f0, f1, y0, y1⟩ := HQ.out _ hb2))
  have B2 := Lib.hid (HB.out.trans (hb2.mono HB.out.size))
  go_wp2_with fail
  exact bodyPost_ret (v := .agg #[.int .i64 lo, .int .i64 hi]) (by simp [results, Tryz.results59, go_sem, q0, q1]) rfl ⟨rfl, (B2.out.setCell (p := ⟨w.heap.size + 1, 0, none⟩) (by show w.heap.size ≤ w.heap.size + 1; omega) _).setCell (p := ⟨w.heap.size + 1, 1, none⟩) (by show w.heap.size ≤ w.heap.size + 1; omega) _⟩
set_option maxHeartbeats 3200000 in
theorem rGpWrong_any {l1 l2 : Int} (k1 : Int) (A1 : Option Addr) (n1 c1 : Nat) (L : List Nd) (k2 : Int) (A2 : Option Addr) (n2 c2 : Nat) (M : List Nd) (w : World) (h1 : NodesAt w (.slice A1 n1 c1) L) (hr1 : RollC l1 L) (hn1 : n1 ≤ 1000) (h2 : NodesAt w (.slice A2 n2 c2) M) (hr2 : RollC l2 M) (hn2 : n2 ≤ 1000) :
    Calls Tryz.prog 28 #[.agg #[.int .i64 k1, .int .i64 l1, .slice A1 n1 c1], .agg #[.int .i64 k2, .int .i64 l2, .slice A2 n2 c2]] w fun e w' => e = .returned (.int .i64 (gpE l1 l2 L M)) ∧ Below w.heap.size w w' := by
  have TW := Lib.hid (GpTw.new 31 w k1 l1 A1 n1 c1 k2 l2 A2 n2 c2)
  have WA := Lib.hid (fun v (hb : Below w.heap.size w v) => rDgWeight_any l1 k1 A1 n1 c1 L v (h1.below hb) hr1 hn1)
  have WB := Lib.hid (fun v (hb : Below w.heap.size w v) => rDgWeight_any l2 k2 A2 n2 c2 M v (h2.below hb) hr2 hn2)
  have GE : Hid (gpE l1 l2 L M = if l1 = l2 then (if sumC L = 0 ∨ sumC M = 0 then 7 else 0) else 6) := rfl
  clear h1 hr1 h2 hr2
  generalize gpE l1 l2 L M = ge at *
  generalize sumC L = sL at *
  generalize sumC M = sM at *
  go_enter Tryz.func28, Tryz.ntmps28
  go_upto_region 1 with fail
  generalize ((w.alloc (.cells #[.int .i64 k1, .int .i64 l1, .slice A1 n1 c1] 31)).alloc (.cells #[.int .i64 k2, .int .i64 l2, .slice A2 n2 c2] 31)) = W at *
  obtain ⟨⟨x0, x1, x2⟩, ⟨y0, y1, y2⟩, _, _⟩ := TW.out.cells
  by_cases hl : l1 = l2
  · subst hl
    by_cases hs : sL = 0
    · have e : ge = 7 := by rw [GE.out, if_pos rfl, if_pos (.inl hs)]
      subst e hs
      clear GE
      go_wp2_with (first | (go_at_call 58; (with_reducible refine (WA.out _ TW.out.hb).mono ?_); rintro e v1 ⟨rfl, hb1⟩))
      go_ret
      exact ⟨rfl, TW.out.hb.trans (hb1.mono TW.out.hb.size)⟩
    · have b1 : (sL == 0) = false := beq_eq_false_iff_ne.2 hs
      have e : ge = if sM = 0 then 7 else 0 := by
        rw [GE.out, if_pos rfl]
        by_cases q : sM = 0
        · rw [if_pos (.inr q), if_pos q]
        · rw [if_neg (by omega), if_neg q]
      have GE2 := Lib.hid e
      clear GE hs e
      go_wp2_with fail
      refine (WA.out _ TW.out.hb).mono ?_
      rintro e v1 ⟨rfl, hb1⟩
      have TV := Lib.hid (TW.out.below hb1)
      clear hb1 x0 x1 x2 y0 y1 y2
      obtain ⟨⟨x0, x1, x2⟩, ⟨y0, y1, y2⟩, _, _⟩ := TV.out.cells
      by_cases hm : sM = 0
      · have e : ge = 7 := by rw [GE2.out, if_pos hm]
        subst e hm
        go_wp2_with (go_at_call 58; (with_reducible refine (WB.out _ TV.out.hb).mono ?_); rintro e v2 ⟨rfl, hb2⟩)
        go_ret
        exact ⟨rfl, TV.out.hb.trans (hb2.mono TV.out.hb.size)⟩
      · have b2 : (sM == 0) = false := beq_eq_false_iff_ne.2 hm
        have e : ge = 0 := by rw [GE2.out, if_neg hm]
        subst e
        clear hm GE2
        go_wp2_with (go_at_call 58; (with_reducible refine (WB.out _ TV.out.hb).mono ?_); rintro e v2 ⟨rfl, hb2⟩)
        go_ret
        exact ⟨rfl, TV.out.hb.trans (hb2.mono TV.out.hb.size)⟩
  · have b1 : (l1 == l2) = false := beq_eq_false_iff_ne.2 hl
    have e : ge = 6 := by rw [GE.out, if_neg hl]
    subst e
    clear GE hl
    go_wp2_with fail
    go_ret
    exact ⟨rfl, TW.out.hb⟩
end Go.Proofs.YtelekchdbiimiaaGreat
