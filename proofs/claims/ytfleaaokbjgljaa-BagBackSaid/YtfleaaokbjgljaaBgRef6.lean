/- The document's answers of package dewpondref10: Pour of whatever two, Image. -/
import Derived.Test.YtfleaaokbjgljaaBgRef5
namespace Go.Proofs.Ytfleaaokbjgljaa
set_option linter.unusedVariables false
set_option maxRecDepth 100000
open Go.RowKit
attribute [local go_sem ↓] Go.wp_at_zero Go.wp_at_succ

theorem three_below (w : World) (t : TypeId) (a b c d e f : Value) : Below w.heap.size w (((w.alloc (.cells #[a, b] t)).alloc (.cells #[c, d] t)).alloc (.cells #[e, f] t)) := (below_two ..).alloc (by simp; omega) _
set_option maxHeartbeats 1600000 in
theorem rgPour_other (l m : Int) (A A2 : Option Addr) (n c n2 c2 : Nat) (L M : List Nd) (w : World) (h : NodesAt w (.slice A n c) L) (hq : l ≠ m) :
    Calls Try.prog 24 #[.agg #[.int .i64 l, .slice A n c], .agg #[.int .i64 m, .slice A2 n2 c2]] w (RgPost2 31 l (pourS l m L M) (pourE l m L M) (.slice A n c) w) := by
  have H := pour_other (L := L) (M := M) hq
  rw [H.1, H.2]
  have q' : (l == m) = false := by simpa using hq
  have HN := Lib.hid h
  clear H h hq
  go_enter Try.func24, Try.ntmps24
  go_wp2_with fail
  exact bodyPost_ret (v := .tuple #[.agg #[.int .i64 l, .slice A n c], .int .i64 6]) (by simp [results, Try.results24, go_sem]) rfl (rg_old HN.out (three_below ..))
set_option maxHeartbeats 3200000 in
theorem rgPour_full (l : Int) (A A2 : Option Addr) (n c n2 c2 : Nat) (L M : List Nd) (w : World) (h : NodesAt w (.slice A n c) L) (h2 : NodesAt w (.slice A2 n2 c2) M) (hC : BagC l L) (hC2 : BagC l M) (hn : n ≤ 100000) (hn2 : n2 ≤ 100000) (q2 : 72057594037927935 < sumC L + sumC M) :
    Calls Try.prog 24 #[.agg #[.int .i64 l, .slice A n c], .agg #[.int .i64 l, .slice A2 n2 c2]] w (RgPost2 31 l L 5 (.slice A n c) w) := by
  have HB := Lib.hid (three_below w 29 (.int .i64 l) (.slice A n c) (.int .i64 l) (.slice A2 n2 c2) (.int .i64 0) (.slice none 0 0))
  have HN := Lib.hid h
  have s0 := hC.tot0
  have s2 := hC2.tot0
  have T1 := Lib.hid (fun w1 (hb : Below w.heap.size w w1) => rgTotal_any l A n c L w1 (h.below hb) (good_nonneg hC.good) hC.tot (by omega))
  have T2 := Lib.hid (fun w1 (hb : Below w.heap.size w w1) => rgTotal_any l A2 n2 c2 M w1 (h2.below hb) (good_nonneg hC2.good) hC2.tot (by omega))
  have RES : Hid ((((w.alloc (.cells #[.int .i64 l, .slice A n c] 29)).alloc (.cells #[.int .i64 l, .slice A2 n2 c2] 29)).alloc (.cells #[.int .i64 0, .slice none 0 0] 29)).ownsRow w.heap.size 29 2 (.slice (some ⟨w.heap.size + 2, 0, none⟩) 1 1) 1 [.int .i64 0, .slice none 0 0]) := by
    have q := bx2 ((w.alloc (.cells #[.int .i64 l, .slice A n c] 29)).alloc (.cells #[.int .i64 l, .slice A2 n2 c2] 29)) 29 (.int .i64 0) (.slice none 0 0)
    have e : ((w.alloc (.cells #[.int .i64 l, .slice A n c] 29)).alloc (.cells #[.int .i64 l, .slice A2 n2 c2] 29)).heap.size = w.heap.size + 2 := by simp
    rw [e] at q
    exact own_low q (by omega)
  have K := k4_new w 29 29 (.int .i64 l) (.slice A n c) (.int .i64 l) (.slice A2 n2 c2)
  have K3 := K.to ((Below.refl _ _).alloc (Nat.le_refl _) (.cells #[.int .i64 0, .slice none 0 0] 29)) K.lt
  obtain ⟨x0, x1, x2, x3, _, _, _, _, _⟩ := K3
  have hzW : Hid ((((w.alloc (.cells #[.int .i64 l, .slice A n c] 29)).alloc (.cells #[.int .i64 l, .slice A2 n2 c2] 29)).alloc (.cells #[.int .i64 0, .slice none 0 0] 29)).heap.size = w.heap.size + 3) := by show _ = _; simp
  clear h h2 hC hC2 K
  generalize sumC L = T at *
  generalize sumC M = U at *
  go_enter Try.func24, Try.ntmps24
  go_wp2_with fail
  generalize ((w.alloc (.cells #[.int .i64 l, .slice A n c] 29)).alloc (.cells #[.int .i64 l, .slice A2 n2 c2] 29)).alloc (.cells #[.int .i64 0, .slice none 0 0] 29) = W at *
  have hz := hzW.out
  have hwr : IntKind.i64.wrap (72057594037927935 - T) = 72057594037927935 - T := by rw [IntKind.wrap_i64]; omega
  have hz0 : Hid (w.heap.size < W.heap.size) := by show _ < _; omega
  have hz1 : Hid (w.heap.size + 1 < W.heap.size) := by show _ < _; omega
  have hnf : 72057594037927935 - T < U := by omega
  go_region_held3 (fun w' => w'.cell? ⟨w.heap.size, 0, none⟩ = some (.int .i64 l) ∧ w'.cell? ⟨w.heap.size, 1, none⟩ = some (.slice A n c) ∧ w'.cell? ⟨w.heap.size + 1, 0, none⟩ = some (.int .i64 l) ∧ w'.cell? ⟨w.heap.size + 1, 1, none⟩ = some (.slice A2 n2 c2) ∧ Below W.heap.size W w')
    (first | assumption | (exact held4 (by assumption) (by assumption) hz0.out hz0.out hz1.out hz1.out) | (exact held4N (by assumption) _) | (exact ⟨x0, x1, x2, x3, below_drew _⟩))
    (first
      | (with_reducible refine (T1.out _ (HB.out.trans ((held4B (p := ⟨w.heap.size, 0, none⟩) (q := ⟨w.heap.size, 1, none⟩) (r := ⟨w.heap.size + 1, 0, none⟩) (s := ⟨w.heap.size + 1, 1, none⟩) (x := .int .i64 l) (y := .slice A n c) (z := .int .i64 l) (u := .slice A2 n2 c2) (by assumption)).mono HB.out.size))).mono ?_; rintro e w1 ⟨rfl, hb1⟩)
      | (with_reducible refine (T2.out _ (HB.out.trans ((held4B (p := ⟨w.heap.size, 0, none⟩) (q := ⟨w.heap.size, 1, none⟩) (r := ⟨w.heap.size + 1, 0, none⟩) (s := ⟨w.heap.size + 1, 1, none⟩) (x := .int .i64 l) (y := .slice A n c) (z := .int .i64 l) (u := .slice A2 n2 c2) (by assumption)).mono HB.out.size))).mono ?_; rintro e w1 ⟨rfl, hb1⟩))
  rename_i hH
  obtain ⟨v0, v1, v2, v3, hbr⟩ := hH
  have HBR : Hid (Below w.heap.size w w1) := HB.out.trans (hbr.mono HB.out.size)
  have RES2 := own_below RES.out hbr
  have r0 := RES2.cellAt 0 (by omega)
  have r1 := RES2.cellAt 1 (by omega)
  have g0 := RES2.frozenAt 0
  have g1 := RES2.frozenAt 1
  simp only [List.getElem?_cons_zero, List.getElem?_cons_succ] at r0 r1
  obtain ⟨q0, q1⟩ := set_two r0 r1
  clear x0 x1 x2 x3 hb1 T1 T2 RES2
  go_wp2_with fail
  have q0' : ∀ u, (w1.setCell ⟨w.heap.size + 1 + 1, 0, none⟩ u).cell? ⟨w.heap.size + 1 + 1, 0, none⟩ = some u := q0
  have q1' : ∀ u u', ((w1.setCell ⟨w.heap.size + 1 + 1, 0, none⟩ u).setCell ⟨w.heap.size + 1 + 1, 1, none⟩ u').cell? ⟨w.heap.size + 1 + 1, 1, none⟩ = some u' := q1
  have hb7 := fun u u' => (HBR.out.setCell (p := ⟨w.heap.size + 1 + 1, 0, none⟩) (by show w.heap.size ≤ w.heap.size + 1 + 1; omega) u).setCell (p := ⟨w.heap.size + 1 + 1, 1, none⟩) (by show w.heap.size ≤ w.heap.size + 1 + 1; omega) u'
  exact bodyPost_ret (v := .tuple #[.agg #[.int .i64 l, .slice A n c], .int .i64 5]) (by simp [results, Try.results24, go_sem, q0', q1']) rfl (rg_old HN.out (hb7 _ _))
theorem rgPour_any (l m : Int) (A A2 : Option Addr) (n c n2 c2 : Nat) (L M : List Nd) (w : World) (h : NodesAt w (.slice A n c) L) (h2 : NodesAt w (.slice A2 n2 c2) M) (hC : BagC l L) (hC2 : BagC m M) (hn : n ≤ 100000) (hn2 : n2 ≤ 100000) :
    Calls Try.prog 24 #[.agg #[.int .i64 l, .slice A n c], .agg #[.int .i64 m, .slice A2 n2 c2]] w (RgPost2 31 l (pourS l m L M) (pourE l m L M) (.slice A n c) w) := by
  by_cases q : l = m
  · subst q
    by_cases q2 : 72057594037927935 < sumC L + sumC M
    · rw [(pour_full q2).1, (pour_full q2).2]
      exact rgPour_full l A A2 n c n2 c2 L M w h h2 hC hC2 hn hn2 q2
    · rw [(pour_ok q2).1, (pour_ok q2).2]
      exact rgPour_ok l A A2 n c n2 c2 L M w h h2 hC hC2 hn hn2 q2
  · exact rgPour_other l m A A2 n c n2 c2 L M w h q

end Go.Proofs.Ytfleaaokbjgljaa
