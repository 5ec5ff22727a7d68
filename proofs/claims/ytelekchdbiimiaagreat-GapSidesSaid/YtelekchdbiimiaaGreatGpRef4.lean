/- The document's answers of package dewpondref21: parts. -/
import Derived.Test.YtelekchdbiimiaaGreatGpRef
import Derived.Deep.RegionHeld3
namespace Go.Proofs.YtelekchdbiimiaaGreat
set_option linter.unusedVariables false
set_option maxRecDepth 100000
open Go.RowKit
set_option maxHeartbeats 6400000 in
theorem rGpParts_any {l : Int} (k y den : Int) (A : Option Addr) (n c : Nat) (L : List Nd) (w : World) (h : NodesAt w (.slice A n c) L) (hr : RollC l L) (hn : n ≤ 1000) (Y0 : -9223372036854775808 ≤ y) (Y1 : y ≤ 9223372036854775807) (D0 : -9223372036854775808 ≤ den) (D1 : den ≤ 9223372036854775807) :
    Calls Tryz.prog 36 #[.agg #[.int .i64 k, .int .i64 l, .slice A n c], .int .i64 y, .int .i64 den] w fun e w' => e = .returned (.tuple #[.int .i64 (gdnN l L den y), .int .i64 (gupN l L den y)]) ∧ Below w.heap.size w w' := by
  have BA := Lib.hid (fun v (hb : Below w.heap.size w v) => rGpBoth_any k y A n c L v (h.below hb) hr hn Y0 Y1)
  have WT := Lib.hid (fun v (hb : Below w.heap.size w v) => rDgWeight_any l k A n c L v (h.below hb) hr hn)
  have la := low_bd hr y
  have ha := high_bd hr y
  have sa : 0 ≤ sumC L ∧ sumC L ≤ 72057594037927935 := ⟨sumC_nonneg (good_nonneg (roll_good hr)), hr.2.2.2.2⟩
  have P1 := Lib.hid (fun v => rfPart_any (lowR l L y) den (sumC L) v (by omega) (by omega) D0 D1 (by omega) (by omega))
  have P2 := Lib.hid (fun v => rfPartUp_any (highR l L y) den (sumC L) v (by omega) (by omega) D0 D1 (by omega) (by omega))
  have G1 : Hid (gdnN l L den y = partN (lowR l L y) den (sumC L)) := rfl
  have G2 : Hid (gupN l L den y = partUpN (highR l L y) den (sumC L)) := rfl
  have X0 := Lib.hid (tri_nw w 31 (.int .i64 k) (.int .i64 l) (.slice A n c))
  have HB0 := Lib.hid (below_one w (.cells #[.int .i64 k, .int .i64 l, .slice A n c] 31))
  clear h hr la ha sa Y0 Y1
  generalize gdnN l L den y = r1 at *
  generalize gupN l L den y = r2 at *
  generalize lowR l L y = y1 at *
  generalize highR l L y = y2 at *
  generalize sumC L = s at *
  generalize hp1 : partN y1 den s = p1 at *
  generalize partB y1 den s = b1 at *
  generalize hp2 : partUpN y2 den s = p2 at *
  generalize partUpB y2 den s = b2 at *
  obtain rfl : r1 = p1 := G1.out
  obtain rfl : r2 = p2 := G2.out
  clear G1 G2 hp1 hp2
  go_enter Tryz.func36, Tryz.ntmps36
  go_upto_region 1 with fail
  generalize w.alloc (.cells #[.int .i64 k, .int .i64 l, .slice A n c] 31) = W at *
  obtain ⟨x0, x3, x4, _, _, _, hz⟩ := tri_all X0.out
  go_wp2_with fail
  refine (BA.out _ HB0.out).mono ?_
  rintro e w2 ⟨rfl, hb2⟩
  have hv2 := hb2.alloc hb2.size (.cells #[.int .i64 y1, .int .i64 y2] 46)
  have X2 := Lib.hid (own_below X0.out hv2)
  have T2 := Lib.hid (box2 w2 46 (.int .i64 y1) (.int .i64 y2))
  have V2 := Lib.hid (HB0.out.trans (hv2.mono HB0.out.size))
  clear hb2 hv2 x0 x3 x4 hz BA X0 HB0
  go_upto_region 2 with fail
  generalize w2.heap.size = g2 at *
  generalize w2.alloc (.cells #[.int .i64 y1, .int .i64 y2] 46) = W2 at *
  obtain ⟨x0, x3, x4, _, _, _, hz⟩ := tri_all X2.out
  obtain ⟨t0, t1, _, _, tz⟩ := box_cells T2.out
  have KD : Hid (w.heap.size < W2.heap.size) := hz
  have KG : Hid (g2 < W2.heap.size) := tz
  have WTC := Lib.hid (fun v (hb : Below W2.heap.size W2 v) => WT.out v (V2.out.trans (hb.mono V2.out.size)))
  go_region_held3 (fun w' => w'.cell? ⟨w.heap.size, 0, none⟩ = some (.int .i64 k) ∧ w'.cell? ⟨w.heap.size, 1, none⟩ = some (.int .i64 l) ∧ w'.cell? ⟨w.heap.size, 2, none⟩ = some (.slice A n c) ∧ w'.cell? ⟨g2, 0, none⟩ = some (.int .i64 y1) ∧ Below W2.heap.size W2 w')
    (first | assumption | (exact held4 (by assumption) (by assumption) KD.out KD.out KD.out KG.out) | (exact held4N (by assumption) _) | (exact ⟨x0, x3, x4, t0, below_drew _⟩))
    (first
      | (go_at_call 58; refine (WTC.out _ (held4B (p := ⟨w.heap.size, 0, none⟩) (q := ⟨w.heap.size, 1, none⟩) (r := ⟨w.heap.size, 2, none⟩) (s := ⟨g2, 0, none⟩) (x := .int .i64 k) (y := .int .i64 l) (z := .slice A n c) (u := .int .i64 y1) (by assumption))).mono ?_; rintro e w6 ⟨rfl, hb6⟩)
      | (go_at_call 73; refine (P1.out _).mono ?_; rintro e w6 ⟨rfl, hb6⟩))
  rename_i hH0
  have hB0 := hH0.2.2.2.2
  have X3 := Lib.hid (own_below X2.out hB0)
  have T3 := Lib.hid (own_below T2.out hB0)
  have V3 := Lib.hid (V2.out.trans (hB0.mono V2.out.size))
  clear x0 x3 x4 hz t0 t1 tz KD KG WTC hH0 hB0 X2 T2 V2 P1
  go_upto_region 3 with fail
  obtain ⟨x0, x3, x4, _, _, _, hz⟩ := tri_all X3.out
  obtain ⟨t0, t1, _, _, tz⟩ := box_cells T3.out
  have KD : Hid (w.heap.size < w6.heap.size) := hz
  have KG : Hid (g2 < w6.heap.size) := tz
  have WTC := Lib.hid (fun v (hb : Below w6.heap.size w6 v) => WT.out v (V3.out.trans (hb.mono V3.out.size)))
  go_region_held3 (fun w' => w'.cell? ⟨w.heap.size, 0, none⟩ = some (.int .i64 k) ∧ w'.cell? ⟨w.heap.size, 1, none⟩ = some (.int .i64 l) ∧ w'.cell? ⟨w.heap.size, 2, none⟩ = some (.slice A n c) ∧ w'.cell? ⟨g2, 1, none⟩ = some (.int .i64 y2) ∧ Below w6.heap.size w6 w')
    (first | assumption | (exact held4 (by assumption) (by assumption) KD.out KD.out KD.out KG.out) | (exact held4N (by assumption) _) | (exact ⟨x0, x3, x4, t1, below_drew _⟩))
    (first
      | (go_at_call 58; refine (WTC.out _ (held4B (p := ⟨w.heap.size, 0, none⟩) (q := ⟨w.heap.size, 1, none⟩) (r := ⟨w.heap.size, 2, none⟩) (s := ⟨g2, 1, none⟩) (x := .int .i64 k) (y := .int .i64 l) (z := .slice A n c) (u := .int .i64 y2) (by assumption))).mono ?_; rintro e w7 ⟨rfl, hb7⟩)
      | (go_at_call 74; refine (P2.out _).mono ?_; rintro e w7 ⟨rfl, hb7⟩))
  rename_i hH1
  have V4 := Lib.hid (V3.out.trans (hH1.2.2.2.2.mono V3.out.size))
  clear hH1
  go_wp2_with fail
  go_ret2
  exact ⟨rfl, V4.out⟩
end Go.Proofs.YtelekchdbiimiaaGreat
