/- The document's answers of package dewpondref10: Add, Wider, SameItems, Same. -/
import Derived.Test.YtfilmblpikcpnaaGreatBgRef2
namespace Go.Proofs.YtfilmblpikcpnaaGreat
set_option linter.unusedVariables false
set_option maxRecDepth 100000
open Go.RowKit
attribute [local go_sem ↓] Go.wp_at_zero Go.wp_at_succ

theorem rg_old {l x : Int} {A : Option Addr} {n c : Nat} {L : List Nd} {w w' : World} (h : NodesAt w (.slice A n c) L) (hb : Below w.heap.size w w') : RgPost2 98 l L x (.slice A n c) w (.returned (.tuple #[.agg #[.int .i64 l, .slice A n c], .int .i64 x])) w' :=
  ⟨A, n, c, rfl, h.below hb, hb, .inl rfl⟩
theorem rg_new {l x : Int} {A : Option Addr} {n c : Nat} {L : List Nd} {v0 : Value} {w w' : World} (h : OwnNd 98 w' w.heap.size (.slice A n c) L) (hb : Below w.heap.size w w') : RgPost2 98 l L x v0 w (.returned (.tuple #[.agg #[.int .i64 l, .slice A n c], .int .i64 x])) w' :=
  ⟨A, n, c, rfl, ownNd_nodes h, hb, .inr h⟩
theorem not_leaf {l x : Int} (hu : 1 ≤ l ∧ l ≤ 48) (h : leafB l x = false) (h0 : 0 ≤ x) : 2 ^ l.toNat ≤ x := by
  rcases Int.lt_or_le x (2 ^ l.toNat) with q | q
  · rw [(leaf_yes (l := l) (x := x) ⟨hu.1, hu.2, h0, q⟩).2] at h; simp at h
  · exact q
set_option maxHeartbeats 3200000 in
theorem rgAdd_any (l x cc : Int) (A : Option Addr) (n c : Nat) (L : List Nd) (w : World) (h : NodesAt w (.slice A n c) L) (hC : BagC l L) (hn : n ≤ 400000) (A0 : -9223372036854775808 ≤ x) (A1 : x ≤ 9223372036854775807) (B0 : -9223372036854775808 ≤ cc) (B1 : cc ≤ 9223372036854775807) :
    Calls Tryz.prog 57 #[.agg #[.int .i64 l, .slice A n c], .int .i64 x, .int .i64 cc] w (RgPost2 98 l (bagS l L x cc) (bagE l L x cc) (.slice A n c) w) := by
  have hb0 := below_two w (.cells #[.int .i64 l, .slice A n c] 55) (.cells #[.int .i64 0, .slice none 0 0] 55)
  have K0 := Lib.hid (k4_new w 55 55 (.int .i64 l) (.slice A n c) (.int .i64 0) (.slice none 0 0))
  have HB := Lib.hid hb0
  have HN := Lib.hid h
  have HC := Lib.hid hC
  have HZ := Lib.hid (own2_size (w := w) (t := 55) (t2 := 55) (a := .int .i64 l) (b := .slice A n c) (c := .int .i64 0) (d := .slice none 0 0))
  have hu := hC.uni
  have hl0 : 0 ≤ l := by omega
  have hl1 : l ≤ 62 := by omega
  have s0 := hC.tot0
  have TOT := Lib.hid (fun w1 (hb : Below w.heap.size w w1) => rgTotal_any l A n c L w1 (h.below hb) (good_nonneg hC.good) hC.tot (by omega))
  have PUT := Lib.hid (fun w1 (hb : Below w.heap.size w w1) (h0 : 0 ≤ cc) (h1 : cc ≤ 72057594037927935) => rgPut_any l x cc A n c L w1 (h.below hb) hC.good hn hC.tot h0 h1)
  clear h hb0
  have PW := Lib.hid (fun w1 => rpower_any l w1 hl0 hl1)
  have NL := Lib.hid (fun q => not_leaf (l := l) (x := x) hu q)
  have YL := Lib.hid (fun q => leafB_iff (l := l) (x := x).1 q)
  unfold ValC at YL
  generalize (2 : Int) ^ l.toNat = P at *
  have hz2 := HZ.out
  rcases bag_cases (l := l) L x cc with q | ⟨q, q1⟩ | ⟨q, q1, q2⟩ | ⟨q, q1, q2⟩
  · have H := bag_range (L := L) (c := cc) q
    rw [H.1, H.2]
    have hp := NL.out q
    clear hC H
    by_cases x0 : x < 0
    · clear hp
      go_enter Tryz.func57, Tryz.ntmps57
      go_wp2_with (go_at_call 60; refine (PW.out _).mono ?_; rintro e w1 ⟨rfl, rfl⟩)
      exact bodyPost_ret (v := .tuple #[.agg #[.int .i64 l, .slice A n c], .int .i64 3]) (by simp [results, Tryz.results57, go_sem]) rfl (rg_old HN.out (below_two ..))
    · have hp2 := hp (by omega)
      clear hp
      go_enter Tryz.func57, Tryz.ntmps57
      go_wp2_with (go_at_call 60; refine (PW.out _).mono ?_; rintro e w1 ⟨rfl, rfl⟩)
      exact bodyPost_ret (v := .tuple #[.agg #[.int .i64 l, .slice A n c], .int .i64 3]) (by simp [results, Tryz.results57, go_sem]) rfl (rg_old HN.out (below_two ..))
  · have H := bag_zero (L := L) q q1
    rw [H.1, H.2]
    obtain ⟨_, _, y0, y1⟩ := YL.out q
    clear hC H
    go_enter Tryz.func57, Tryz.ntmps57
    go_wp2_with (go_at_call 60; refine (PW.out _).mono ?_; rintro e w1 ⟨rfl, rfl⟩)
    exact bodyPost_ret (v := .tuple #[.agg #[.int .i64 l, .slice A n c], .int .i64 4]) (by simp [results, Tryz.results57, go_sem]) rfl (rg_old HN.out (below_two ..))
  · have H := bag_full (L := L) q q1 q2
    rw [H.1, H.2]
    obtain ⟨_, _, y0, y1⟩ := YL.out q
    clear hC H
    generalize sumC L = T at *
    go_enter Tryz.func57, Tryz.ntmps57
    go_wp2_with (first | (go_at_call 60; refine (PW.out _).mono ?_; rintro e w1 ⟨rfl, rfl⟩) | (go_at_call 31; refine (TOT.out _ HB.out).mono ?_; rintro e w2 ⟨rfl, hb2⟩; obtain ⟨c0, c1, d0, d1, f0, f1, g0, g1, lt⟩ := K0.out.to hb2 (by simp); obtain ⟨q0, q1⟩ := set_two d0 d1))
    have hb3 := fun u u' => ((HB.out.trans (hb2.mono (by omega))).setCell (p := ⟨w.heap.size + 1, 0, none⟩) (Nat.le_succ _) u).setCell (p := ⟨w.heap.size + 1, 1, none⟩) (Nat.le_succ _) u'
    exact bodyPost_ret (v := .tuple #[.agg #[.int .i64 l, .slice A n c], .int .i64 5]) (by simp [results, Tryz.results57, go_sem, q0, q1]) rfl (rg_old HN.out (hb3 _ _))
  · have H := bag_ok (L := L) q q1 q2
    rw [H.1, H.2]
    obtain ⟨_, _, y0, y1⟩ := YL.out q
    have PT := Lib.hid (fun w1 hb => PUT.out w1 hb (by omega) (by omega))
    clear hC H PUT
    generalize sumC L = T at *
    go_enter Tryz.func57, Tryz.ntmps57
    go_wp2_with (first | (go_at_call 60; refine (PW.out _).mono ?_; rintro e w1 ⟨rfl, rfl⟩) | (go_at_call 31; refine (TOT.out _ HB.out).mono ?_; rintro e w2 ⟨rfl, hb2⟩; obtain ⟨c0, c1, d0, d1, f0, f1, g0, g1, lt⟩ := K0.out.to hb2 (by simp); obtain ⟨q0, q1⟩ := set_two d0 d1) | (go_at_call 91; refine (PT.out _ (HB.out.trans (hb2.mono (by omega)))).mono ?_; rintro e w3 ⟨A5, m5, c5, rfl, hown, hb3⟩; clear c0 c1 d0 d1 f0 f1 g0 g1 lt q0 q1; obtain ⟨c0, c1, d0, d1, f0, f1, g0, g1, lt⟩ := (K0.out.to hb2 (by simp)).to hb3 (by have := hb2.size; omega); obtain ⟨q0, q1⟩ := set_two d0 d1))
    have hz := hb2.size
    have hb4 := fun u u' => (((HB.out.trans (hb2.mono (by omega))).trans (hb3.mono (by omega))).setCell (p := ⟨w.heap.size + 1, 0, none⟩) (Nat.le_succ _) u).setCell (p := ⟨w.heap.size + 1, 1, none⟩) (Nat.le_succ _) u'
    have hown4 := fun u u' => ownsRow_setCell_below (ownsRow_setCell_below hown (a := ⟨w.heap.size + 1, 0, none⟩) (by show w.heap.size + 1 < w2.heap.size; omega) u) (a := ⟨w.heap.size + 1, 1, none⟩) (by show w.heap.size + 1 < w2.heap.size; omega) u'
    exact bodyPost_ret (v := .tuple #[.agg #[.int .i64 l, .slice A5 m5 c5], .int .i64 0]) (by simp [results, Tryz.results57, go_sem, q0, q1]) rfl (rg_new (own_low (hown4 _ _) (by omega)) (hb4 _ _))

end Go.Proofs.YtfilmblpikcpnaaGreat
