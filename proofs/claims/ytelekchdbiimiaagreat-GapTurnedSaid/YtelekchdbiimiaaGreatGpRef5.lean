/- The document's answers of package dewpondref21: Most. -/
import Derived.Test.YtelekchdbiimiaaGreatGpRef3
import Derived.Test.YtelekchdbiimiaaGreatGpRef4
import Derived.Deep.RegionHeld3
namespace Go.Proofs.YtelekchdbiimiaaGreat
set_option linter.unusedVariables false
set_option maxRecDepth 100000
open Go.RowKit
/-- the digests' boxes, the result's, and one with two numbers -/
structure GpM (TD TB : TypeId) (W w : World) (g1 g2 br bo : Nat) (k1 l1 : Int) (A1 : Option Addr) (n1 c1 : Nat) (k2 l2 : Int) (A2 : Option Addr) (n2 c2 : Nat) (x y : Int) : Prop where
  t : GpTw TD W w g1 g2 k1 l1 A1 n1 c1 k2 l2 A2 n2 c2
  r : w.ownsRow W.heap.size TB 2 (.slice (some ⟨br, 0, none⟩) 1 1) 1 [.int .i64 0, .int .i64 0]
  o : w.ownsRow W.heap.size TB 2 (.slice (some ⟨bo, 0, none⟩) 1 1) 1 [.int .i64 x, .int .i64 y]
  nr : br ≠ bo
  na : g1 ≠ bo
  nb : g2 ≠ bo
section
variable {TD TB : TypeId} {W w w' : World} {g1 g2 br bo : Nat} {k1 l1 : Int} {A1 : Option Addr} {n1 c1 : Nat} {k2 l2 : Int} {A2 : Option Addr} {n2 c2 : Nat} {x y : Int}
theorem GpM.below (h : GpM TD TB W w g1 g2 br bo k1 l1 A1 n1 c1 k2 l2 A2 n2 c2 x y) (q : Below w.heap.size w w') : GpM TD TB W w' g1 g2 br bo k1 l1 A1 n1 c1 k2 l2 A2 n2 c2 x y := ⟨h.t.below q, own_below h.r q, own_below h.o q, h.nr, h.na, h.nb⟩
theorem GpM.set (h : GpM TD TB W w g1 g2 br bo k1 l1 A1 n1 c1 k2 l2 A2 n2 c2 x y) (i : Nat) (u : Value) (x' y' : Int) (e : (w.setCell ⟨bo, i, none⟩ u).ownsRow W.heap.size TB 2 (.slice (some ⟨bo, 0, none⟩) 1 1) 1 [.int .i64 x', .int .i64 y']) : GpM TD TB W (w.setCell ⟨bo, i, none⟩ u) g1 g2 br bo k1 l1 A1 n1 c1 k2 l2 A2 n2 c2 x' y' :=
  ⟨⟨own_kp h.t.x (Kp.setCell w ⟨bo, i, none⟩ u) fun g e q => by simp [Value.ownBlock] at e; exact h.na (e.trans q), own_kp h.t.y (Kp.setCell w ⟨bo, i, none⟩ u) fun g e q => by simp [Value.ownBlock] at e; exact h.nb (e.trans q), h.t.hb.setCell (p := ⟨bo, i, none⟩) (h.o.lt bo rfl).1 u⟩,
   own_kp h.r (Kp.setCell w ⟨bo, i, none⟩ u) fun g e q => by simp [Value.ownBlock] at e; exact h.nr (e.trans q), e, h.nr, h.na, h.nb⟩
theorem GpM.set0 (h : GpM TD TB W w g1 g2 br bo k1 l1 A1 n1 c1 k2 l2 A2 n2 c2 x y) (u : Int) : GpM TD TB W (w.setCell ⟨bo, 0, none⟩ (.int .i64 u)) g1 g2 br bo k1 l1 A1 n1 c1 k2 l2 A2 n2 c2 u y := h.set 0 _ u y (h.o.stored 0 (.int .i64 u)).1
theorem GpM.set1 (h : GpM TD TB W w g1 g2 br bo k1 l1 A1 n1 c1 k2 l2 A2 n2 c2 x y) (u : Int) : GpM TD TB W (w.setCell ⟨bo, 1, none⟩ (.int .i64 u)) g1 g2 br bo k1 l1 A1 n1 c1 k2 l2 A2 n2 c2 x u := h.set 1 _ x u (h.o.stored 1 (.int .i64 u)).1
theorem GpM.to (h : GpM TD TB W w g1 g2 br bo k1 l1 A1 n1 c1 k2 l2 A2 n2 c2 x y) {x' y' : Int} (e : x = x') (f : y = y') : GpM TD TB W w g1 g2 br bo k1 l1 A1 n1 c1 k2 l2 A2 n2 c2 x' y' := by subst e f; exact h
theorem GpM.cells (h : GpM TD TB W w g1 g2 br bo k1 l1 A1 n1 c1 k2 l2 A2 n2 c2 x y) : w.cell? ⟨bo, 0, none⟩ = some (.int .i64 x) ∧ w.cell? ⟨bo, 1, none⟩ = some (.int .i64 y) ∧ w.frozen? ⟨bo, 0, none⟩ = false ∧ w.frozen? ⟨bo, 1, none⟩ = false ∧ bo < w.heap.size :=
  ⟨h.o.cellAt 0 (by omega), h.o.cellAt 1 (by omega), h.o.frozenAt 0, h.o.frozenAt 1, (h.o.lt bo rfl).2⟩
theorem GpM.row {E : TypeId} {B : Nat} {v : Value} {T : List Int} (h : GpM TD TB W w g1 g2 br bo k1 l1 A1 n1 c1 k2 l2 A2 n2 c2 x y) (o : OwnI E w B v T) (hB : bo < B) (i : Nat) (u : Value) : OwnI E (w.setCell ⟨bo, i, none⟩ u) B v T :=
  own_kp o (Kp.setCell w ⟨bo, i, none⟩ u) fun g e q => by have := (World.ownsRow.lt o g e).1; have : g = bo := q; omega
end
theorem gpI_kp {E : TypeId} {B bo : Nat} {w : World} {v : Value} {T : List Int} (o : OwnI E w B v T) (hB : bo < B) (i : Nat) (u : Value) : OwnI E (w.setCell ⟨bo, i, none⟩ u) B v T :=
  own_kp o (Kp.setCell w ⟨bo, i, none⟩ u) fun g e q => by have := (World.ownsRow.lt o g e).1; have : g = bo := q; omega
theorem gpInts_at {w : World} {A : Option Addr} {n c i : Nat} {S : List Int} (h : IntsAt w (.slice A n c) S) (hi : i < n) : ∃ b o, A = some ⟨b, o, none⟩ ∧ b < w.heap.size ∧ w.cell? ⟨b, o + i, none⟩ = some (.int .i64 (S.getD i 0)) := by
  obtain ⟨e, hc⟩ := ints_cells h
  obtain ⟨b, o, h1, h2, h3⟩ := hc (by omega)
  exact ⟨b, o, h1, h2, h3 i (by omega)⟩
theorem dn_bd (l : Int) (L : List Nd) (den x : Int) : 0 ≤ gdnN l L den x ∧ gdnN l L den x ≤ 9223372036854775807 := part_bd _ _ _
theorem up_bd (l : Int) (L : List Nd) (den x : Int) : 0 ≤ gupN l L den x ∧ gupN l L den x ≤ 9223372036854775807 := by
  have a := part_bd (highR l L x) den (sumC L)
  unfold gupN
  cases h : partR (highR l L x) den (sumC L)
  · rw [(partUp_flat h).1]; exact a
  · rcases Int.lt_or_le (partN (highR l L x) den (sumC L)) 9223372036854775807 with q | q
    · rw [(partUp_more h q).1]; omega
    · rw [(partUp_max h (by omega)).1]; omega
theorem gp_len {l : Int} {L : List Nd} {M : List Nd} : (gpP l L M).length = 1 + 2 * (L.length + M.length) := by
  show (0 :: endsN l (L ++ M) : List Int).length = _
  rw [List.length_cons, endsN_len, List.length_append]; omega
theorem gp_pos {A : Option Addr} {n c : Nat} {L : List Nd} {w : World} (h : NodesAt w (.slice A n c) L) (hz : sumC L ≠ 0) : 0 < n := by
  have a := (nodes_cells h).1
  cases L with
  | nil => exact absurd rfl hz
  | cons x L => simp at a; omega
theorem gp_at {l : Int} {L M : List Nd} (hL : RollC l L) (hM : RollC l M) {m : Nat} (hm : m < (gpP l L M).length) : -9223372036854775808 ≤ (gpP l L M).getD m 0 ∧ (gpP l L M).getD m 0 ≤ 9223372036854775807 := by
  have u : 1 ≤ l ∧ l ≤ 48 := of_decide_eq_true hL.1
  have p48 : (2 : Int) ^ l.toNat ≤ 281474976710656 := two_le l.toNat 48 (by omega)
  have := gp_in hL hM (getD_mem hm)
  omega
set_option maxHeartbeats 12800000 in
theorem rGpMost_any {l1 l2 : Int} (k1 : Int) (A1 : Option Addr) (n1 c1 : Nat) (L : List Nd) (k2 : Int) (A2 : Option Addr) (n2 c2 : Nat) (M : List Nd) (den : Int) (w : World) (h1 : NodesAt w (.slice A1 n1 c1) L) (hr1 : RollC l1 L) (hn1 : n1 ≤ 1000) (h2 : NodesAt w (.slice A2 n2 c2) M) (hr2 : RollC l2 M) (hn2 : n2 ≤ 1000) (D0 : -9223372036854775808 ≤ den) (D1 : den ≤ 9223372036854775807) :
    Calls Tryz.prog 15 #[.agg #[.int .i64 k1, .int .i64 l1, .slice A1 n1 c1], .agg #[.int .i64 k2, .int .i64 l2, .slice A2 n2 c2], .int .i64 den] w fun e w' => e = .returned (.tuple #[.agg #[.int .i64 (mtA l1 l2 L M den), .int .i64 (mtB l1 l2 L M den)], .int .i64 (mtE l1 l2 L M den)]) ∧ Below w.heap.size w w' := by
  have T0 := GpTw.new 31 w k1 l1 A1 n1 c1 k2 l2 A2 n2 c2
  have e2 : ((w.alloc (.cells #[.int .i64 k1, .int .i64 l1, .slice A1 n1 c1] 31)).alloc (.cells #[.int .i64 k2, .int .i64 l2, .slice A2 n2 c2] 31)).heap.size = w.heap.size + 1 + 1 := by simp
  have R0 := box2 ((w.alloc (.cells #[.int .i64 k1, .int .i64 l1, .slice A1 n1 c1] 31)).alloc (.cells #[.int .i64 k2, .int .i64 l2, .slice A2 n2 c2] 31)) 46 (.int .i64 0) (.int .i64 0)
  have TW := Lib.hid (T0.below (below_one _ (.cells #[.int .i64 0, .int .i64 0] 46)))
  rw [e2] at R0
  have RW := Lib.hid R0
  have WR := Lib.hid (fun v (hb : Below w.heap.size w v) => rGpWrong_any k1 A1 n1 c1 L k2 A2 n2 c2 M v (h1.below hb) hr1 hn1 (h2.below hb) hr2 hn2)
  have H1 := Lib.hid h1
  have H2 := Lib.hid h2
  have HR1 := Lib.hid hr1
  have HR2 := Lib.hid hr2
  have ME : Hid (mtE l1 l2 L M den = if gpE l1 l2 L M = 0 then (if den < 1 then 2 else 0) else gpE l1 l2 L M) := rfl
  have MA : Hid (mtA l1 l2 L M den = if mtE l1 l2 L M den = 0 then mxF (mtL l1 L M den) (gpP l1 L M) else 0) := rfl
  have MB : Hid (mtB l1 l2 L M den = if mtE l1 l2 L M den = 0 then mxF (mtH l1 L M den) (gpP l1 L M) else 0) := rfl
  have GY := Lib.hid (fun (h : gpE l1 l2 L M = 0) => gpE_yes h)
  clear T0 R0 e2 h1 h2 hr1 hr2
  generalize mtE l1 l2 L M den = me at *
  generalize mtA l1 l2 L M den = ma at *
  generalize mtB l1 l2 L M den = mb at *
  generalize gpE l1 l2 L M = ge at *
  by_cases hg : ge = 0
  case neg =>
    have b1 : (ge == 0) = false := beq_eq_false_iff_ne.2 hg
    have e1 : me = ge := by rw [ME.out, if_neg hg]
    have e2 : ma = 0 := by rw [MA.out, if_neg (by omega)]
    have e3 : mb = 0 := by rw [MB.out, if_neg (by omega)]
    subst e1 e2 e3
    clear ME MA MB GY H1 H2 HR1 HR2
    go_enter Tryz.func15, Tryz.ntmps15
    go_upto_region 1 with fail
    generalize ((w.alloc (.cells #[.int .i64 k1, .int .i64 l1, .slice A1 n1 c1] 31)).alloc (.cells #[.int .i64 k2, .int .i64 l2, .slice A2 n2 c2] 31)).alloc (.cells #[.int .i64 0, .int .i64 0] 46) = W at *
    obtain ⟨⟨x0, x1, x2⟩, ⟨y0, y1, y2⟩, zx, zy⟩ := TW.out.cells
    go_wp2_with fail
    refine (WR.out _ TW.out.hb).mono ?_
    rintro e v1 ⟨rfl, hb1⟩
    have T1 := Lib.hid (TW.out.below hb1)
    have R1 := Lib.hid (own_below RW.out hb1)
    clear hb1 x0 x1 x2 y0 y1 y2 zx zy
    obtain ⟨r0, r1, _, _, _⟩ := box_cells R1.out
    obtain ⟨s0, s1⟩ := set_two r0 r1
    go_wp2_with fail
    exact bodyPost_ret (v := .tuple #[.agg #[.int .i64 0, .int .i64 0], .int .i64 me]) (by simp [results, Tryz.results15, go_sem, s0, s1]) rfl ⟨rfl, (T1.out.hb.setCell (p := ⟨w.heap.size + 1 + 1, 0, none⟩) (by show w.heap.size ≤ w.heap.size + 1 + 1; omega) _).setCell (p := ⟨w.heap.size + 1 + 1, 1, none⟩) (by show w.heap.size ≤ w.heap.size + 1 + 1; omega) _⟩
  case pos =>
    obtain ⟨hll, hs1, hs2⟩ := GY.out hg
    subst hg hll
    by_cases hd : den < 1
    · have e1 : me = 2 := by rw [ME.out, if_pos rfl, if_pos hd]
      have e2 : ma = 0 := by rw [MA.out, if_neg (by omega)]
      have e3 : mb = 0 := by rw [MB.out, if_neg (by omega)]
      subst e1 e2 e3
      clear ME MA MB GY H1 H2 HR1 HR2 hs1 hs2
      go_enter Tryz.func15, Tryz.ntmps15
      go_upto_region 1 with fail
      generalize ((w.alloc (.cells #[.int .i64 k1, .int .i64 l1, .slice A1 n1 c1] 31)).alloc (.cells #[.int .i64 k2, .int .i64 l1, .slice A2 n2 c2] 31)).alloc (.cells #[.int .i64 0, .int .i64 0] 46) = W at *
      obtain ⟨⟨x0, x1, x2⟩, ⟨y0, y1, y2⟩, zx, zy⟩ := TW.out.cells
      go_wp2_with fail
      refine (WR.out _ TW.out.hb).mono ?_
      rintro e v1 ⟨rfl, hb1⟩
      have T1 := Lib.hid (TW.out.below hb1)
      have R1 := Lib.hid (own_below RW.out hb1)
      clear hb1 x0 x1 x2 y0 y1 y2 zx zy
      obtain ⟨r0, r1, _, _, _⟩ := box_cells R1.out
      obtain ⟨s0, s1⟩ := set_two r0 r1
      go_wp2_with fail
      exact bodyPost_ret (v := .tuple #[.agg #[.int .i64 0, .int .i64 0], .int .i64 2]) (by simp [results, Tryz.results15, go_sem, s0, s1]) rfl ⟨rfl, (T1.out.hb.setCell (p := ⟨w.heap.size + 1 + 1, 0, none⟩) (by show w.heap.size ≤ w.heap.size + 1 + 1; omega) _).setCell (p := ⟨w.heap.size + 1 + 1, 1, none⟩) (by show w.heap.size ≤ w.heap.size + 1 + 1; omega) _⟩
    · have e1 : me = 0 := by rw [ME.out, if_pos rfl, if_neg hd]
      have e2 : ma = mxF (mtL l1 L M den) (gpP l1 L M) := by rw [MA.out, if_pos e1]
      have e3 : mb = mxF (mtH l1 L M den) (gpP l1 L M) := by rw [MB.out, if_pos e1]
      subst e1 e2 e3
      have q1 := gp_pos H1.out hs1
      have q2 := gp_pos H2.out hs2
      have EN := Lib.hid (fun v (hb : Below w.heap.size w v) => rGpEnds_any k1 A1 n1 c1 L k2 A2 n2 c2 M v (H1.out.below hb) HR1.out hn1 (H2.out.below hb) HR2.out hn2 q1 q2)
      have PA := Lib.hid (fun y Y0 Y1 v (hb : Below w.heap.size w v) => rGpParts_any k1 y den A1 n1 c1 L v (H1.out.below hb) HR1.out hn1 Y0 Y1 D0 D1)
      have PB := Lib.hid (fun y Y0 Y1 v (hb : Below w.heap.size w v) => rGpParts_any k2 y den A2 n2 c2 M v (H2.out.below hb) HR2.out hn2 Y0 Y1 D0 D1)
      have PP := Lib.hid (fun (m : Nat) (hm : m < (gpP l1 L M).length) => gp_at HR1.out HR2.out hm)
      have PN : Hid ((gpP l1 L M).length ≤ 4001) := by have a := (nodes_cells H1.out).1; have b := (nodes_cells H2.out).1; show _ ≤ _; rw [gp_len]; omega
      have TL := Lib.hid (fun (k : Nat) hk => mxF_take (mtL l1 L M den) (P := gpP l1 L M) (k := k) hk)
      have TH := Lib.hid (fun (k : Nat) hk => mxF_take (mtH l1 L M den) (P := gpP l1 L M) (k := k) hk)
      have QL := Lib.hid (fun (k : Nat) => (mxF_spec (mtL l1 L M den) ((gpP l1 L M).take k) 0).1)
      have QH := Lib.hid (fun (k : Nat) => (mxF_spec (mtH l1 L M den) ((gpP l1 L M).take k) 0).1)
      have FL : Hid (∀ y, mtL l1 L M den y = max (gdnN l1 L den y - gupN l1 M den y) (gdnN l1 M den y - gupN l1 L den y)) := fun _ => rfl
      have FH : Hid (∀ y, mtH l1 L M den y = max (gupN l1 L den y - gdnN l1 M den y) (gupN l1 M den y - gdnN l1 L den y)) := fun _ => rfl
      have BB := Lib.hid (fun y => And.intro (And.intro (dn_bd l1 L den y) (up_bd l1 L den y)) (And.intro (dn_bd l1 M den y) (up_bd l1 M den y)))
      clear ME MA MB GY H1 H2 HR1 HR2 hs1 hs2 q1 q2
      generalize gpP l1 L M = P at *
      go_enter Tryz.func15, Tryz.ntmps15
      go_upto_region 1 with fail
      generalize ((w.alloc (.cells #[.int .i64 k1, .int .i64 l1, .slice A1 n1 c1] 31)).alloc (.cells #[.int .i64 k2, .int .i64 l1, .slice A2 n2 c2] 31)).alloc (.cells #[.int .i64 0, .int .i64 0] 46) = W at *
      obtain ⟨⟨x0, x1, x2⟩, ⟨y0, y1, y2⟩, zx, zy⟩ := TW.out.cells
      have zr := (RW.out.lt _ rfl).2
      go_wp2_with fail
      refine (WR.out _ TW.out.hb).mono ?_
      rintro e v1 ⟨rfl, hb1⟩
      have hz1 := hb1.size
      have hv1 := hb1.alloc hb1.size (.cells #[.int .i64 0, .int .i64 0] 46)
      have MX : Hid (GpM 31 46 w (v1.alloc (.cells #[.int .i64 0, .int .i64 0] 46)) w.heap.size (w.heap.size + 1) (w.heap.size + 1 + 1) v1.heap.size k1 l1 A1 n1 c1 k2 l1 A2 n2 c2 0 0) :=
        ⟨TW.out.below hv1, own_low (own_below RW.out hv1) (by omega), own_low (box2 v1 46 (.int .i64 0) (.int .i64 0)) (by omega), by omega, by omega, by omega⟩
      have hbo : v1.heap.size < (v1.alloc (.cells #[.int .i64 0, .int .i64 0] 46)).heap.size := by simp
      clear hb1 hv1 x0 x1 x2 y0 y1 y2 zx zy zr hz1 TW RW WR
      go_upto_region 7 with fail
      generalize v1.alloc (.cells #[.int .i64 0, .int .i64 0] 46) = V1 at *
      generalize v1.heap.size = bo at *
      obtain ⟨⟨x0, x1, x2⟩, ⟨y0, y1, y2⟩, zx, zy⟩ := MX.out.t.cells
      go_wp2_with fail
      refine (EN.out _ MX.out.t.hb).mono ?_
      rintro e v2 ⟨⟨A9, m9, c9, rfl, ho2⟩, hb2⟩
      have MX2 := Lib.hid (MX.out.below hb2)
      have OW2 := Lib.hid ho2
      have M9 : Hid (m9 = P.length) := (ints_cells (ownI_ints ho2)).1
      have m9b : m9 ≤ 4001 := by have := M9.out; have := PN.out; omega
      have HBO := Lib.hid hbo
      clear ho2 hb2 hbo x0 x1 x2 y0 y1 y2 zx zy EN MX PN
      go_wp2_with fail
      go_loopw [11] (fun i wr => ∃ m : Nat, m ≤ m9 ∧ i = .int .i64 m ∧ OwnI 3 wr V1.heap.size (.slice A9 m9 c9) P ∧ GpM 31 46 w wr w.heap.size (w.heap.size + 1) (w.heap.size + 1 + 1) bo k1 l1 A1 n1 c1 k2 l1 A2 n2 c2 (mxF (mtL l1 L M den) (P.take m)) (mxF (mtH l1 L M den) (P.take m))) (fun i _ => m9 - (intOf i).toNat)
      case atStart => exact ⟨0, by omega, rfl, OW2.out, MX2.out⟩
      case round =>
        obtain ⟨m, hm, rfl, ho, hx⟩ := hrel
        have OO := Lib.hid ho
        have OX := Lib.hid hx
        clear ho hx OW2 MX2
        by_cases hlt : m < m9
        · have hml : m < P.length := by have := M9.out; omega
          obtain ⟨b9, o9, rfl, hbz, ec⟩ := gpInts_at (ownI_ints OO.out) hlt
          have pp := PP.out m hml
          have tl := Lib.hid (TL.out m hml)
          have th := Lib.hid (TH.out m hml)
          have ql := QL.out m
          have qh := QH.out m
          have k0 : (0 : Int) ≤ (m : Int) := Int.natCast_nonneg _
          have k1' : (m : Int) < (m9 : Int) := by omega
          generalize P.getD m 0 = y at *
          have fl := FL.out y
          have fh := FH.out y
          have bb := BB.out y
          have PA1 := Lib.hid (PA.out y pp.1 pp.2)
          have PB1 := Lib.hid (PB.out y pp.1 pp.2)
          generalize hxa : mxF (mtL l1 L M den) (P.take m) = xa at *
          generalize hxb : mxF (mtH l1 L M den) (P.take m) = xb at *
          generalize hza : mxF (mtL l1 L M den) (P.take (m + 1)) = za at *
          generalize hzb : mxF (mtH l1 L M den) (P.take (m + 1)) = zb at *
          have ql' : 0 ≤ xa := by rw [← hxa]; exact ql
          have qh' : 0 ≤ xb := by rw [← hxb]; exact qh
          have HZA := Lib.hid hza
          have HZB := Lib.hid hzb
          rw [fl] at tl
          rw [fh] at th
          clear hza hzb hxa hxb ql qh fl fh
          generalize gdnN l1 L den y = p at *
          generalize gupN l1 L den y = q at *
          generalize gdnN l1 M den y = r at *
          generalize gupN l1 M den y = s at *
          obtain ⟨⟨⟨bp0, bp1⟩, bq0, bq1⟩, ⟨br0, br1⟩, bs0, bs1⟩ := bb
          obtain ⟨⟨x0, x1, x2⟩, ⟨y0, y1, y2⟩, zx, zy⟩ := OX.out.t.cells
          have KD : Hid (w.heap.size < wr.heap.size) := zx
          have KG : Hid (b9 < wr.heap.size) := hbz
          have WTC := Lib.hid (fun v (hb : Below wr.heap.size wr v) => PA1.out v (OX.out.t.hb.trans (hb.mono OX.out.t.hb.size)))
          go_wp2_with fail
          go_region_held3 (fun w' => w'.cell? ⟨w.heap.size, 0, none⟩ = some (.int .i64 k1) ∧ w'.cell? ⟨w.heap.size, 1, none⟩ = some (.int .i64 l1) ∧ w'.cell? ⟨w.heap.size, 2, none⟩ = some (.slice A1 n1 c1) ∧ w'.cell? ⟨b9, o9 + m, none⟩ = some (.int .i64 y) ∧ Below wr.heap.size wr w')
            (first | assumption | (exact held4 (by assumption) (by assumption) KD.out KD.out KD.out KG.out) | (exact held4N (by assumption) _) | (exact ⟨x0, x1, x2, ec, below_drew _⟩))
            (first
              | (go_at_call 36; refine (WTC.out _ (held4B (p := ⟨w.heap.size, 0, none⟩) (q := ⟨w.heap.size, 1, none⟩) (r := ⟨w.heap.size, 2, none⟩) (s := ⟨b9, o9 + m, none⟩) (x := .int .i64 k1) (y := .int .i64 l1) (z := .slice A1 n1 c1) (u := .int .i64 y) (by assumption))).mono ?_; rintro e w6 ⟨rfl, hb6⟩))
          rename_i hH0
          obtain ⟨_, _, _, ec6, hB0⟩ := hH0
          have X6 := Lib.hid (OX.out.below hB0)
          have O6 := Lib.hid (own_below OO.out hB0)
          have KG6 : Hid (b9 < w6.heap.size) := Nat.lt_of_lt_of_le KG.out hB0.size
          clear x0 x1 x2 y0 y1 y2 zx zy KD KG WTC hB0 OX OO PA1 hbz ec
          obtain ⟨⟨x0, x1, x2⟩, ⟨y0, y1, y2⟩, zx, zy⟩ := X6.out.t.cells
          have KD : Hid (w.heap.size + 1 < w6.heap.size) := zy
          have WTC := Lib.hid (fun v (hb : Below w6.heap.size w6 v) => PB1.out v (X6.out.t.hb.trans (hb.mono X6.out.t.hb.size)))
          go_upto_region 12 with fail
          go_region_held3 (fun w' => w'.cell? ⟨w.heap.size + 1, 0, none⟩ = some (.int .i64 k2) ∧ w'.cell? ⟨w.heap.size + 1, 1, none⟩ = some (.int .i64 l1) ∧ w'.cell? ⟨w.heap.size + 1, 2, none⟩ = some (.slice A2 n2 c2) ∧ w'.cell? ⟨b9, o9 + m, none⟩ = some (.int .i64 y) ∧ Below w6.heap.size w6 w')
            (first | assumption | (exact held4 (by assumption) (by assumption) KD.out KD.out KD.out KG6.out) | (exact held4N (by assumption) _) | (exact ⟨y0, y1, y2, ec6, below_drew _⟩))
            (first
              | (go_at_call 36; refine (WTC.out _ (held4B (p := ⟨w.heap.size + 1, 0, none⟩) (q := ⟨w.heap.size + 1, 1, none⟩) (r := ⟨w.heap.size + 1, 2, none⟩) (s := ⟨b9, o9 + m, none⟩) (x := .int .i64 k2) (y := .int .i64 l1) (z := .slice A2 n2 c2) (u := .int .i64 y) (by assumption))).mono ?_; rintro e w7 ⟨rfl, hb7⟩))
          rename_i hH1
          have hB1 := hH1.2.2.2.2
          have X7 := Lib.hid (X6.out.below hB1)
          have O7 := Lib.hid (own_below O6.out hB1)
          clear x0 x1 x2 y0 y1 y2 zx zy KD KG6 WTC hB1 hH1 X6 O6 PB1 ec6
          have wa1 : IntKind.i64.wrap (p - s) = p - s := wrap_lit rfl (by omega) (by omega)
          have wa2 : IntKind.i64.wrap (r - q) = r - q := wrap_lit rfl (by omega) (by omega)
          have wb1 : IntKind.i64.wrap (q - r) = q - r := wrap_lit rfl (by omega) (by omega)
          have wb2 : IntKind.i64.wrap (s - p) = s - p := wrap_lit rfl (by omega) (by omega)
          have XA : Hid (za = max xa (max (p - s) (r - q))) := tl.out
          have XB : Hid (zb = max xb (max (q - r) (s - p))) := th.out
          clear tl th ql' qh' bp0 bp1 bq0 bq1 br0 br1 bs0 bs1 pp PA PB QL QH FL FH BB PP TL TH
          obtain ⟨c0, c1', f0, f1, lb⟩ := X7.out.cells
          go_upto_if 60 with fail
          go_cut [] (fun wx => GpM 31 46 w wx w.heap.size (w.heap.size + 1) (w.heap.size + 1 + 1) bo k1 l1 A1 n1 c1 k2 l1 A2 n2 c2 (max xa (p - s)) xb ∧ OwnI 3 wx V1.heap.size (.slice (some ⟨b9, o9, none⟩) m9 c9) P)
          case first =>
            by_cases hq : xa < p - s
            · go_wp2_with fail
              go_meet
              exact ⟨(X7.out.set0 _).to (by omega) rfl, gpI_kp O7.out HBO.out _ _⟩
            · go_wp2_with fail
              go_meet
              exact ⟨X7.out.to (by omega) rfl, O7.out⟩
          case rest =>
          obtain ⟨hcx, hco⟩ := hcut
          have X8 := Lib.hid hcx
          have O8 := Lib.hid hco
          clear hcx hco X7 O7 c0 c1' f0 f1 lb
          obtain ⟨wq0, hwq⟩ : ∃ wq : World, wq = wc := ⟨_, rfl⟩
          subst hwq
          obtain ⟨c0, c1', f0, f1, lb⟩ := X8.out.cells
          go_upto_if 70 with fail
          go_cut [] (fun wx => GpM 31 46 w wx w.heap.size (w.heap.size + 1) (w.heap.size + 1 + 1) bo k1 l1 A1 n1 c1 k2 l1 A2 n2 c2 (max (max xa (p - s)) (r - q)) xb ∧ OwnI 3 wx V1.heap.size (.slice (some ⟨b9, o9, none⟩) m9 c9) P)
          case first =>
            by_cases hq : (max xa (p - s)) < r - q
            · go_wp2_with fail
              go_meet
              exact ⟨(X8.out.set0 _).to (by omega) rfl, gpI_kp O8.out HBO.out _ _⟩
            · go_wp2_with fail
              go_meet
              exact ⟨X8.out.to (by omega) rfl, O8.out⟩
          case rest =>
          obtain ⟨hcx, hco⟩ := hcut
          have X9 := Lib.hid hcx
          have O9 := Lib.hid hco
          clear hcx hco X8 O8 c0 c1' f0 f1 lb
          obtain ⟨wq1, hwq⟩ : ∃ wq : World, wq = wc := ⟨_, rfl⟩
          subst hwq
          obtain ⟨c0, c1', f0, f1, lb⟩ := X9.out.cells
          go_upto_if 80 with fail
          go_cut [] (fun wx => GpM 31 46 w wx w.heap.size (w.heap.size + 1) (w.heap.size + 1 + 1) bo k1 l1 A1 n1 c1 k2 l1 A2 n2 c2 (max (max xa (p - s)) (r - q)) (max xb (q - r)) ∧ OwnI 3 wx V1.heap.size (.slice (some ⟨b9, o9, none⟩) m9 c9) P)
          case first =>
            by_cases hq : xb < q - r
            · go_wp2_with fail
              go_meet
              exact ⟨(X9.out.set1 _).to rfl (by omega), gpI_kp O9.out HBO.out _ _⟩
            · go_wp2_with fail
              go_meet
              exact ⟨X9.out.to rfl (by omega), O9.out⟩
          case rest =>
          obtain ⟨hcx, hco⟩ := hcut
          have X10 := Lib.hid hcx
          have O10 := Lib.hid hco
          clear hcx hco X9 O9 c0 c1' f0 f1 lb
          obtain ⟨wq2, hwq⟩ : ∃ wq : World, wq = wc := ⟨_, rfl⟩
          subst hwq
          obtain ⟨c0, c1', f0, f1, lb⟩ := X10.out.cells
          go_upto_if 90 with fail
          by_cases hq : (max xb (q - r)) < s - p
          · go_wp2_with fail
            go_roundw
            case rel => exact ⟨m + 1, by omega, by go_num, gpI_kp O10.out HBO.out _ _, by rw [HZA.out, HZB.out]; exact (X10.out.set1 _).to (by rw [XA.out]; omega) (by rw [XB.out]; omega)⟩
            case measure => simp [intOf]; omega
          · go_wp2_with fail
            go_roundw
            case rel => exact ⟨m + 1, by omega, by go_num, O10.out, by rw [HZA.out, HZB.out]; exact X10.out.to (by rw [XA.out]; omega) (by rw [XB.out]; omega)⟩
            case measure => simp [intOf]; omega
        · obtain rfl : m = m9 := by omega
          have e : P.take m = P := List.take_of_length_le (by have := M9.out; omega)
          rw [e] at OX
          obtain ⟨c0, c1', f0, f1, lb⟩ := OX.out.cells
          obtain ⟨r0, r1, _, _, _⟩ := box_cells OX.out.r
          obtain ⟨s0, s1⟩ := set_two r0 r1
          clear e
          go_wp2_with fail
          exact bodyPost_ret (v := .tuple #[.agg #[.int .i64 (mxF (mtL l1 L M den) P), .int .i64 (mxF (mtH l1 L M den) P)], .int .i64 0]) (by simp [results, Tryz.results15, go_sem, s0, s1]) rfl ⟨rfl, (OX.out.t.hb.setCell (p := ⟨w.heap.size + 1 + 1, 0, none⟩) (by show w.heap.size ≤ w.heap.size + 1 + 1; omega) _).setCell (p := ⟨w.heap.size + 1 + 1, 1, none⟩) (by show w.heap.size ≤ w.heap.size + 1 + 1; omega) _⟩
end Go.Proofs.YtelekchdbiimiaaGreat
