/- Texts laid together: BgRef4, BgRef5, BgRef6, BgRef7. -/
import Derived.Test.YtkhacpapkalkiaaGreatBgR
import Derived.StillTailTactics
import Derived.Test.YtkhacpapkalkiaaGreatBgP
import Derived.IntWalk
/- The document's answers of package dewpondref10: SameItems, Same, Wider, Kth. -/
namespace Go.Proofs.YtkhacpapkalkiaaGreat
set_option linter.unusedVariables false
set_option maxRecDepth 100000
open Go.RowKit
attribute [local go_sem ↓] Go.wp_at_zero Go.wp_at_succ

set_option maxHeartbeats 3200000 in
theorem rgKth_any (l r : Int) (A : Option Addr) (n c : Nat) (L : List Nd) (w : World) (h : NodesAt w (.slice A n c) L) (hC : BagC l L) (hn : n ≤ 400000) (R0 : -9223372036854775808 ≤ r) (R1 : r ≤ 9223372036854775807) :
    Calls Tryz.prog 22 #[.agg #[.int .i64 l, .slice A n c], .int .i64 r] w fun e w' => e = .returned (.tuple #[.int .i64 (kthV L r), .int .i64 (kthE L r)]) ∧ Below w.heap.size w w' := by
  have hb0 : Below w.heap.size w (w.alloc (.cells #[.int .i64 l, .slice A n c] 59)) := (Below.refl _ _).alloc (Nat.le_refl _) _
  have HB := Lib.hid hb0
  obtain ⟨hlen, hlc, hcm, hat⟩ := nodes_cells h
  have HN := Lib.hid h
  have HL := Lib.hid hlen
  have HC := Lib.hid hC
  have s0 := hC.tot0
  have TOT := Lib.hid (fun w1 (hb : Below w.heap.size w w1) => rgTotal_any l A n c L w1 (h.below hb) (good_nonneg hC.good) hC.tot (by omega))
  have RK := Lib.hid (fun y w1 (hb : Below w.heap.size w w1) => rgRank_any l y A n c L w1 (h.below hb) (good_nonneg hC.good) hC.tot (by omega))
  rcases Nat.eq_zero_or_pos n with h0 | h0
  · have H := Lib.hid (kth_empty (L := L) (r := r) (List.eq_nil_of_length_eq_zero (by omega)))
    subst h0
    clear hlen hlc hcm hat h hC hb0
    go_enter Tryz.func22, Tryz.ntmps22
    go_wp2_with fail
    go_ret2
    exact ⟨ret2_n ⟨H.out.2.symm, H.out.1.symm⟩, HB.out⟩
  · have hL : ¬ L = [] := fun e => by rw [e] at hlen; simp at hlen; omega
    have hne : ((n : Int) == 0) = false := by simp; omega
    by_cases q1 : r < 1
    · have H := Lib.hid (kth_arg hL (.inl q1))
      clear hlen hlc hcm hat h hC hb0
      go_enter Tryz.func22, Tryz.ntmps22
      go_wp2_with (go_at_call 21; refine (TOT.out _ HB.out).mono ?_; rintro e w2 ⟨rfl, hb2⟩)
      go_ret2
      exact ⟨ret2_n ⟨H.out.2.symm, H.out.1.symm⟩, HB.out⟩
    · by_cases q2 : sumC L < r
      · have H := Lib.hid (kth_arg hL (.inr q2))
        clear hlen hlc hcm hat h hC hb0
        generalize sumC L = T at *
        go_enter Tryz.func22, Tryz.ntmps22
        go_wp2_with (go_at_call 21; refine (TOT.out _ HB.out).mono ?_; rintro e w2 ⟨rfl, hb2⟩)
        go_ret2
        exact ⟨ret2_n ⟨H.out.2.symm, H.out.1.symm⟩, HB.out.trans (hb2.mono HB.out.size)⟩
      · have H := Lib.hid (kth_ok hL (show ¬ (r < 1 ∨ sumC L < r) by omega))
        have NN := Lib.hid (good_nonneg hC.good)
        have x0 : (w.alloc (.cells #[.int .i64 l, .slice A n c] 59)).cell? ⟨w.heap.size, 0, none⟩ = some (.int .i64 l) := by simp
        have x1 : (w.alloc (.cells #[.int .i64 l, .slice A n c] 59)).cell? ⟨w.heap.size, 1, none⟩ = some (.slice A n c) := by simp
        have hzW : (w.alloc (.cells #[.int .i64 l, .slice A n c] 59)).heap.size = w.heap.size + 1 := by simp
        have R0' : Hid (sumC (L.take 0) < r) := by show _ < _; simp [sumC]; omega
        have TT := Lib.hid hC.tot
        have Q2 := Lib.hid q2
        clear hlen hlc hcm hat h hC hb0 hL
        generalize hT : sumC L = T at *
        have HT := Lib.hid hT
        clear hT
        go_enter Tryz.func22, Tryz.ntmps22
        go_wp2_with fail
        generalize w.alloc (.cells #[.int .i64 l, .slice A n c] 59) = W at *
        refine (TOT.out _ HB.out).mono ?_
        rintro e w2 ⟨rfl, hb2⟩
        have y0 := (hb2.cell (p := ⟨w.heap.size, 0, none⟩) (by show w.heap.size < _; omega)).trans x0
        have y1 := (hb2.cell (p := ⟨w.heap.size, 1, none⟩) (by show w.heap.size < _; omega)).trans x1
        have hz2 := hb2.size
        have HB2 : Hid (Below w.heap.size w w2) := HB.out.trans (hb2.mono HB.out.size)
        clear x0 x1 hb2 TOT
        go_wp2_with fail
        go_loopw [6] (fun i wr => ∃ k : Nat, k < n ∧ i = .int .i64 (k : Int) ∧ sumC (L.take k) < r ∧ Below w2.heap.size w2 wr) (fun i _ => n - (intOf i).toNat)
        case atStart => exact ⟨0, h0, rfl, R0'.out, Below.refl ..⟩
        case round =>
          obtain ⟨k, hk, rfl, hlo, hb⟩ := hrel
          have zs := hb.size
          have hk2 : k < L.length := by have := HL.out; omega
          obtain ⟨b, o, rfl, hin⟩ := (nodes_cells (HN.out.below (HB2.out.trans (hb.mono HB2.out.size)))).2.2.2 (by omega)
          have e0 := (hin.2 k hk2).1
          have z0 := (hb.cell (p := ⟨w.heap.size, 0, none⟩) (by show w.heap.size < _; omega)).trans y0
          have z1 := (hb.cell (p := ⟨w.heap.size, 1, none⟩) (by show w.heap.size < _; omega)).trans y1
          have hbb := Lib.hid hin.1
          have hbw : Hid (w.heap.size < wr.heap.size) := by show _ < _; omega
          have RAT := Lib.hid (rank_at HC.out.good (fun m hm => (HC.out.bds m hm).1.1) hk2)
          have hk0 : (0 : Int) ≤ (k : Int) := Int.natCast_nonneg _
          have hk1 : (k : Int) < (n : Int) := by omega
          have RKk := Lib.hid (fun w3 (hq : Below wr.heap.size wr w3) => RK.out (L.getD k nz).1 w3 ((HB2.out.trans (hb.mono HB2.out.size)).trans (hq.mono (by have := HB2.out.size; omega))))
          have LO := Lib.hid hlo
          have TB : sumC (L.take (k + 1)) ≤ T := by have := sum_take_le NN.out (k + 1); rw [HT.out] at this; exact this
          have KA := Lib.hid (fun q => kth_at L k r NN.out hk2 LO.out q)
          have NX : Hid (sumC (L.take (k + 1)) < r → k + 1 < n) := fun q => by
            rcases Nat.lt_or_ge (k + 1) n with g | g
            · exact g
            · exfalso
              have e : L.take (k + 1) = L := List.take_of_length_le (by have := HL.out; omega)
              rw [e, HT.out] at q
              have := Q2.out
              omega
          rw [RAT.out] at RKk
          clear hin hlo RAT
          generalize (L.getD k nz).1 = y at *
          generalize hS : sumC (L.take (k + 1)) = S at *
          have HS := Lib.hid hS
          clear hS
          go_wp2_with fail
          go_region_held3 (fun w' => w'.cell? ⟨w.heap.size, 0, none⟩ = some (.int .i64 l) ∧ w'.cell? ⟨w.heap.size, 1, none⟩ = some (.slice (some ⟨b, o, none⟩) n c) ∧ w'.cell? ⟨b, o + k * 2, none⟩ = some (.int .i64 y) ∧ Below wr.heap.size wr w')
            (first | assumption | (exact held3 (by assumption) (by assumption) hbw.out hbw.out hbb.out) | (exact held3N (by assumption) _) | (exact ⟨z0, z1, e0, below_drew _⟩))
            (first | (go_at_call 23; refine (RKk.out _ (held3B (p := ⟨w.heap.size, 0, none⟩) (q := ⟨w.heap.size, 1, none⟩) (r := ⟨b, o + k * 2, none⟩) (x := .int .i64 l) (y := .slice (some ⟨b, o, none⟩) n c) (z := .int .i64 y) (by assumption))).mono ?_; rintro e w4 ⟨rfl, hb4⟩))
          rename_i hH
          obtain ⟨v0, v1, v2, hbr⟩ := hH
          have hbr2 := hb.trans (hbr.mono zs)
          by_cases qs : S < r
          · have hk4 := NX.out qs
            go_wp2_with fail
            go_roundw
            case rel => exact ⟨k + 1, hk4, by go_num, by rw [HS.out]; exact qs, hbr2⟩
            case measure => simp [intOf]; omega
          · have K := Lib.hid (KA.out (by omega))
            go_wp2_with fail
            go_ret2
            exact ⟨ret2_n ⟨by rw [H.out.2, K.out], H.out.1.symm⟩, HB2.out.trans (hbr2.mono HB2.out.size)⟩

end Go.Proofs.YtkhacpapkalkiaaGreat

/- The document's answers of package dewpondref10: Pour, Image. -/
namespace Go.Proofs.YtkhacpapkalkiaaGreat
set_option linter.unusedVariables false
set_option maxRecDepth 100000
open Go.RowKit
attribute [local go_sem ↓] Go.wp_at_zero Go.wp_at_succ

theorem bx2 (w : World) (TO : TypeId) (a b : Value) : (w.alloc (.cells #[a, b] TO)).ownsRow w.heap.size TO 2 (.slice (some ⟨w.heap.size, 0, none⟩) 1 1) 1 [a, b] :=
  World.ownsRow_lit (base := w.heap.size) (e := TO) (size := 2) w #[a, b] 1 (Nat.le_refl _) (by unfold maxLen; omega) rfl
theorem pours_good2 {L M : List Nd} (h : Good L) (g : Good M) (k : Nat) : Good (poursN L (M.take k)) := pours_good h _ fun n hn => g.pos n (List.mem_of_mem_take hn)
theorem pours_step {L M : List Nd} {k : Nat} (hk : k < M.length) : insW (poursN L (M.take k)) (M.getD k nz).1 (M.getD k nz).2 = poursN L (M.take (k + 1)) := by rw [nd_take hk, pours_snoc]
theorem pours_bound {L M : List Nd} (g : Good M) (k : Nat) : sumC (poursN L (M.take k)) ≤ sumC L + sumC M := by
  rw [pours_tot]
  have := sum_take_le (good_nonneg g) k
  omega
theorem pours_many (L M : List Nd) (k : Nat) : (poursN L (M.take k)).length ≤ L.length + M.length := by
  have := pours_len (M.take k) L
  rw [List.length_take] at this; omega
/-- a bag of the document's under way: its box at O, and its slice -/
structure OutI (TB TR : TypeId) (H O : Nat) (wb wr : World) (l : Int) (v0 X : Value) (L : List Nd) : Prop where
  box : wr.ownsRow H TB 2 (.slice (some ⟨O, 0, none⟩) 1 1) 1 [.int .i64 l, X]
  nodes : NodesAt wr X L
  own : X = v0 ∨ OwnNd TR wr H X L
  below : Below wb.heap.size wb wr
theorem OutI.cells {TB TR : TypeId} {H O : Nat} {wb wr : World} {l : Int} {v0 X : Value} {L : List Nd} (I : OutI TB TR H O wb wr l v0 X L) :
    wr.cell? ⟨O, 0, none⟩ = some (.int .i64 l) ∧ wr.cell? ⟨O, 1, none⟩ = some X ∧ O < wr.heap.size := ⟨I.box.cellAt 0 (by omega), I.box.cellAt 1 (by omega), (I.box.lt O rfl).2⟩
/-- one more is put to it -/
theorem OutI.step {TB TR : TypeId} {H O : Nat} {wb wr wd w3 : World} {l : Int} {v0 X Y : Value} {L L2 : List Nd} (I : OutI TB TR H O wb wr l v0 X L) (hd : Below wr.heap.size wr wd) (hb : Below wd.heap.size wd w3) (own : OwnNd TR w3 wd.heap.size Y L2) (hO : wb.heap.size ≤ O) (hH : H ≤ wb.heap.size) :
    w3.cell? ⟨O, 0, none⟩ = some (.int .i64 l) ∧ w3.cell? ⟨O, 1, none⟩ = some X ∧ w3.frozen? ⟨O, 0, none⟩ = false ∧ w3.frozen? ⟨O, 1, none⟩ = false ∧ OutI TB TR H O wb ((w3.setCell ⟨O, 0, none⟩ (.int .i64 l)).setCell ⟨O, 1, none⟩ Y) l v0 Y L2 := by
  have hz := hd.size
  have hz1 := I.below.size
  have hbb := hd.trans (hb.mono hz)
  have bx := own_below I.box hbb
  have S1 := bx.stored 0 (.int .i64 l)
  have S2 := S1.1.stored 1 Y
  have hOl := (I.box.lt O rfl).2
  have own2 := ownsRow_setCell_below (ownsRow_setCell_below own (a := ⟨O, 0, none⟩) (by show O < wd.heap.size; omega) (.int .i64 l)) (a := ⟨O, 1, none⟩) (by show O < wd.heap.size; omega) Y
  exact ⟨bx.cellAt 0 (by omega), bx.cellAt 1 (by omega), bx.frozenAt 0, bx.frozenAt 1, S2.1, ownNd_nodes own2, .inr (own_low own2 (by omega)), ((I.below.trans (hbb.mono hz1)).setCell (p := ⟨O, 0, none⟩) hO _).setCell (p := ⟨O, 1, none⟩) hO _⟩
/-- a slice that came in, read again -/
theorem nodes_old {w wr w' : World} {v : Value} {L S : List Nd} (h : NodesAt w v L) (h2 : NodesAt wr v S) (hs : wr.heap.size ≤ w'.heap.size) (hb : ∀ k, k < w.heap.size → w'.heap[k]? = wr.heap[k]?) : NodesAt w' v S := by
  obtain ⟨A, c, rfl, a1, a2, a3, a4⟩ := h
  obtain ⟨B, d, e, b1, b2, b3, b4⟩ := h2
  injection e with e1 e2 e3
  subst e1 e3
  refine ⟨A, c, by rw [e2], b1, b2, b3, fun h0 => ?_⟩
  obtain ⟨b, o, q1, hin⟩ := b4 h0
  obtain ⟨b', o', q2, hin2⟩ := a4 (by omega)
  rw [q1] at q2
  injection q2 with q2
  injection q2 with q3 q4
  subst q3
  exact ⟨b, o, q1, hin.block hs (hb b hin2.1)⟩
theorem out_fin {TB TR : TypeId} {O R : Nat} {w wb wr : World} {l m x a0 : Int} {A5 : Option Addr} {m5 c5 : Nat} {v0 z : Value} {L S : List Nd} (I : OutI TB TR w.heap.size O wb wr l v0 (.slice A5 m5 c5) S) (hne : TB ≠ TR) (hv : NodesAt w v0 L) (res : wr.ownsRow w.heap.size TB 2 (.slice (some ⟨R, 0, none⟩) 1 1) 1 [.int .i64 a0, z]) (hb : Below w.heap.size w wr) (u u' : Value) :
    RgPost2 TR m S x v0 w (.returned (.tuple #[.agg #[.int .i64 m, .slice A5 m5 c5], .int .i64 x])) ((wr.setCell ⟨R, 0, none⟩ u).setCell ⟨R, 1, none⟩ u') := by
  have hR := (res.lt R rfl).1
  have hb2 : Below w.heap.size w ((wr.setCell ⟨R, 0, none⟩ u).setCell ⟨R, 1, none⟩ u') := (hb.setCell (p := ⟨R, 0, none⟩) hR u).setCell (p := ⟨R, 1, none⟩) hR u'
  have own : OwnNd TR wr w.heap.size (.slice A5 m5 c5) S → OwnNd TR ((wr.setCell ⟨R, 0, none⟩ u).setCell ⟨R, 1, none⟩ u') w.heap.size (.slice A5 m5 c5) S := fun o => by
    have q : (Value.slice A5 m5 c5).ownBlock ≠ some R := fun e => by
      rcases own_apart res o hne with r | r
      · simp [Value.ownBlock] at r
      · exact r e.symm
    exact ownsRow_setCell_other (ownsRow_setCell_other o (a := ⟨R, 0, none⟩) q _) (a := ⟨R, 1, none⟩) q _
  rcases I.own with q | q
  · refine ⟨A5, m5, c5, rfl, ?_, hb2, .inl q⟩
    have n := I.nodes
    rw [q] at n ⊢
    exact nodes_old hv n (by simp) fun k hk => by rw [Below.heap_setCell _ _ _ _ (by show k ≠ R; omega), Below.heap_setCell _ _ _ _ (by show k ≠ R; omega)]
  · exact ⟨A5, m5, c5, rfl, ownNd_nodes (own q), hb2, .inr (own q)⟩
end Go.Proofs.YtkhacpapkalkiaaGreat

/- The document's answers of package dewpondref10: Pour of whatever two, Image. -/
namespace Go.Proofs.YtkhacpapkalkiaaGreat
set_option linter.unusedVariables false
set_option maxRecDepth 100000
open Go.RowKit
attribute [local go_sem ↓] Go.wp_at_zero Go.wp_at_succ

end Go.Proofs.YtkhacpapkalkiaaGreat

/- The document's answers of package dewpondref10: Image, Of. -/
namespace Go.Proofs.YtkhacpapkalkiaaGreat
set_option linter.unusedVariables false
set_option maxRecDepth 100000
open Go.RowKit
attribute [local go_sem ↓] Go.wp_at_zero Go.wp_at_succ

theorem img_step {L : List Nd} {b : Int} {k : Nat} (hk : k < L.length) : insW (poursN [] ((L.map (imgN b)).take k)) ((L.getD k nz).1 / 2 ^ b.toNat) (L.getD k nz).2 = poursN [] ((L.map (imgN b)).take (k + 1)) := by
  have e := pours_step (L := []) (M := L.map (imgN b)) (k := k) (by rw [List.length_map]; exact hk)
  rw [img_get hk] at e
  exact e
theorem img_good {l : Int} {L : List Nd} (h : BagC l L) (b : Int) (k : Nat) : Good (poursN [] ((L.map (imgN b)).take k)) ∧ sumC (poursN [] ((L.map (imgN b)).take k)) ≤ 72057594037927935 ∧ (poursN [] ((L.map (imgN b)).take k)).length ≤ L.length := by
  have t := tin_img h b
  have NN : NonNeg (L.map (imgN b)) := fun n hn => by have := t.pos n hn; omega
  refine ⟨pours_good good_nil _ fun n hn => t.pos n (List.mem_of_mem_take hn), ?_, ?_⟩
  · rw [pours_tot]
    have := sum_take_le NN k
    have := t.tot
    simp only [sumC]; omega
  · have := pours_len ((L.map (imgN b)).take k) []
    rw [List.length_take, List.length_map] at this
    simp at this; omega
end Go.Proofs.YtkhacpapkalkiaaGreat
