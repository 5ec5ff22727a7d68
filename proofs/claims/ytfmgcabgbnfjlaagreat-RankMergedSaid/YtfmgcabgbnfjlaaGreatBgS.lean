/- Texts laid together: BgRef4, BgRef5, BgRef6, BgRef7. -/
import Derived.Test.YtfmgcabgbnfjlaaGreatBgR
import Derived.StillTailTactics
import Derived.Test.YtfmgcabgbnfjlaaGreatBgP
import Derived.IntWalk
/- The document's answers of package dewpondref10: SameItems, Same, Wider, Kth. -/
namespace Go.Proofs.YtfmgcabgbnfjlaaGreat
set_option linter.unusedVariables false
set_option maxRecDepth 100000
open Go.RowKit
attribute [local go_sem ↓] Go.wp_at_zero Go.wp_at_succ

end Go.Proofs.YtfmgcabgbnfjlaaGreat

/- The document's answers of package dewpondref10: Pour, Image. -/
namespace Go.Proofs.YtfmgcabgbnfjlaaGreat
set_option linter.unusedVariables false
set_option maxRecDepth 100000
open Go.RowKit
attribute [local go_sem ↓] Go.wp_at_zero Go.wp_at_succ

theorem bx2 (w : World) (TO : TypeId) (a b : Value) : (w.alloc (.cells #[a, b] TO)).ownsRow w.heap.size TO 2 (.slice (some ⟨w.heap.size, 0, none⟩) 1 1) 1 [a, b] :=
  World.ownsRow_lit (base := w.heap.size) (e := TO) (size := 2) w #[a, b] 1 (Nat.le_refl _) (by unfold maxLen; omega) rfl
theorem pours_good2 {L M : List Nd} (h : Good L) (g : Good M) (k : Nat) : Good (poursN L (M.take k)) := pours_good h _ fun n hn => g.pos n (List.mem_of_mem_take hn)
theorem pours_step {L M : List Nd} {k : Nat} (hk : k < M.length) : insW (poursN L (M.take k)) (M.getD k nz).1 (M.getD k nz).2 = poursN L (M.take (k + 1)) := by rw [nd_take hk, pours_snoc]
theorem pours_bound {L M : List Nd} (g : Good M) (k : Nat) : sumC (poursN L (M.take k)) ≤ sumC L + sumC M := by
  rw [pours_tot]
  have := sum_take_le (good_nonneg g) k
  omega
theorem pours_many (L M : List Nd) (k : Nat) : (poursN L (M.take k)).length ≤ L.length + M.length := by
  have := pours_len (M.take k) L
  rw [List.length_take] at this; omega
/-- a bag of the document's under way: its box at O, and its slice -/
structure OutI (TB TR : TypeId) (H O : Nat) (wb wr : World) (l : Int) (v0 X : Value) (L : List Nd) : Prop where
  box : wr.ownsRow H TB 2 (.slice (some ⟨O, 0, none⟩) 1 1) 1 [.int .i64 l, X]
  nodes : NodesAt wr X L
  own : X = v0 ∨ OwnNd TR wr H X L
  below : Below wb.heap.size wb wr
theorem OutI.cells {TB TR : TypeId} {H O : Nat} {wb wr : World} {l : Int} {v0 X : Value} {L : List Nd} (I : OutI TB TR H O wb wr l v0 X L) :
    wr.cell? ⟨O, 0, none⟩ = some (.int .i64 l) ∧ wr.cell? ⟨O, 1, none⟩ = some X ∧ O < wr.heap.size := ⟨I.box.cellAt 0 (by omega), I.box.cellAt 1 (by omega), (I.box.lt O rfl).2⟩
/-- one more is put to it -/
theorem OutI.step {TB TR : TypeId} {H O : Nat} {wb wr wd w3 : World} {l : Int} {v0 X Y : Value} {L L2 : List Nd} (I : OutI TB TR H O wb wr l v0 X L) (hd : Below wr.heap.size wr wd) (hb : Below wd.heap.size wd w3) (own : OwnNd TR w3 wd.heap.size Y L2) (hO : wb.heap.size ≤ O) (hH : H ≤ wb.heap.size) :
    w3.cell? ⟨O, 0, none⟩ = some (.int .i64 l) ∧ w3.cell? ⟨O, 1, none⟩ = some X ∧ w3.frozen? ⟨O, 0, none⟩ = false ∧ w3.frozen? ⟨O, 1, none⟩ = false ∧ OutI TB TR H O wb ((w3.setCell ⟨O, 0, none⟩ (.int .i64 l)).setCell ⟨O, 1, none⟩ Y) l v0 Y L2 := by
  have hz := hd.size
  have hz1 := I.below.size
  have hbb := hd.trans (hb.mono hz)
  have bx := own_below I.box hbb
  have S1 := bx.stored 0 (.int .i64 l)
  have S2 := S1.1.stored 1 Y
  have hOl := (I.box.lt O rfl).2
  have own2 := ownsRow_setCell_below (ownsRow_setCell_below own (a := ⟨O, 0, none⟩) (by show O < wd.heap.size; omega) (.int .i64 l)) (a := ⟨O, 1, none⟩) (by show O < wd.heap.size; omega) Y
  exact ⟨bx.cellAt 0 (by omega), bx.cellAt 1 (by omega), bx.frozenAt 0, bx.frozenAt 1, S2.1, ownNd_nodes own2, .inr (own_low own2 (by omega)), ((I.below.trans (hbb.mono hz1)).setCell (p := ⟨O, 0, none⟩) hO _).setCell (p := ⟨O, 1, none⟩) hO _⟩
/-- a slice that came in, read again -/
theorem nodes_old {w wr w' : World} {v : Value} {L S : List Nd} (h : NodesAt w v L) (h2 : NodesAt wr v S) (hs : wr.heap.size ≤ w'.heap.size) (hb : ∀ k, k < w.heap.size → w'.heap[k]? = wr.heap[k]?) : NodesAt w' v S := by
  obtain ⟨A, c, rfl, a1, a2, a3, a4⟩ := h
  obtain ⟨B, d, e, b1, b2, b3, b4⟩ := h2
  injection e with e1 e2 e3
  subst e1 e3
  refine ⟨A, c, by rw [e2], b1, b2, b3, fun h0 => ?_⟩
  obtain ⟨b, o, q1, hin⟩ := b4 h0
  obtain ⟨b', o', q2, hin2⟩ := a4 (by omega)
  rw [q1] at q2
  injection q2 with q2
  injection q2 with q3 q4
  subst q3
  exact ⟨b, o, q1, hin.block hs (hb b hin2.1)⟩
theorem out_fin {TB TR : TypeId} {O R : Nat} {w wb wr : World} {l m x a0 : Int} {A5 : Option Addr} {m5 c5 : Nat} {v0 z : Value} {L S : List Nd} (I : OutI TB TR w.heap.size O wb wr l v0 (.slice A5 m5 c5) S) (hne : TB ≠ TR) (hv : NodesAt w v0 L) (res : wr.ownsRow w.heap.size TB 2 (.slice (some ⟨R, 0, none⟩) 1 1) 1 [.int .i64 a0, z]) (hb : Below w.heap.size w wr) (u u' : Value) :
    RgPost2 TR m S x v0 w (.returned (.tuple #[.agg #[.int .i64 m, .slice A5 m5 c5], .int .i64 x])) ((wr.setCell ⟨R, 0, none⟩ u).setCell ⟨R, 1, none⟩ u') := by
  have hR := (res.lt R rfl).1
  have hb2 : Below w.heap.size w ((wr.setCell ⟨R, 0, none⟩ u).setCell ⟨R, 1, none⟩ u') := (hb.setCell (p := ⟨R, 0, none⟩) hR u).setCell (p := ⟨R, 1, none⟩) hR u'
  have own : OwnNd TR wr w.heap.size (.slice A5 m5 c5) S → OwnNd TR ((wr.setCell ⟨R, 0, none⟩ u).setCell ⟨R, 1, none⟩ u') w.heap.size (.slice A5 m5 c5) S := fun o => by
    have q : (Value.slice A5 m5 c5).ownBlock ≠ some R := fun e => by
      rcases own_apart res o hne with r | r
      · simp [Value.ownBlock] at r
      · exact r e.symm
    exact ownsRow_setCell_other (ownsRow_setCell_other o (a := ⟨R, 0, none⟩) q _) (a := ⟨R, 1, none⟩) q _
  rcases I.own with q | q
  · refine ⟨A5, m5, c5, rfl, ?_, hb2, .inl q⟩
    have n := I.nodes
    rw [q] at n ⊢
    exact nodes_old hv n (by simp) fun k hk => by rw [Below.heap_setCell _ _ _ _ (by show k ≠ R; omega), Below.heap_setCell _ _ _ _ (by show k ≠ R; omega)]
  · exact ⟨A5, m5, c5, rfl, ownNd_nodes (own q), hb2, .inr (own q)⟩
set_option maxHeartbeats 6400000 in
theorem rgPour_ok (l : Int) (A A2 : Option Addr) (n c n2 c2 : Nat) (L M : List Nd) (w : World) (h : NodesAt w (.slice A n c) L) (h2 : NodesAt w (.slice A2 n2 c2) M) (hC : BagC l L) (hC2 : BagC l M) (hn : n ≤ 100000) (hn2 : n2 ≤ 100000) (q2 : ¬ 72057594037927935 < sumC L + sumC M) :
    Calls Tryz.prog 23 #[.agg #[.int .i64 l, .slice A n c], .agg #[.int .i64 l, .slice A2 n2 c2]] w (RgPost2 105 l (poursN L M) 0 (.slice A n c) w) := by
  have hb0 : Below w.heap.size w (((w.alloc (.cells #[.int .i64 l, .slice A n c] 56)).alloc (.cells #[.int .i64 l, .slice A2 n2 c2] 56)).alloc (.cells #[.int .i64 0, .slice none 0 0] 56)) := (below_two ..).alloc (by simp; omega) _
  have HB := Lib.hid hb0
  have HN := Lib.hid h
  have HN2 := Lib.hid h2
  have HC := Lib.hid hC
  have HC2 := Lib.hid hC2
  have hL := Lib.hid (nodes_cells h).1
  have hM := Lib.hid (nodes_cells h2).1
  have s0 := hC.tot0
  have s2 := hC2.tot0
  have T1 := Lib.hid (fun w1 (hb : Below w.heap.size w w1) => rgTotal_any l A n c L w1 (h.below hb) (good_nonneg hC.good) hC.tot (by omega))
  have T2 := Lib.hid (fun w1 (hb : Below w.heap.size w w1) => rgTotal_any l A2 n2 c2 M w1 (h2.below hb) (good_nonneg hC2.good) hC2.tot (by omega))
  have RES : Hid ((((w.alloc (.cells #[.int .i64 l, .slice A n c] 56)).alloc (.cells #[.int .i64 l, .slice A2 n2 c2] 56)).alloc (.cells #[.int .i64 0, .slice none 0 0] 56)).ownsRow w.heap.size 56 2 (.slice (some ⟨w.heap.size + 2, 0, none⟩) 1 1) 1 [.int .i64 0, .slice none 0 0]) := by
    have q := bx2 ((w.alloc (.cells #[.int .i64 l, .slice A n c] 56)).alloc (.cells #[.int .i64 l, .slice A2 n2 c2] 56)) 56 (.int .i64 0) (.slice none 0 0)
    have e : ((w.alloc (.cells #[.int .i64 l, .slice A n c] 56)).alloc (.cells #[.int .i64 l, .slice A2 n2 c2] 56)).heap.size = w.heap.size + 2 := by simp
    rw [e] at q
    exact own_low q (by omega)
  have x0 : (((w.alloc (.cells #[.int .i64 l, .slice A n c] 56)).alloc (.cells #[.int .i64 l, .slice A2 n2 c2] 56)).alloc (.cells #[.int .i64 0, .slice none 0 0] 56)).cell? ⟨w.heap.size, 0, none⟩ = some (.int .i64 l) := (((Below.refl ((w.alloc (.cells #[.int .i64 l, .slice A n c] 56)).alloc (.cells #[.int .i64 l, .slice A2 n2 c2] 56)).heap.size ((w.alloc (.cells #[.int .i64 l, .slice A n c] 56)).alloc (.cells #[.int .i64 l, .slice A2 n2 c2] 56))).alloc (Nat.le_refl _) _).cell (p := ⟨w.heap.size, 0, none⟩) (by simp; omega)).trans (k4_new w 56 56 (.int .i64 l) (.slice A n c) (.int .i64 l) (.slice A2 n2 c2)).c0
  have x1 : (((w.alloc (.cells #[.int .i64 l, .slice A n c] 56)).alloc (.cells #[.int .i64 l, .slice A2 n2 c2] 56)).alloc (.cells #[.int .i64 0, .slice none 0 0] 56)).cell? ⟨w.heap.size, 1, none⟩ = some (.slice A n c) := (((Below.refl ((w.alloc (.cells #[.int .i64 l, .slice A n c] 56)).alloc (.cells #[.int .i64 l, .slice A2 n2 c2] 56)).heap.size ((w.alloc (.cells #[.int .i64 l, .slice A n c] 56)).alloc (.cells #[.int .i64 l, .slice A2 n2 c2] 56))).alloc (Nat.le_refl _) _).cell (p := ⟨w.heap.size, 1, none⟩) (by simp; omega)).trans (k4_new w 56 56 (.int .i64 l) (.slice A n c) (.int .i64 l) (.slice A2 n2 c2)).c1
  have x2 : (((w.alloc (.cells #[.int .i64 l, .slice A n c] 56)).alloc (.cells #[.int .i64 l, .slice A2 n2 c2] 56)).alloc (.cells #[.int .i64 0, .slice none 0 0] 56)).cell? ⟨w.heap.size + 1, 0, none⟩ = some (.int .i64 l) := (((Below.refl ((w.alloc (.cells #[.int .i64 l, .slice A n c] 56)).alloc (.cells #[.int .i64 l, .slice A2 n2 c2] 56)).heap.size ((w.alloc (.cells #[.int .i64 l, .slice A n c] 56)).alloc (.cells #[.int .i64 l, .slice A2 n2 c2] 56))).alloc (Nat.le_refl _) _).cell (p := ⟨w.heap.size + 1, 0, none⟩) (by simp)).trans (k4_new w 56 56 (.int .i64 l) (.slice A n c) (.int .i64 l) (.slice A2 n2 c2)).d0
  have x3 : (((w.alloc (.cells #[.int .i64 l, .slice A n c] 56)).alloc (.cells #[.int .i64 l, .slice A2 n2 c2] 56)).alloc (.cells #[.int .i64 0, .slice none 0 0] 56)).cell? ⟨w.heap.size + 1, 1, none⟩ = some (.slice A2 n2 c2) := (((Below.refl ((w.alloc (.cells #[.int .i64 l, .slice A n c] 56)).alloc (.cells #[.int .i64 l, .slice A2 n2 c2] 56)).heap.size ((w.alloc (.cells #[.int .i64 l, .slice A n c] 56)).alloc (.cells #[.int .i64 l, .slice A2 n2 c2] 56))).alloc (Nat.le_refl _) _).cell (p := ⟨w.heap.size + 1, 1, none⟩) (by simp)).trans (k4_new w 56 56 (.int .i64 l) (.slice A n c) (.int .i64 l) (.slice A2 n2 c2)).d1
  have hzW : Hid ((((w.alloc (.cells #[.int .i64 l, .slice A n c] 56)).alloc (.cells #[.int .i64 l, .slice A2 n2 c2] 56)).alloc (.cells #[.int .i64 0, .slice none 0 0] 56)).heap.size = w.heap.size + 3) := by show _ = _; simp
  have Q2 := Lib.hid q2
  clear h h2 hC hC2 hb0
  generalize hT : sumC L = T at *
  generalize hU : sumC M = U at *
  have HT := Lib.hid hT
  have HU := Lib.hid hU
  clear hT hU
  go_enter Tryz.func23, Tryz.ntmps23
  go_wp2_with fail
  generalize ((w.alloc (.cells #[.int .i64 l, .slice A n c] 56)).alloc (.cells #[.int .i64 l, .slice A2 n2 c2] 56)).alloc (.cells #[.int .i64 0, .slice none 0 0] 56) = W at *
  have hz := hzW.out
  have hwr : IntKind.i64.wrap (72057594037927935 - T) = 72057594037927935 - T := by rw [IntKind.wrap_i64]; omega
  have hz0 : Hid (w.heap.size < W.heap.size) := by show _ < _; omega
  have hz1 : Hid (w.heap.size + 1 < W.heap.size) := by show _ < _; omega
  go_region_held3 (fun w' => w'.cell? ⟨w.heap.size, 0, none⟩ = some (.int .i64 l) ∧ w'.cell? ⟨w.heap.size, 1, none⟩ = some (.slice A n c) ∧ w'.cell? ⟨w.heap.size + 1, 0, none⟩ = some (.int .i64 l) ∧ w'.cell? ⟨w.heap.size + 1, 1, none⟩ = some (.slice A2 n2 c2) ∧ Below W.heap.size W w')
    (first | assumption | (exact held4 (by assumption) (by assumption) hz0.out hz0.out hz1.out hz1.out) | (exact held4N (by assumption) _) | (exact ⟨x0, x1, x2, x3, below_drew _⟩))
    (first
      | (with_reducible refine (T1.out _ (HB.out.trans ((held4B (p := ⟨w.heap.size, 0, none⟩) (q := ⟨w.heap.size, 1, none⟩) (r := ⟨w.heap.size + 1, 0, none⟩) (s := ⟨w.heap.size + 1, 1, none⟩) (x := .int .i64 l) (y := .slice A n c) (z := .int .i64 l) (u := .slice A2 n2 c2) (by assumption)).mono HB.out.size))).mono ?_; rintro e w1 ⟨rfl, hb1⟩)
      | (with_reducible refine (T2.out _ (HB.out.trans ((held4B (p := ⟨w.heap.size, 0, none⟩) (q := ⟨w.heap.size, 1, none⟩) (r := ⟨w.heap.size + 1, 0, none⟩) (s := ⟨w.heap.size + 1, 1, none⟩) (x := .int .i64 l) (y := .slice A n c) (z := .int .i64 l) (u := .slice A2 n2 c2) (by assumption)).mono HB.out.size))).mono ?_; rintro e w1 ⟨rfl, hb1⟩))
  rename_i hH
  obtain ⟨v0, v1, v2, v3, hbr⟩ := hH
  have hzr := hbr.size
  have HBR : Hid (Below w.heap.size w w1) := HB.out.trans (hbr.mono HB.out.size)
  have RES1 := Lib.hid (own_below RES.out hbr)
  have START : Hid (OutI 56 105 w.heap.size w1.heap.size w1 (w1.alloc (.cells #[.int .i64 l, .slice A n c] 56)) l (.slice A n c) (.slice A n c) (poursN L (M.take 0))) :=
    ⟨own_low (bx2 w1 56 (.int .i64 l) (.slice A n c)) (by omega), HN.out.below (HBR.out.alloc HBR.out.size _), .inl rfl, (Below.refl _ _).alloc (Nat.le_refl _) _⟩
  clear x0 x1 x2 x3 hb1 T1 T2
  have hnf : ¬ 72057594037927935 - T < U := by have := Q2.out; omega
  go_wp2_with fail
  go_loopw [7] (fun i wr => ∃ (k : Nat) (A5 : Option Addr) (m5 c5 : Nat), i = .int .i64 (k : Int) ∧ k ≤ n2 ∧ OutI 56 105 w.heap.size w1.heap.size w1 wr l (.slice A n c) (.slice A5 m5 c5) (poursN L (M.take k))) (fun i _ => n2 - (intOf i).toNat)
  case atStart => exact ⟨0, A, n, c, rfl, Nat.zero_le _, START.out⟩
  case round =>
    obtain ⟨k, A5, m5, c5, rfl, hk, I⟩ := hrel
    have II := Lib.hid I
    obtain ⟨o0, o1, hO⟩ := I.cells
    have zs := I.below.size
    have u2 := (I.below.cell (p := ⟨w.heap.size + 1, 0, none⟩) (by show w.heap.size + 1 < _; omega)).trans v2
    have u3 := (I.below.cell (p := ⟨w.heap.size + 1, 1, none⟩) (by show w.heap.size + 1 < _; omega)).trans v3
    have HBK : Hid (Below w.heap.size w wr) := HBR.out.trans (I.below.mono HBR.out.size)
    clear I
    by_cases hlt : k < n2
    · have hkM : k < M.length := by have := hM.out; omega
      obtain ⟨b, o, rfl, hin⟩ := (nodes_cells (HN2.out.below HBK.out)).2.2.2 (by omega)
      obtain ⟨e0, e1⟩ := hin.2 k hkM
      have PS := pours_step (L := L) hkM
      have bd := HC2.out.bds _ (nd_mem hkM)
      have PUT := Lib.hid (fun w4 (hb : Below wr.heap.size wr w4) => rgPut_any l (M.getD k nz).1 (M.getD k nz).2 A5 m5 c5 (poursN L (M.take k)) w4 (II.out.nodes.below hb) (pours_good2 HC.out.good HC2.out.good k)
        (by have a := (nodes_cells II.out.nodes).1; have b := pours_many L M k; have := hL.out; have := hM.out; omega) (by have a := pours_bound (L := L) HC2.out.good k; have := Q2.out; have := HT.out; have := HU.out; omega) (by omega) (by omega))
      rw [PS] at PUT
      have k0 : (0 : Int) ≤ (k : Int) := Int.natCast_nonneg _
      have k1 : (k : Int) < (n2 : Int) := by omega
      clear hin PS bd
      generalize M.getD k nz = r at *
      obtain ⟨r1, r2⟩ := r
      dsimp only at e0 e1 PUT
      go_wp2_with fail
      go_still_tail 13, (by kernel_rfl)
      change wpList _ _ _ _ _ (World.drew wr)
      have BD := Lib.hid (below_drew wr)
      generalize World.drew wr = wd at *
      go_wp2_with (go_at_call 47; refine (PUT.out _ BD.out).mono ?_; rintro e w4 ⟨A6, m6, c6, rfl, hown, hb4⟩; have ST := Lib.hid (II.out.step BD.out hb4 hown (Nat.le_refl _) HBR.out.size); obtain ⟨p0, p1, p2, p3, _⟩ := ST.out)
      go_roundw
      case rel => exact ⟨k + 1, A6, m6, c6, by go_num, by omega, ST.out.2.2.2.2⟩
      case measure => simp [intOf]; omega
    · have e : M.take k = M := List.take_of_length_le (by have := hM.out; omega)
      have FIN := Lib.hid II.out
      rw [e] at FIN
      have RES2 := own_below RES1.out FIN.out.below
      have r0 := RES2.cellAt 0 (by omega)
      have r1 := RES2.cellAt 1 (by omega)
      have g0 := RES2.frozenAt 0
      have g1 := RES2.frozenAt 1
      simp only [List.getElem?_cons_zero, List.getElem?_cons_succ] at r0 r1
      obtain ⟨q0, q1⟩ := set_two r0 r1
      clear RES2 e
      go_wp2_with fail
      have q0' : ∀ u, (wr.setCell ⟨w.heap.size + 1 + 1, 0, none⟩ u).cell? ⟨w.heap.size + 1 + 1, 0, none⟩ = some u := q0
      have q1' : ∀ u u', ((wr.setCell ⟨w.heap.size + 1 + 1, 0, none⟩ u).setCell ⟨w.heap.size + 1 + 1, 1, none⟩ u').cell? ⟨w.heap.size + 1 + 1, 1, none⟩ = some u' := q1
      exact bodyPost_ret (v := .tuple #[.agg #[.int .i64 l, .slice A5 m5 c5], .int .i64 0]) (by simp [results, Tryz.results23, go_sem, q0', q1']) rfl (out_fin FIN.out (by decide) HN.out (own_below RES1.out FIN.out.below) HBK.out _ _)

end Go.Proofs.YtfmgcabgbnfjlaaGreat

/- The document's answers of package dewpondref10: Pour of whatever two, Image. -/
namespace Go.Proofs.YtfmgcabgbnfjlaaGreat
set_option linter.unusedVariables false
set_option maxRecDepth 100000
open Go.RowKit
attribute [local go_sem ↓] Go.wp_at_zero Go.wp_at_succ

theorem three_below (w : World) (t : TypeId) (a b c d e f : Value) : Below w.heap.size w (((w.alloc (.cells #[a, b] t)).alloc (.cells #[c, d] t)).alloc (.cells #[e, f] t)) := (below_two ..).alloc (by simp; omega) _
set_option maxHeartbeats 1600000 in
theorem rgPour_other (l m : Int) (A A2 : Option Addr) (n c n2 c2 : Nat) (L M : List Nd) (w : World) (h : NodesAt w (.slice A n c) L) (hq : l ≠ m) :
    Calls Tryz.prog 23 #[.agg #[.int .i64 l, .slice A n c], .agg #[.int .i64 m, .slice A2 n2 c2]] w (RgPost2 105 l (pourS l m L M) (pourE l m L M) (.slice A n c) w) := by
  have H := pour_other (L := L) (M := M) hq
  rw [H.1, H.2]
  have q' : (l == m) = false := by simpa using hq
  have HN := Lib.hid h
  clear H h hq
  go_enter Tryz.func23, Tryz.ntmps23
  go_wp2_with fail
  exact bodyPost_ret (v := .tuple #[.agg #[.int .i64 l, .slice A n c], .int .i64 6]) (by simp [results, Tryz.results23, go_sem]) rfl (rg_old HN.out (three_below ..))
set_option maxHeartbeats 3200000 in
theorem rgPour_full (l : Int) (A A2 : Option Addr) (n c n2 c2 : Nat) (L M : List Nd) (w : World) (h : NodesAt w (.slice A n c) L) (h2 : NodesAt w (.slice A2 n2 c2) M) (hC : BagC l L) (hC2 : BagC l M) (hn : n ≤ 100000) (hn2 : n2 ≤ 100000) (q2 : 72057594037927935 < sumC L + sumC M) :
    Calls Tryz.prog 23 #[.agg #[.int .i64 l, .slice A n c], .agg #[.int .i64 l, .slice A2 n2 c2]] w (RgPost2 105 l L 5 (.slice A n c) w) := by
  have HB := Lib.hid (three_below w 56 (.int .i64 l) (.slice A n c) (.int .i64 l) (.slice A2 n2 c2) (.int .i64 0) (.slice none 0 0))
  have HN := Lib.hid h
  have s0 := hC.tot0
  have s2 := hC2.tot0
  have T1 := Lib.hid (fun w1 (hb : Below w.heap.size w w1) => rgTotal_any l A n c L w1 (h.below hb) (good_nonneg hC.good) hC.tot (by omega))
  have T2 := Lib.hid (fun w1 (hb : Below w.heap.size w w1) => rgTotal_any l A2 n2 c2 M w1 (h2.below hb) (good_nonneg hC2.good) hC2.tot (by omega))
  have RES : Hid ((((w.alloc (.cells #[.int .i64 l, .slice A n c] 56)).alloc (.cells #[.int .i64 l, .slice A2 n2 c2] 56)).alloc (.cells #[.int .i64 0, .slice none 0 0] 56)).ownsRow w.heap.size 56 2 (.slice (some ⟨w.heap.size + 2, 0, none⟩) 1 1) 1 [.int .i64 0, .slice none 0 0]) := by
    have q := bx2 ((w.alloc (.cells #[.int .i64 l, .slice A n c] 56)).alloc (.cells #[.int .i64 l, .slice A2 n2 c2] 56)) 56 (.int .i64 0) (.slice none 0 0)
    have e : ((w.alloc (.cells #[.int .i64 l, .slice A n c] 56)).alloc (.cells #[.int .i64 l, .slice A2 n2 c2] 56)).heap.size = w.heap.size + 2 := by simp
    rw [e] at q
    exact own_low q (by omega)
  have K := k4_new w 56 56 (.int .i64 l) (.slice A n c) (.int .i64 l) (.slice A2 n2 c2)
  have K3 := K.to ((Below.refl _ _).alloc (Nat.le_refl _) (.cells #[.int .i64 0, .slice none 0 0] 56)) K.lt
  obtain ⟨x0, x1, x2, x3, _, _, _, _, _⟩ := K3
  have hzW : Hid ((((w.alloc (.cells #[.int .i64 l, .slice A n c] 56)).alloc (.cells #[.int .i64 l, .slice A2 n2 c2] 56)).alloc (.cells #[.int .i64 0, .slice none 0 0] 56)).heap.size = w.heap.size + 3) := by show _ = _; simp
  clear h h2 hC hC2 K
  generalize sumC L = T at *
  generalize sumC M = U at *
  go_enter Tryz.func23, Tryz.ntmps23
  go_wp2_with fail
  generalize ((w.alloc (.cells #[.int .i64 l, .slice A n c] 56)).alloc (.cells #[.int .i64 l, .slice A2 n2 c2] 56)).alloc (.cells #[.int .i64 0, .slice none 0 0] 56) = W at *
  have hz := hzW.out
  have hwr : IntKind.i64.wrap (72057594037927935 - T) = 72057594037927935 - T := by rw [IntKind.wrap_i64]; omega
  have hz0 : Hid (w.heap.size < W.heap.size) := by show _ < _; omega
  have hz1 : Hid (w.heap.size + 1 < W.heap.size) := by show _ < _; omega
  have hnf : 72057594037927935 - T < U := by omega
  go_region_held3 (fun w' => w'.cell? ⟨w.heap.size, 0, none⟩ = some (.int .i64 l) ∧ w'.cell? ⟨w.heap.size, 1, none⟩ = some (.slice A n c) ∧ w'.cell? ⟨w.heap.size + 1, 0, none⟩ = some (.int .i64 l) ∧ w'.cell? ⟨w.heap.size + 1, 1, none⟩ = some (.slice A2 n2 c2) ∧ Below W.heap.size W w')
    (first | assumption | (exact held4 (by assumption) (by assumption) hz0.out hz0.out hz1.out hz1.out) | (exact held4N (by assumption) _) | (exact ⟨x0, x1, x2, x3, below_drew _⟩))
    (first
      | (with_reducible refine (T1.out _ (HB.out.trans ((held4B (p := ⟨w.heap.size, 0, none⟩) (q := ⟨w.heap.size, 1, none⟩) (r := ⟨w.heap.size + 1, 0, none⟩) (s := ⟨w.heap.size + 1, 1, none⟩) (x := .int .i64 l) (y := .slice A n c) (z := .int .i64 l) (u := .slice A2 n2 c2) (by assumption)).mono HB.out.size))).mono ?_; rintro e w1 ⟨rfl, hb1⟩)
      | (with_reducible refine (T2.out _ (HB.out.trans ((held4B (p := ⟨w.heap.size, 0, none⟩) (q := ⟨w.heap.size, 1, none⟩) (r := ⟨w.heap.size + 1, 0, none⟩) (s := ⟨w.heap.size + 1, 1, none⟩) (x := .int .i64 l) (y := .slice A n c) (z := .int .i64 l) (u := .slice A2 n2 c2) (by assumption)).mono HB.out.size))).mono ?_; rintro e w1 ⟨rfl, hb1⟩))
  rename_i hH
  obtain ⟨v0, v1, v2, v3, hbr⟩ := hH
  have HBR : Hid (Below w.heap.size w w1) := HB.out.trans (hbr.mono HB.out.size)
  have RES2 := own_below RES.out hbr
  have r0 := RES2.cellAt 0 (by omega)
  have r1 := RES2.cellAt 1 (by omega)
  have g0 := RES2.frozenAt 0
  have g1 := RES2.frozenAt 1
  simp only [List.getElem?_cons_zero, List.getElem?_cons_succ] at r0 r1
  obtain ⟨q0, q1⟩ := set_two r0 r1
  clear x0 x1 x2 x3 hb1 T1 T2 RES2
  go_wp2_with fail
  have q0' : ∀ u, (w1.setCell ⟨w.heap.size + 1 + 1, 0, none⟩ u).cell? ⟨w.heap.size + 1 + 1, 0, none⟩ = some u := q0
  have q1' : ∀ u u', ((w1.setCell ⟨w.heap.size + 1 + 1, 0, none⟩ u).setCell ⟨w.heap.size + 1 + 1, 1, none⟩ u').cell? ⟨w.heap.size + 1 + 1, 1, none⟩ = some u' := q1
  have hb7 := fun u u' => (HBR.out.setCell (p := ⟨w.heap.size + 1 + 1, 0, none⟩) (by show w.heap.size ≤ w.heap.size + 1 + 1; omega) u).setCell (p := ⟨w.heap.size + 1 + 1, 1, none⟩) (by show w.heap.size ≤ w.heap.size + 1 + 1; omega) u'
  exact bodyPost_ret (v := .tuple #[.agg #[.int .i64 l, .slice A n c], .int .i64 5]) (by simp [results, Tryz.results23, go_sem, q0', q1']) rfl (rg_old HN.out (hb7 _ _))
theorem rgPour_any (l m : Int) (A A2 : Option Addr) (n c n2 c2 : Nat) (L M : List Nd) (w : World) (h : NodesAt w (.slice A n c) L) (h2 : NodesAt w (.slice A2 n2 c2) M) (hC : BagC l L) (hC2 : BagC m M) (hn : n ≤ 100000) (hn2 : n2 ≤ 100000) :
    Calls Tryz.prog 23 #[.agg #[.int .i64 l, .slice A n c], .agg #[.int .i64 m, .slice A2 n2 c2]] w (RgPost2 105 l (pourS l m L M) (pourE l m L M) (.slice A n c) w) := by
  by_cases q : l = m
  · subst q
    by_cases q2 : 72057594037927935 < sumC L + sumC M
    · rw [(pour_full q2).1, (pour_full q2).2]
      exact rgPour_full l A A2 n c n2 c2 L M w h h2 hC hC2 hn hn2 q2
    · rw [(pour_ok q2).1, (pour_ok q2).2]
      exact rgPour_ok l A A2 n c n2 c2 L M w h h2 hC hC2 hn hn2 q2
  · exact rgPour_other l m A A2 n c n2 c2 L M w h q

end Go.Proofs.YtfmgcabgbnfjlaaGreat

/- The document's answers of package dewpondref10: Image, Of. -/
namespace Go.Proofs.YtfmgcabgbnfjlaaGreat
set_option linter.unusedVariables false
set_option maxRecDepth 100000
open Go.RowKit
attribute [local go_sem ↓] Go.wp_at_zero Go.wp_at_succ

theorem img_step {L : List Nd} {b : Int} {k : Nat} (hk : k < L.length) : insW (poursN [] ((L.map (imgN b)).take k)) ((L.getD k nz).1 / 2 ^ b.toNat) (L.getD k nz).2 = poursN [] ((L.map (imgN b)).take (k + 1)) := by
  have e := pours_step (L := []) (M := L.map (imgN b)) (k := k) (by rw [List.length_map]; exact hk)
  rw [img_get hk] at e
  exact e
theorem img_good {l : Int} {L : List Nd} (h : BagC l L) (b : Int) (k : Nat) : Good (poursN [] ((L.map (imgN b)).take k)) ∧ sumC (poursN [] ((L.map (imgN b)).take k)) ≤ 72057594037927935 ∧ (poursN [] ((L.map (imgN b)).take k)).length ≤ L.length := by
  have t := tin_img h b
  have NN : NonNeg (L.map (imgN b)) := fun n hn => by have := t.pos n hn; omega
  refine ⟨pours_good good_nil _ fun n hn => t.pos n (List.mem_of_mem_take hn), ?_, ?_⟩
  · rw [pours_tot]
    have := sum_take_le NN k
    have := t.tot
    simp only [sumC]; omega
  · have := pours_len ((L.map (imgN b)).take k) []
    rw [List.length_take, List.length_map] at this
    simp at this; omega
end Go.Proofs.YtfmgcabgbnfjlaaGreat
