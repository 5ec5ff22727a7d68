/- Texts laid together: BgRef4, BgRef5, BgRef6, BgRef7. -/
import Derived.Test.YtachfeclgdgbiaaGreatBgR
import Derived.StillTailTactics
import Derived.Test.YtachfeclgdgbiaaGreatBgP
import Derived.IntWalk
/- The document's answers of package dewpondref10: SameItems, Same, Wider, Kth. -/
namespace Go.Proofs.YtachfeclgdgbiaaGreat
set_option linter.unusedVariables false
set_option maxRecDepth 100000
open Go.RowKit
attribute [local go_sem ↓] Go.wp_at_zero Go.wp_at_succ

theorem rgWider_no (l m : Int) (A : Option Addr) (n c : Nat) (w : World) (h : m < l ∨ 48 < m) :
    Calls Tryz.prog 23 #[.agg #[.int .i64 l, .slice A n c], .int .i64 m] w fun e w' => e = .returned (.tuple #[.agg #[.int .i64 0, .slice none 0 0], .int .i64 2]) ∧ Below w.heap.size w w' := by
  by_cases q : m < l
  · go_enter Tryz.func23, Tryz.ntmps23
    go_wp2_with fail
    exact bodyPost_ret (v := .tuple #[.agg #[.int .i64 0, .slice none 0 0], .int .i64 2]) (by simp [results, Tryz.results23, go_sem]) rfl ⟨rfl, below_two ..⟩
  · have q2 : 48 < m := by omega
    clear h
    go_enter Tryz.func23, Tryz.ntmps23
    go_wp2_with fail
    exact bodyPost_ret (v := .tuple #[.agg #[.int .i64 0, .slice none 0 0], .int .i64 2]) (by simp [results, Tryz.results23, go_sem]) rfl ⟨rfl, below_two ..⟩
theorem rgWider_any (l m : Int) (A : Option Addr) (n c : Nat) (w : World) (h1 : ¬ m < l) (h2 : ¬ 48 < m) :
    Calls Tryz.prog 23 #[.agg #[.int .i64 l, .slice A n c], .int .i64 m] w fun e w' => e = .returned (.tuple #[.agg #[.int .i64 m, .slice A n c], .int .i64 0]) ∧ Below w.heap.size w w' := by
  go_enter Tryz.func23, Tryz.ntmps23
  go_wp2_with fail
  exact bodyPost_ret (v := .tuple #[.agg #[.int .i64 m, .slice A n c], .int .i64 0]) (by simp [results, Tryz.results23, go_sem]) rfl ⟨rfl, below_two ..⟩
end Go.Proofs.YtachfeclgdgbiaaGreat

/- The document's answers of package dewpondref10: Pour, Image. -/
namespace Go.Proofs.YtachfeclgdgbiaaGreat
set_option linter.unusedVariables false
set_option maxRecDepth 100000
open Go.RowKit
attribute [local go_sem ↓] Go.wp_at_zero Go.wp_at_succ

theorem bx2 (w : World) (TO : TypeId) (a b : Value) : (w.alloc (.cells #[a, b] TO)).ownsRow w.heap.size TO 2 (.slice (some ⟨w.heap.size, 0, none⟩) 1 1) 1 [a, b] :=
  World.ownsRow_lit (base := w.heap.size) (e := TO) (size := 2) w #[a, b] 1 (Nat.le_refl _) (by unfold maxLen; omega) rfl
theorem pours_good2 {L M : List Nd} (h : Good L) (g : Good M) (k : Nat) : Good (poursN L (M.take k)) := pours_good h _ fun n hn => g.pos n (List.mem_of_mem_take hn)
theorem pours_step {L M : List Nd} {k : Nat} (hk : k < M.length) : insW (poursN L (M.take k)) (M.getD k nz).1 (M.getD k nz).2 = poursN L (M.take (k + 1)) := by rw [nd_take hk, pours_snoc]
theorem pours_bound {L M : List Nd} (g : Good M) (k : Nat) : sumC (poursN L (M.take k)) ≤ sumC L + sumC M := by
  rw [pours_tot]
  have := sum_take_le (good_nonneg g) k
  omega
theorem pours_many (L M : List Nd) (k : Nat) : (poursN L (M.take k)).length ≤ L.length + M.length := by
  have := pours_len (M.take k) L
  rw [List.length_take] at this; omega
/-- a bag of the document's under way: its box at O, and its slice -/
structure OutI (TB TR : TypeId) (H O : Nat) (wb wr : World) (l : Int) (v0 X : Value) (L : List Nd) : Prop where
  box : wr.ownsRow H TB 2 (.slice (some ⟨O, 0, none⟩) 1 1) 1 [.int .i64 l, X]
  nodes : NodesAt wr X L
  own : X = v0 ∨ OwnNd TR wr H X L
  below : Below wb.heap.size wb wr
theorem OutI.cells {TB TR : TypeId} {H O : Nat} {wb wr : World} {l : Int} {v0 X : Value} {L : List Nd} (I : OutI TB TR H O wb wr l v0 X L) :
    wr.cell? ⟨O, 0, none⟩ = some (.int .i64 l) ∧ wr.cell? ⟨O, 1, none⟩ = some X ∧ O < wr.heap.size := ⟨I.box.cellAt 0 (by omega), I.box.cellAt 1 (by omega), (I.box.lt O rfl).2⟩
/-- one more is put to it -/
theorem OutI.step {TB TR : TypeId} {H O : Nat} {wb wr wd w3 : World} {l : Int} {v0 X Y : Value} {L L2 : List Nd} (I : OutI TB TR H O wb wr l v0 X L) (hd : Below wr.heap.size wr wd) (hb : Below wd.heap.size wd w3) (own : OwnNd TR w3 wd.heap.size Y L2) (hO : wb.heap.size ≤ O) (hH : H ≤ wb.heap.size) :
    w3.cell? ⟨O, 0, none⟩ = some (.int .i64 l) ∧ w3.cell? ⟨O, 1, none⟩ = some X ∧ w3.frozen? ⟨O, 0, none⟩ = false ∧ w3.frozen? ⟨O, 1, none⟩ = false ∧ OutI TB TR H O wb ((w3.setCell ⟨O, 0, none⟩ (.int .i64 l)).setCell ⟨O, 1, none⟩ Y) l v0 Y L2 := by
  have hz := hd.size
  have hz1 := I.below.size
  have hbb := hd.trans (hb.mono hz)
  have bx := own_below I.box hbb
  have S1 := bx.stored 0 (.int .i64 l)
  have S2 := S1.1.stored 1 Y
  have hOl := (I.box.lt O rfl).2
  have own2 := ownsRow_setCell_below (ownsRow_setCell_below own (a := ⟨O, 0, none⟩) (by show O < wd.heap.size; omega) (.int .i64 l)) (a := ⟨O, 1, none⟩) (by show O < wd.heap.size; omega) Y
  exact ⟨bx.cellAt 0 (by omega), bx.cellAt 1 (by omega), bx.frozenAt 0, bx.frozenAt 1, S2.1, ownNd_nodes own2, .inr (own_low own2 (by omega)), ((I.below.trans (hbb.mono hz1)).setCell (p := ⟨O, 0, none⟩) hO _).setCell (p := ⟨O, 1, none⟩) hO _⟩
/-- a slice that came in, read again -/
theorem nodes_old {w wr w' : World} {v : Value} {L S : List Nd} (h : NodesAt w v L) (h2 : NodesAt wr v S) (hs : wr.heap.size ≤ w'.heap.size) (hb : ∀ k, k < w.heap.size → w'.heap[k]? = wr.heap[k]?) : NodesAt w' v S := by
  obtain ⟨A, c, rfl, a1, a2, a3, a4⟩ := h
  obtain ⟨B, d, e, b1, b2, b3, b4⟩ := h2
  injection e with e1 e2 e3
  subst e1 e3
  refine ⟨A, c, by rw [e2], b1, b2, b3, fun h0 => ?_⟩
  obtain ⟨b, o, q1, hin⟩ := b4 h0
  obtain ⟨b', o', q2, hin2⟩ := a4 (by omega)
  rw [q1] at q2
  injection q2 with q2
  injection q2 with q3 q4
  subst q3
  exact ⟨b, o, q1, hin.block hs (hb b hin2.1)⟩
theorem out_fin {TB TR : TypeId} {O R : Nat} {w wb wr : World} {l m x a0 : Int} {A5 : Option Addr} {m5 c5 : Nat} {v0 z : Value} {L S : List Nd} (I : OutI TB TR w.heap.size O wb wr l v0 (.slice A5 m5 c5) S) (hne : TB ≠ TR) (hv : NodesAt w v0 L) (res : wr.ownsRow w.heap.size TB 2 (.slice (some ⟨R, 0, none⟩) 1 1) 1 [.int .i64 a0, z]) (hb : Below w.heap.size w wr) (u u' : Value) :
    RgPost2 TR m S x v0 w (.returned (.tuple #[.agg #[.int .i64 m, .slice A5 m5 c5], .int .i64 x])) ((wr.setCell ⟨R, 0, none⟩ u).setCell ⟨R, 1, none⟩ u') := by
  have hR := (res.lt R rfl).1
  have hb2 : Below w.heap.size w ((wr.setCell ⟨R, 0, none⟩ u).setCell ⟨R, 1, none⟩ u') := (hb.setCell (p := ⟨R, 0, none⟩) hR u).setCell (p := ⟨R, 1, none⟩) hR u'
  have own : OwnNd TR wr w.heap.size (.slice A5 m5 c5) S → OwnNd TR ((wr.setCell ⟨R, 0, none⟩ u).setCell ⟨R, 1, none⟩ u') w.heap.size (.slice A5 m5 c5) S := fun o => by
    have q : (Value.slice A5 m5 c5).ownBlock ≠ some R := fun e => by
      rcases own_apart res o hne with r | r
      · simp [Value.ownBlock] at r
      · exact r e.symm
    exact ownsRow_setCell_other (ownsRow_setCell_other o (a := ⟨R, 0, none⟩) q _) (a := ⟨R, 1, none⟩) q _
  rcases I.own with q | q
  · refine ⟨A5, m5, c5, rfl, ?_, hb2, .inl q⟩
    have n := I.nodes
    rw [q] at n ⊢
    exact nodes_old hv n (by simp) fun k hk => by rw [Below.heap_setCell _ _ _ _ (by show k ≠ R; omega), Below.heap_setCell _ _ _ _ (by show k ≠ R; omega)]
  · exact ⟨A5, m5, c5, rfl, ownNd_nodes (own q), hb2, .inr (own q)⟩
end Go.Proofs.YtachfeclgdgbiaaGreat

/- The document's answers of package dewpondref10: Pour of whatever two, Image. -/
namespace Go.Proofs.YtachfeclgdgbiaaGreat
set_option linter.unusedVariables false
set_option maxRecDepth 100000
open Go.RowKit
attribute [local go_sem ↓] Go.wp_at_zero Go.wp_at_succ

end Go.Proofs.YtachfeclgdgbiaaGreat

/- The document's answers of package dewpondref10: Image, Of. -/
namespace Go.Proofs.YtachfeclgdgbiaaGreat
set_option linter.unusedVariables false
set_option maxRecDepth 100000
open Go.RowKit
attribute [local go_sem ↓] Go.wp_at_zero Go.wp_at_succ

theorem img_step {L : List Nd} {b : Int} {k : Nat} (hk : k < L.length) : insW (poursN [] ((L.map (imgN b)).take k)) ((L.getD k nz).1 / 2 ^ b.toNat) (L.getD k nz).2 = poursN [] ((L.map (imgN b)).take (k + 1)) := by
  have e := pours_step (L := []) (M := L.map (imgN b)) (k := k) (by rw [List.length_map]; exact hk)
  rw [img_get hk] at e
  exact e
theorem img_good {l : Int} {L : List Nd} (h : BagC l L) (b : Int) (k : Nat) : Good (poursN [] ((L.map (imgN b)).take k)) ∧ sumC (poursN [] ((L.map (imgN b)).take k)) ≤ 72057594037927935 ∧ (poursN [] ((L.map (imgN b)).take k)).length ≤ L.length := by
  have t := tin_img h b
  have NN : NonNeg (L.map (imgN b)) := fun n hn => by have := t.pos n hn; omega
  refine ⟨pours_good good_nil _ fun n hn => t.pos n (List.mem_of_mem_take hn), ?_, ?_⟩
  · rw [pours_tot]
    have := sum_take_le NN k
    have := t.tot
    simp only [sumC]; omega
  · have := pours_len ((L.map (imgN b)).take k) []
    rw [List.length_take, List.length_map] at this
    simp at this; omega
theorem rgImage_no (l b : Int) (A : Option Addr) (n c : Nat) (w : World) (h : b < 0 ∨ l ≤ b) :
    Calls Tryz.prog 25 #[.agg #[.int .i64 l, .slice A n c], .int .i64 b] w fun e w' => e = .returned (.tuple #[.agg #[.int .i64 0, .slice none 0 0], .int .i64 2]) ∧ Below w.heap.size w w' := by
  by_cases q : b < 0
  · go_enter Tryz.func25, Tryz.ntmps25
    go_wp2_with fail
    exact bodyPost_ret (v := .tuple #[.agg #[.int .i64 0, .slice none 0 0], .int .i64 2]) (by simp [results, Tryz.results25, go_sem]) rfl ⟨rfl, below_two ..⟩
  · have q2 : l ≤ b := by omega
    clear h
    go_enter Tryz.func25, Tryz.ntmps25
    go_wp2_with fail
    exact bodyPost_ret (v := .tuple #[.agg #[.int .i64 0, .slice none 0 0], .int .i64 2]) (by simp [results, Tryz.results25, go_sem]) rfl ⟨rfl, below_two ..⟩
set_option maxHeartbeats 6400000 in
theorem rgImage_any (l b : Int) (A : Option Addr) (n c : Nat) (L : List Nd) (w : World) (h : NodesAt w (.slice A n c) L) (hC : BagC l L) (hn : n ≤ 100000) (h1 : 0 ≤ b) (h2 : b < l) :
    Calls Tryz.prog 25 #[.agg #[.int .i64 l, .slice A n c], .int .i64 b] w (RgPost2 98 (l - b) (imgS L b) 0 (.slice none 0 0) w) := by
  have K := k4_new w 56 56 (.int .i64 l) (.slice A n c) (.int .i64 0) (.slice none 0 0)
  have HB := Lib.hid (below_two w (.cells #[.int .i64 l, .slice A n c] 56) (.cells #[.int .i64 0, .slice none 0 0] 56))
  have HN := Lib.hid h
  have HC := Lib.hid hC
  have hu := hC.uni
  have hL := Lib.hid (nodes_cells h).1
  have RES : Hid (((w.alloc (.cells #[.int .i64 l, .slice A n c] 56)).alloc (.cells #[.int .i64 0, .slice none 0 0] 56)).ownsRow w.heap.size 56 2 (.slice (some ⟨w.heap.size + 1, 0, none⟩) 1 1) 1 [.int .i64 0, .slice none 0 0]) := by
    have q := bx2 (w.alloc (.cells #[.int .i64 l, .slice A n c] 56)) 56 (.int .i64 0) (.slice none 0 0)
    have e : (w.alloc (.cells #[.int .i64 l, .slice A n c] 56)).heap.size = w.heap.size + 1 := by simp
    rw [e] at q
    exact own_low q (by omega)
  have hzW : Hid (((w.alloc (.cells #[.int .i64 l, .slice A n c] 56)).alloc (.cells #[.int .i64 0, .slice none 0 0] 56)).heap.size = w.heap.size + 2) := own2_size
  have PW := Lib.hid (fun w1 => (rpower_any b w1 h1 (by omega)).mono (R' := fun e w' => e = .returned (.int .i64 (2 ^ b.toNat)) ∧ w' = w1) fun e w' ⟨a, q⟩ => ⟨a, q.symm⟩)
  have hP : (1 : Int) ≤ 2 ^ b.toNat := two_pos _
  have IST := Lib.hid (fun k (hk : k < L.length) => img_step (b := b) hk)
  have hP2 : (2 : Int) ^ b.toNat ≤ 281474976710656 := by
    have h3 : (2 : Int) ^ b.toNat ≤ 2 ^ 48 := two_le _ _ (by omega)
    have e : (2 : Int) ^ 48 = 281474976710656 := by decide
    omega
  generalize (2 : Int) ^ b.toNat = P at *
  obtain ⟨x0, x1, x2, x3, _, _, _, _, _⟩ := K
  clear h hC
  go_enter Tryz.func25, Tryz.ntmps25
  go_wp2_with fail
  generalize (w.alloc (.cells #[.int .i64 l, .slice A n c] 56)).alloc (.cells #[.int .i64 0, .slice none 0 0] 56) = w1 at *
  have hz := hzW.out
  have HBR : Hid (Below w.heap.size w w1) := HB.out
  have RES1 := RES
  have START : Hid (OutI 56 98 w.heap.size (w.heap.size + 1 + 1) w1 (w1.alloc (.cells #[.int .i64 (l - b), .slice none 0 0] 56)) (l - b) (.slice none 0 0) (.slice none 0 0) (poursN [] ((L.map (imgN b)).take 0))) :=
    ⟨by have q := own_low (B2 := w.heap.size) (bx2 w1 56 (.int .i64 (l - b)) (.slice none 0 0)) (by omega); rw [hz] at q; exact q, nodes_nil _, .inl rfl, (Below.refl _ _).alloc (Nat.le_refl _) _⟩
  go_loopw [7] (fun i wr => ∃ (k : Nat) (A5 : Option Addr) (m5 c5 : Nat), i = .int .i64 (k : Int) ∧ k ≤ n ∧ OutI 56 98 w.heap.size (w.heap.size + 1 + 1) w1 wr (l - b) (.slice none 0 0) (.slice A5 m5 c5) (poursN [] ((L.map (imgN b)).take k))) (fun i _ => n - (intOf i).toNat)
  case atStart => exact ⟨0, none, 0, 0, rfl, Nat.zero_le _, START.out⟩
  case round =>
    obtain ⟨k, A5, m5, c5, rfl, hk, I⟩ := hrel
    have II := Lib.hid I
    obtain ⟨o0, o1, hO⟩ := I.cells
    have zs := I.below.size
    have u2 := (I.below.cell (p := ⟨w.heap.size, 0, none⟩) (by show w.heap.size < _; omega)).trans x0
    have u3 := (I.below.cell (p := ⟨w.heap.size, 1, none⟩) (by show w.heap.size < _; omega)).trans x1
    have HBK : Hid (Below w.heap.size w wr) := HBR.out.trans (I.below.mono HBR.out.size)
    clear I
    by_cases hlt : k < n
    · have hkM : k < L.length := by have := hL.out; omega
      obtain ⟨b1, o, rfl, hin⟩ := (nodes_cells (HN.out.below HBK.out)).2.2.2 (by omega)
      obtain ⟨e0, e1⟩ := hin.2 k hkM
      have PS := IST.out k hkM
      have bd := HC.out.bds _ (nd_mem hkM)
      have ig := img_good HC.out b k
      have PUT := Lib.hid (fun w4 (hb : Below wr.heap.size wr w4) => rgPut_any (l - b) ((L.getD k nz).1 / P) (L.getD k nz).2 A5 m5 c5 (poursN [] ((L.map (imgN b)).take k)) w4 (II.out.nodes.below hb) ig.1
        (by have a := (nodes_cells II.out.nodes).1; have := ig.2.2; have := hL.out; omega) ig.2.1 (by omega) (by omega))
      rw [PS] at PUT
      have k0 : (0 : Int) ≤ (k : Int) := Int.natCast_nonneg _
      have k1 : (k : Int) < (n : Int) := by omega
      have dv0 : 0 ≤ (L.getD k nz).1 / P := Int.ediv_nonneg (by omega) (by omega)
      have dv1 : (L.getD k nz).1 / P ≤ (L.getD k nz).1 := Int.ediv_le_self _ (by omega)
      clear hin PS ig
      generalize L.getD k nz = r at *
      obtain ⟨r1, r2⟩ := r
      dsimp only at e0 e1 PUT dv0 dv1 bd
      have hPn : (P == 0) = false := by simp; omega
      have hP0 : ¬ P = 0 := by omega
      have hQ : IntKind.i64.wrap (r1.tdiv P) = r1 / P := by rw [IntKind.wrap_i64, Int.tdiv_eq_ediv_of_nonneg (by omega)]; omega
      go_wp2_with fail
      go_still_tail 16, (by kernel_rfl)
      still_call (PW.out _)
      repeat still_step
      refine wpStill_nil ?_
      change wpList _ _ _ _ _ (World.drew wr)
      have BD := Lib.hid (below_drew wr)
      generalize World.drew wr = wd at *
      go_wp2_with (go_at_call 58; refine (PUT.out _ BD.out).mono ?_; rintro e w4 ⟨A6, m6, c6, rfl, hown, hb4⟩; have ST := Lib.hid (II.out.step BD.out hb4 hown (by omega) HBR.out.size); obtain ⟨p0, p1, p2, p3, _⟩ := ST.out)
      go_roundw
      case rel => exact ⟨k + 1, A6, m6, c6, by go_num, by omega, ST.out.2.2.2.2⟩
      case measure => simp [intOf]; omega
    · have e : (L.map (imgN b)).take k = L.map (imgN b) := List.take_of_length_le (by rw [List.length_map]; have := hL.out; omega)
      have FIN := Lib.hid II.out
      rw [e] at FIN
      have RES2 := own_below RES1.out FIN.out.below
      have r0 := RES2.cellAt 0 (by omega)
      have r1 := RES2.cellAt 1 (by omega)
      have g0 := RES2.frozenAt 0
      have g1 := RES2.frozenAt 1
      simp only [List.getElem?_cons_zero, List.getElem?_cons_succ] at r0 r1
      obtain ⟨q0, q1⟩ := set_two r0 r1
      clear RES2 e
      go_wp2_with fail
      exact bodyPost_ret (v := .tuple #[.agg #[.int .i64 (l - b), .slice A5 m5 c5], .int .i64 0]) (by simp [results, Tryz.results25, go_sem, q0, q1]) rfl (out_fin FIN.out (by decide) (nodes_nil w) (own_below RES1.out FIN.out.below) HBK.out _ _)

end Go.Proofs.YtachfeclgdgbiaaGreat
