/- The document's answers of package dewpondref10: Image, Of. -/
import Derived.Test.YtfleaaokbjgljaaBgRef6
import Derived.Test.YtfleaaokbjgljaaBg11
import Derived.IntWalk
namespace Go.Proofs.Ytfleaaokbjgljaa
set_option linter.unusedVariables false
set_option maxRecDepth 100000
open Go.RowKit
attribute [local go_sem ↓] Go.wp_at_zero Go.wp_at_succ

theorem img_step {L : List Nd} {b : Int} {k : Nat} (hk : k < L.length) : insW (poursN [] ((L.map (imgN b)).take k)) ((L.getD k nz).1 / 2 ^ b.toNat) (L.getD k nz).2 = poursN [] ((L.map (imgN b)).take (k + 1)) := by
  have e := pours_step (L := []) (M := L.map (imgN b)) (k := k) (by rw [List.length_map]; exact hk)
  rw [img_get hk] at e
  exact e
theorem img_good {l : Int} {L : List Nd} (h : BagC l L) (b : Int) (k : Nat) : Good (poursN [] ((L.map (imgN b)).take k)) ∧ sumC (poursN [] ((L.map (imgN b)).take k)) ≤ 72057594037927935 ∧ (poursN [] ((L.map (imgN b)).take k)).length ≤ L.length := by
  have t := tin_img h b
  have NN : NonNeg (L.map (imgN b)) := fun n hn => by have := t.pos n hn; omega
  refine ⟨pours_good good_nil _ fun n hn => t.pos n (List.mem_of_mem_take hn), ?_, ?_⟩
  · rw [pours_tot]
    have := sum_take_le NN k
    have := t.tot
    simp only [sumC]; omega
  · have := pours_len ((L.map (imgN b)).take k) []
    rw [List.length_take, List.length_map] at this
    simp at this; omega
theorem rgImage_no (l b : Int) (A : Option Addr) (n c : Nat) (w : World) (h : b < 0 ∨ l ≤ b) :
    Calls Try.prog 27 #[.agg #[.int .i64 l, .slice A n c], .int .i64 b] w fun e w' => e = .returned (.tuple #[.agg #[.int .i64 0, .slice none 0 0], .int .i64 2]) ∧ Below w.heap.size w w' := by
  by_cases q : b < 0
  · go_enter Try.func27, Try.ntmps27
    go_wp2_with fail
    exact bodyPost_ret (v := .tuple #[.agg #[.int .i64 0, .slice none 0 0], .int .i64 2]) (by simp [results, Try.results27, go_sem]) rfl ⟨rfl, below_two ..⟩
  · have q2 : l ≤ b := by omega
    clear h
    go_enter Try.func27, Try.ntmps27
    go_wp2_with fail
    exact bodyPost_ret (v := .tuple #[.agg #[.int .i64 0, .slice none 0 0], .int .i64 2]) (by simp [results, Try.results27, go_sem]) rfl ⟨rfl, below_two ..⟩
set_option maxHeartbeats 6400000 in
theorem rgImage_any (l b : Int) (A : Option Addr) (n c : Nat) (L : List Nd) (w : World) (h : NodesAt w (.slice A n c) L) (hC : BagC l L) (hn : n ≤ 100000) (h1 : 0 ≤ b) (h2 : b < l) :
    Calls Try.prog 27 #[.agg #[.int .i64 l, .slice A n c], .int .i64 b] w (RgPost2 31 (l - b) (imgS L b) 0 (.slice none 0 0) w) := by
  have K := k4_new w 29 29 (.int .i64 l) (.slice A n c) (.int .i64 0) (.slice none 0 0)
  have HB := Lib.hid (below_two w (.cells #[.int .i64 l, .slice A n c] 29) (.cells #[.int .i64 0, .slice none 0 0] 29))
  have HN := Lib.hid h
  have HC := Lib.hid hC
  have hu := hC.uni
  have hL := Lib.hid (nodes_cells h).1
  have RES : Hid (((w.alloc (.cells #[.int .i64 l, .slice A n c] 29)).alloc (.cells #[.int .i64 0, .slice none 0 0] 29)).ownsRow w.heap.size 29 2 (.slice (some ⟨w.heap.size + 1, 0, none⟩) 1 1) 1 [.int .i64 0, .slice none 0 0]) := by
    have q := bx2 (w.alloc (.cells #[.int .i64 l, .slice A n c] 29)) 29 (.int .i64 0) (.slice none 0 0)
    have e : (w.alloc (.cells #[.int .i64 l, .slice A n c] 29)).heap.size = w.heap.size + 1 := by simp
    rw [e] at q
    exact own_low q (by omega)
  have hzW : Hid (((w.alloc (.cells #[.int .i64 l, .slice A n c] 29)).alloc (.cells #[.int .i64 0, .slice none 0 0] 29)).heap.size = w.heap.size + 2) := own2_size
  have PW := Lib.hid (fun w1 => (rpower_any b w1 h1 (by omega)).mono (R' := fun e w' => e = .returned (.int .i64 (2 ^ b.toNat)) ∧ w' = w1) fun e w' ⟨a, q⟩ => ⟨a, q.symm⟩)
  have hP : (1 : Int) ≤ 2 ^ b.toNat := two_pos _
  have IST := Lib.hid (fun k (hk : k < L.length) => img_step (b := b) hk)
  have hP2 : (2 : Int) ^ b.toNat ≤ 281474976710656 := by
    have h3 : (2 : Int) ^ b.toNat ≤ 2 ^ 48 := two_le _ _ (by omega)
    have e : (2 : Int) ^ 48 = 281474976710656 := by decide
    omega
  generalize (2 : Int) ^ b.toNat = P at *
  obtain ⟨x0, x1, x2, x3, _, _, _, _, _⟩ := K
  clear h hC
  go_enter Try.func27, Try.ntmps27
  go_wp2_with fail
  generalize (w.alloc (.cells #[.int .i64 l, .slice A n c] 29)).alloc (.cells #[.int .i64 0, .slice none 0 0] 29) = w1 at *
  have hz := hzW.out
  have HBR : Hid (Below w.heap.size w w1) := HB.out
  have RES1 := RES
  have START : Hid (OutI 29 31 w.heap.size (w.heap.size + 1 + 1) w1 (w1.alloc (.cells #[.int .i64 (l - b), .slice none 0 0] 29)) (l - b) (.slice none 0 0) (.slice none 0 0) (poursN [] ((L.map (imgN b)).take 0))) :=
    ⟨by have q := own_low (B2 := w.heap.size) (bx2 w1 29 (.int .i64 (l - b)) (.slice none 0 0)) (by omega); rw [hz] at q; exact q, nodes_nil _, .inl rfl, (Below.refl _ _).alloc (Nat.le_refl _) _⟩
  go_loopw [7] (fun i wr => ∃ (k : Nat) (A5 : Option Addr) (m5 c5 : Nat), i = .int .i64 (k : Int) ∧ k ≤ n ∧ OutI 29 31 w.heap.size (w.heap.size + 1 + 1) w1 wr (l - b) (.slice none 0 0) (.slice A5 m5 c5) (poursN [] ((L.map (imgN b)).take k))) (fun i _ => n - (intOf i).toNat)
  case atStart => exact ⟨0, none, 0, 0, rfl, Nat.zero_le _, START.out⟩
  case round =>
    obtain ⟨k, A5, m5, c5, rfl, hk, I⟩ := hrel
    have II := Lib.hid I
    obtain ⟨o0, o1, hO⟩ := I.cells
    have zs := I.below.size
    have u2 := (I.below.cell (p := ⟨w.heap.size, 0, none⟩) (by show w.heap.size < _; omega)).trans x0
    have u3 := (I.below.cell (p := ⟨w.heap.size, 1, none⟩) (by show w.heap.size < _; omega)).trans x1
    have HBK : Hid (Below w.heap.size w wr) := HBR.out.trans (I.below.mono HBR.out.size)
    clear I
    by_cases hlt : k < n
    · have hkM : k < L.length := by have := hL.out; omega
      obtain ⟨b1, o, rfl, hin⟩ := (nodes_cells (HN.out.below HBK.out)).2.2.2 (by omega)
      obtain ⟨e0, e1⟩ := hin.2 k hkM
      have PS := IST.out k hkM
      have bd := HC.out.bds _ (nd_mem hkM)
      have ig := img_good HC.out b k
      have PUT := Lib.hid (fun w4 (hb : Below wr.heap.size wr w4) => rgPut_any (l - b) ((L.getD k nz).1 / P) (L.getD k nz).2 A5 m5 c5 (poursN [] ((L.map (imgN b)).take k)) w4 (II.out.nodes.below hb) ig.1
        (by have a := (nodes_cells II.out.nodes).1; have := ig.2.2; have := hL.out; omega) ig.2.1 (by omega) (by omega))
      rw [PS] at PUT
      have k0 : (0 : Int) ≤ (k : Int) := Int.natCast_nonneg _
      have k1 : (k : Int) < (n : Int) := by omega
      have dv0 : 0 ≤ (L.getD k nz).1 / P := Int.ediv_nonneg (by omega) (by omega)
      have dv1 : (L.getD k nz).1 / P ≤ (L.getD k nz).1 := Int.ediv_le_self _ (by omega)
      clear hin PS ig
      generalize L.getD k nz = r at *
      obtain ⟨r1, r2⟩ := r
      dsimp only at e0 e1 PUT dv0 dv1 bd
      have hPn : (P == 0) = false := by simp; omega
      have hP0 : ¬ P = 0 := by omega
      have hQ : IntKind.i64.wrap (r1.tdiv P) = r1 / P := by rw [IntKind.wrap_i64, Int.tdiv_eq_ediv_of_nonneg (by omega)]; omega
      go_wp2_with fail
      go_still_tail 16, (by kernel_rfl)
      still_call (PW.out _)
      repeat still_step
      refine wpStill_nil ?_
      change wpList _ _ _ _ _ (World.drew wr)
      have BD := Lib.hid (below_drew wr)
      generalize World.drew wr = wd at *
      go_wp2_with (go_at_call 37; refine (PUT.out _ BD.out).mono ?_; rintro e w4 ⟨A6, m6, c6, rfl, hown, hb4⟩; have ST := Lib.hid (II.out.step BD.out hb4 hown (by omega) HBR.out.size); obtain ⟨p0, p1, p2, p3, _⟩ := ST.out)
      go_roundw
      case rel => exact ⟨k + 1, A6, m6, c6, by go_num, by omega, ST.out.2.2.2.2⟩
      case measure => simp [intOf]; omega
    · have e : (L.map (imgN b)).take k = L.map (imgN b) := List.take_of_length_le (by rw [List.length_map]; have := hL.out; omega)
      have FIN := Lib.hid II.out
      rw [e] at FIN
      have RES2 := own_below RES1.out FIN.out.below
      have r0 := RES2.cellAt 0 (by omega)
      have r1 := RES2.cellAt 1 (by omega)
      have g0 := RES2.frozenAt 0
      have g1 := RES2.frozenAt 1
      simp only [List.getElem?_cons_zero, List.getElem?_cons_succ] at r0 r1
      obtain ⟨q0, q1⟩ := set_two r0 r1
      clear RES2 e
      go_wp2_with fail
      exact bodyPost_ret (v := .tuple #[.agg #[.int .i64 (l - b), .slice A5 m5 c5], .int .i64 0]) (by simp [results, Try.results27, go_sem, q0, q1]) rfl (out_fin FIN.out (by decide) (nodes_nil w) (own_below RES1.out FIN.out.below) HBK.out _ _)

end Go.Proofs.Ytfleaaokbjgljaa
