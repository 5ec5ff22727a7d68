/- The project's package bag: Image. -/
import Derived.Test.YtfleaaokbjgljaaBg10
namespace Go.Proofs.Ytfleaaokbjgljaa
set_option linter.unusedVariables false
set_option maxRecDepth 100000
open Go.RowKit
attribute [local go_sem ↓] Go.wp_at_zero Go.wp_at_succ

theorem tin_img {l : Int} {L : List Nd} (h : BagC l L) (b : Int) : Tin (L.map (imgN b)) := by
  refine ⟨?_, fun n hn => ?_, by rw [img_sum]; exact h.tot⟩
  · rw [List.pairwise_map]
    refine h.good.ids.imp fun {x y} q => idA_no ?_
    show ¬ (y.1 / 2 ^ b.toNat < x.1 / 2 ^ b.toNat)
    have := Int.ediv_le_ediv (two_pos b.toNat) (Int.le_of_lt q)
    omega
  · obtain ⟨m, hm, rfl⟩ := List.mem_map.1 hn
    exact h.good.pos m hm
theorem img_is {l : Int} {L : List Nd} (h : BagC l L) (b : Int) : foldN (L.map (imgN b)) = imgS L b := by
  have t := tin_img h b
  have f := t.inv (Nat.le_refl _)
  rw [List.take_length] at f
  exact good_uniq _ _ f.good (pours_good good_nil _ t.pos) fun i => by rw [f.at_, imgS, pours_sum]; simp [sumAt]
theorem img_get {L : List Nd} {b : Int} {k : Nat} (h : k < L.length) : (L.map (imgN b)).getD k nz = ((L.getD k nz).1 / 2 ^ b.toNat, (L.getD k nz).2) := by
  rw [List.getD_eq_getElem?_getD, List.getD_eq_getElem?_getD, List.getElem?_map, List.getElem?_eq_getElem h]; rfl
/-- an image under way: its box, its row -/
structure ImI (TB TR : TypeId) (w wr : World) (gi : Nat) (a0 a1 v : Value) (F : List Nd) : Prop where
  top : wr.ownsRow w.heap.size TB 3 (.slice (some ⟨gi, 0, none⟩) 1 1) 1 [a0, a1, v]
  row : OwnNd TR wr w.heap.size v F
  below : Below w.heap.size w wr
theorem imI_step {w wr w3 : World} {gi : Nat} {a0 a1 v v5 : Value} {F G : List Nd} (I : ImI 67 31 w wr gi a0 a1 v F) (own : OwnNd 31 w3 w.heap.size v5 G) (W : World) (hW : Below wr.heap.size wr W) (kp : Kp (fun k => v.ownBlock = some k) W w3) :
    ImI 67 31 w (w3.setCell ⟨gi, 2, none⟩ v5) gi a0 a1 v5 G ∧ w3.cell? ⟨gi, 2, none⟩ = some v ∧ w3.frozen? ⟨gi, 2, none⟩ = false := by
  have topW := own_below I.top hW
  have rowW : OwnNd 31 W w.heap.size v F := own_below I.row hW
  have hne : ∀ k, (Value.slice (some ⟨gi, 0, none⟩) 1 1).ownBlock = some k → ¬ v.ownBlock = some k := fun k e q => by
    rcases own_apart I.top I.row (by decide) with r | r
    · simp [Value.ownBlock] at r
    · exact r (by rw [e, q])
  have top3 := own_kp topW kp hne
  have hb3 : Below w.heap.size w w3 := beh_below (I.below.trans (hW.mono I.below.size)) rowW kp
  have hg := (I.top.lt gi rfl).1
  refine ⟨⟨(top3.stored 2 v5).1, ?_, hb3.setCell (p := ⟨gi, 2, none⟩) hg _⟩, top3.cellAt 2 (by omega), top3.frozenAt 2⟩
  refine ownsRow_setCell_other own (a := ⟨gi, 2, none⟩) (fun e => ?_) _
  rcases own_apart top3 own (by decide) with r | r
  · simp [Value.ownBlock] at r
  · exact r e.symm
theorem bgImage_nil (a : Int) (w : World) : Calls Try.prog 26 #[.pointer none, .int .i64 a] w fun e w' => e = .returned (.tuple #[.pointer none, .int .i64 1]) ∧ w = w' := by
  go_enter Try.func26, Try.ntmps26
  go_wp2_with fail
  go_ret2
  exact ⟨rfl, rfl⟩
theorem bgImage_no {B g : Nat} {l : Int} {L : List Nd} {v : Value} (b : Int) (w : World) (d : BgA w B g l L v) (h : b < 0 ∨ l ≤ b) : Calls Try.prog 26 #[.pointer (some ⟨g, 0, none⟩), .int .i64 b] w fun e w' => e = .returned (.tuple #[.pointer none, .int .i64 2]) ∧ w = w' := by
  obtain ⟨c0, c1, c2⟩ := d.cells
  clear d
  by_cases q : b < 0
  · go_enter Try.func26, Try.ntmps26
    go_wp2_with fail
    go_ret2
    exact ⟨rfl, rfl⟩
  · have q2 : l ≤ b := by omega
    clear h
    go_enter Try.func26, Try.ntmps26
    go_wp2_with fail
    go_ret2
    exact ⟨rfl, rfl⟩
set_option maxHeartbeats 6400000 in
theorem bgImage_any {B g : Nat} {l : Int} {L : List Nd} {v : Value} (b : Int) (w : World) (d : BgA w B g l L v) (hn : L.length ≤ 100000) (h1 : 0 ≤ b) (h2 : b < l) : Calls Try.prog 26 #[.pointer (some ⟨g, 0, none⟩), .int .i64 b] w fun e w' =>
    ∃ g2 v2, e = .returned (.tuple #[.pointer (some ⟨g2, 0, none⟩), .int .i64 0]) ∧ BgA w' w.heap.size g2 (l - b) (imgS L b) v2 ∧ Below w.heap.size w w' := by
  obtain ⟨A, n, c, rfl⟩ := ownNd_slice d.row
  obtain ⟨c0, c1, c2⟩ := d.cells
  have hg := d.lt.2.1
  have hu := d.bag.uni
  have hT := d.bag.tot0
  have D := Lib.hid d
  have HM := Lib.hid (nodes_cells d.nodes).1
  have T0 := Lib.hid (tin_img d.bag b)
  have IS := Lib.hid (img_is d.bag b)
  have BC := Lib.hid (img_bag d.bag h1 h2)
  have TI : Hid (sumC (imgS L b) = sumC L) := by show _ = _; rw [imgS, pours_tot, img_sum]; simp [sumC]
  clear d
  generalize hTT : sumC L = T at *
  have hnn : n ≤ 100000 := by have := HM.out; omega
  clear hTT
  have hwr : IntKind.i64.wrap (l - b) = l - b := by rw [IntKind.wrap_i64]; omega
  go_enter Try.func26, Try.ntmps26
  go_wp2_with fail
  go_still_tail 11, (by kernel_rfl)
  change wpList _ _ _ _ _ (World.drew w)
  have f2 : (World.drew w).cell? ⟨g, 2, none⟩ = some (.slice A n c) := c2
  have HBX := Lib.hid (below_drew w)
  have hzX : (World.drew w).heap.size = w.heap.size := rfl
  clear c0 c1 c2
  generalize World.drew w = X at *
  have I0 : Hid (ImI 67 31 w (X.alloc (.cells #[.int .i64 (l - b), .int .i64 T, .slice none 0 0] 67)) w.heap.size (.int .i64 (l - b)) (.int .i64 T) (.slice none 0 0) (foldN ((L.map (imgN b)).take 0))) :=
    ⟨by have q := own_low (B2 := w.heap.size) (box3 X 67 (.int .i64 (l - b)) (.int .i64 T) (.slice none 0 0)) (by omega); rw [hzX] at q; exact q, ownNd_nil .., HBX.out.alloc (by omega) _⟩
  have f2' : (X.alloc (.cells #[.int .i64 (l - b), .int .i64 T, .slice none 0 0] 67)).cell? ⟨g, 2, none⟩ = some (.slice A n c) := ((Below.refl X.heap.size X).alloc (Nat.le_refl _) _ |>.cell (p := ⟨g, 2, none⟩) (by show g < _; omega)).trans f2
  have HGX : Hid (w.heap.size ≤ X.heap.size) := by show _ ≤ _; omega
  clear f2
  go_wp2_with fail
  go_loopw [38] (fun i wr => ∃ (k : Nat) (v : Value), k ≤ n ∧ i = .int .i64 (k : Int) ∧ ImI 67 31 w wr w.heap.size (.int .i64 (l - b)) (.int .i64 T) v (foldN ((L.map (imgN b)).take k))) (fun i _ => n - (intOf i).toNat)
  case atStart => exact ⟨0, _, Nat.zero_le _, rfl, I0.out⟩
  case round =>
    obtain ⟨k, v3, hk, rfl, inv⟩ := hrel
    have INV := Lib.hid inv
    obtain ⟨A3, m3, c3, rfl⟩ := ownNd_slice inv.row
    have zs := inv.below.size
    have x2 := inv.top.cellAt 2 (by omega)
    have hgl := (inv.top.lt w.heap.size rfl)
    clear inv
    by_cases hlt : k < n
    · have hkl : k < L.length := by have := HM.out; omega
      obtain ⟨b1, o1, rfl, hin⟩ := (nodes_cells (D.out.nodes.below INV.out.below)).2.2.2 (by omega)
      obtain ⟨e0, e1⟩ := hin.2 k hkl
      have ST := T0.out.step (k := k) (by rw [List.length_map]; exact hkl)
      rw [img_get hkl] at ST
      have BEH : Hid (∀ wq, Below wr.heap.size wr wq → Calls Try.prog 47 #[.slice A3 m3 c3, .agg #[.int .i64 ((L.getD k nz).1 / 2 ^ b.toNat), .int .i64 (L.getD k nz).2]] wq (BehPost 31 w.heap.size (.slice A3 m3 c3) (foldN ((L.map (imgN b)).take (k + 1))) wq)) := by
        intro wq hq
        rw [← ST.2.1]
        exact behind_any _ _ wq (own_below INV.out.row hq) (by have := hq.size; omega) (by have := ST.2.2.2; omega) ST.2.2.1 ST.1
      have k0 : (0 : Int) ≤ (k : Int) := Int.natCast_nonneg _
      have k1 : (k : Int) < (n : Int) := by omega
      have hb1 := hin.1
      clear hin ST
      generalize L.getD k nz = r at *
      obtain ⟨r1, r2⟩ := r
      dsimp only at e0 e1 BEH
      have BW : Hid (Below wr.heap.size wr (wr.alloc (.cells #[.int .i64 r1, .int .i64 r2] 31))) := (Below.refl _ _).alloc (Nat.le_refl _) _
      have y2 := (BW.out.cell (p := ⟨w.heap.size, 2, none⟩) hgl.2).trans x2
      go_wp2_with fail
      go_region_law (first | (go_simp; go_at_call 47; refine (BEH.out _ (by first | exact BW.out.drew | exact BW.out)).mono ?_; rintro e w3 ⟨v', rfl, hown, hkp, hat⟩; have st := Lib.hid (imI_step INV.out hown _ (by first | exact BW.out.drew | exact BW.out) hkp); obtain ⟨A5, m5, c5, rfl⟩ := ownNd_slice hown; have z2 := st.out.2.1; have zf := st.out.2.2))
      all_goals
        go_wp2_with fail
        go_roundw
        case rel => exact ⟨k + 1, _, by omega, by go_num, st.out.1⟩
        case measure => simp [intOf]; omega
    · have FIN := Lib.hid INV.out
      go_wp2_with fail
      go_ret2
      have e : (L.map (imgN b)).take k = L.map (imgN b) := List.take_of_length_le (by rw [List.length_map]; have := HM.out; omega)
      have q := FIN.out
      rw [e, IS.out] at q
      exact ⟨w.heap.size, .slice A3 m3 c3, rfl, ⟨BC.out, by rw [TI.out]; exact q.top, q.row, by decide⟩, q.below⟩

end Go.Proofs.Ytfleaaokbjgljaa
