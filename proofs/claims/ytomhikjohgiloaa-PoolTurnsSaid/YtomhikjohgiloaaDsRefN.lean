/- The document's answers of package dewpondref07, of a list that lies wherever it lies (an argument's): Add, Do. -/
import Derived.Test.YtomhikjohgiloaaDsRef2
namespace Go.Proofs.Ytomhikjohgiloaa
set_option linter.unusedVariables false
set_option maxRecDepth 100000
open Go.RowKit

/-- a store handed out, and a number: its list is the one that came in, or a row of its own -/
def StPostS (l : Int) (M : List Nd) (n : Int) (v0 : Value) (L : List Nd) (w : World) (e : Ending) (w' : World) : Prop :=
  ∃ A m c, e = .returned (.tuple #[.agg #[.int .i64 l, .slice A m c], .int .i64 n]) ∧ ((Value.slice A m c = v0 ∧ M = L) ∨ OwnNd 42 w' 0 (.slice A m c) M) ∧ Below w.heap.size w w'
set_option maxHeartbeats 1600000 in
theorem rsAddN_arg (l id cc : Int) (A : Option Addr) (n c : Nat) (L : List Nd) (w : World) (h : NodesAt w (.slice A n c) L) (hq : rightB l id = false ∨ cc < 0) (L0 : -9223372036854775808 ≤ l) (L1 : l ≤ 9223372036854775807) (A0 : -9223372036854775808 ≤ id) (A1 : id ≤ 9223372036854775807) (B0 : -9223372036854775808 ≤ cc) (B1 : cc ≤ 9223372036854775807) :
    Calls Try.prog 62 #[.agg #[.int .i64 l, .slice A n c], .int .i64 id, .int .i64 cc] w (StPostS l L 2 (.slice A n c) L w) := by
  have HN := Lib.hid h
  have HB0 := Lib.hid (below_two w (.cells #[.int .i64 l, .slice A n c] 48) (.cells #[.int .i64 0, .slice none 0 0] 48))
  clear h
  cases hr : rightB l id
  · clear hq
    go_enter Try.func62, Try.ntmps62
    go_wp2_with (go_at_call 60; refine (rright_any _ _ _ L0 L1 A0 A1).mono ?_; rintro e w1 ⟨rfl, rfl⟩)
    exact bodyPost_ret (v := .tuple #[.agg #[.int .i64 l, .slice A n c], .int .i64 2]) (by simp [results, Try.results62, go_sem]) rfl ⟨_, _, _, rfl, .inl ⟨rfl, rfl⟩, below_two ..⟩
  · have hc : cc < 0 := by rcases hq with g | g; rw [hr] at g; simp at g; exact g
    clear hq
    go_enter Try.func62, Try.ntmps62
    go_wp2_with (go_at_call 60; refine (rright_any _ _ _ L0 L1 A0 A1).mono ?_; rintro e w1 ⟨rfl, rfl⟩)
    exact bodyPost_ret (v := .tuple #[.agg #[.int .i64 l, .slice A n c], .int .i64 2]) (by simp [results, Try.results62, go_sem]) rfl ⟨_, _, _, rfl, .inl ⟨rfl, rfl⟩, below_two ..⟩
set_option maxHeartbeats 1600000 in
theorem rsAddN_full (l id cc : Int) (A : Option Addr) (n c : Nat) (L : List Nd) (w : World) (h : NodesAt w (.slice A n c) L) (hr : RollC l L) (hn : n ≤ 1000000) (hq : rightB l id = true) (hc : ¬ cc < 0) (hf : 72057594037927935 < sumC L + cc) (L0 : -9223372036854775808 ≤ l) (L1 : l ≤ 9223372036854775807) (A0 : -9223372036854775808 ≤ id) (A1 : id ≤ 9223372036854775807) (B0 : -9223372036854775808 ≤ cc) (B1 : cc ≤ 9223372036854775807) :
    Calls Try.prog 62 #[.agg #[.int .i64 l, .slice A n c], .int .i64 id, .int .i64 cc] w (StPostS l L 5 (.slice A n c) L w) := by
  have HN := Lib.hid h
  have HR := Lib.hid hr
  have s0 := sumC_nonneg hr.2.2.2.1
  have s1 := hr.2.2.2.2
  have HB0 := Lib.hid (below_two w (.cells #[.int .i64 l, .slice A n c] 48) (.cells #[.int .i64 0, .slice none 0 0] 48))
  have K0 := Lib.hid (k4_new w 48 48 (.int .i64 l) (.slice A n c) (.int .i64 0) (.slice none 0 0))
  clear h hr
  go_enter Try.func62, Try.ntmps62
  go_wp2_with (first | (go_at_call 60; refine (rright_any _ _ _ L0 L1 A0 A1).mono ?_; rintro e w1 ⟨rfl, rfl⟩) | (go_at_call 65; refine (rsTotal_any _ _ _ _ L _ (HN.out.below HB0.out) HR.out hn).mono ?_; rintro e w1 ⟨rfl, hb1⟩; obtain ⟨c0, c1, d0, d1, f0, f1, g0, g1, lt⟩ := K0.out.to hb1 (by simp); obtain ⟨q0, q1⟩ := set_two d0 d1))
  have hb2 : Below w.heap.size w w1 := HB0.out.trans (hb1.mono (by simp; omega))
  have hb3 := fun u u' => (hb2.setCell (p := ⟨w.heap.size + 1, 0, none⟩) (by simp) u).setCell (p := ⟨w.heap.size + 1, 1, none⟩) (by simp) u'
  exact bodyPost_ret (v := .tuple #[.agg #[.int .i64 l, .slice A n c], .int .i64 5]) (by simp [results, Try.results62, go_sem, q0, q1]) rfl ⟨_, _, _, rfl, .inl ⟨rfl, rfl⟩, hb3 _ _⟩
theorem rsAddN_any (l id cc : Int) (A : Option Addr) (n c : Nat) (L : List Nd) (w : World) (h : NodesAt w (.slice A n c) L) (hr : RollC l L) (hn : n ≤ 400000) (A0 : -9223372036854775808 ≤ id) (A1 : id ≤ 9223372036854775807) (B0 : -9223372036854775808 ≤ cc) (B1 : cc ≤ 9223372036854775807) :
    Calls Try.prog 62 #[.agg #[.int .i64 l, .slice A n c], .int .i64 id, .int .i64 cc] w (StPostS l (addS l L id cc) (addE l L id cc) (.slice A n c) L w) := by
  have hu : 1 ≤ l ∧ l ≤ 48 := of_decide_eq_true hr.1
  by_cases h1 : rightB l id = false ∨ cc < 0
  · rw [(add_arg h1).1, (add_arg h1).2]
    exact rsAddN_arg l id cc A n c L w h h1 (by omega) (by omega) A0 A1 B0 B1
  · have a : rightB l id = true := by cases q : rightB l id <;> simp [q] at h1 ⊢
    have b : ¬ cc < 0 := fun g => h1 (.inr g)
    by_cases h2 : 72057594037927935 < sumC L + cc
    · rw [(add_full a b h2).1, (add_full a b h2).2]
      exact rsAddN_full l id cc A n c L w h hr (by omega) a b h2 (by omega) (by omega) A0 A1 B0 B1
    · rw [(add_ok a b h2).1, (add_ok a b h2).2]
      refine (rsAdd_ok l id cc A n c L w h hr hn a b h2 (by omega) (by omega) A0 A1 B0 B1).mono fun e w' q => ?_
      obtain ⟨A2, m2, c2, e1, e2, e3, _⟩ := q
      exact ⟨A2, m2, c2, e1, .inr e2, e3⟩
set_option maxHeartbeats 3200000 in
theorem rsDoN_any (l k id cc : Int) (A : Option Addr) (n c : Nat) (L : List Nd) (w : World) (h : NodesAt w (.slice A n c) L) (hr : RollC l L) (hn : n ≤ 400000) (A0 : -9223372036854775808 ≤ id) (A1 : id ≤ 9223372036854775807) (B0 : -9223372036854775808 ≤ cc) (B1 : cc ≤ 9223372036854775807) :
    Calls Try.prog 25 #[.agg #[.int .i64 l, .slice A n c], .agg #[.int .i64 k, .int .i64 id, .int .i64 cc]] w (StPostS l (doW l L k id cc) (doN l L k id cc) (.slice A n c) L w) := by
  have HN := Lib.hid h
  have HR := Lib.hid hr
  have DB := Lib.hid (do_blocks w 48 36 (.int .i64 l) (.slice A n c) (.int .i64 k) (.int .i64 id) (.int .i64 cc))
  clear h hr
  by_cases h0 : k = 0
  · have H := Lib.hid (do_zero (l := l) (L := L) (id := id) (c := cc) h0)
    have h0' : (k == 0) = true := by simpa using h0
    clear h0
    go_enter Try.func25, Try.ntmps25
    go_wp2_with fail
    refine (rsAddN_any _ _ _ _ _ _ L _ (HN.out.below DB.out.1) HR.out hn A0 A1 B0 B1).mono ?_
    rintro e w1 ⟨A2, m2, c2, rfl, ho, hb1⟩
    have R1 := own_below DB.out.2.2.2 hb1
    have y0 := R1.cellAt 0 (by omega)
    have y1 := R1.cellAt 1 (by omega)
    have f0 := R1.frozenAt 0
    have f1 := R1.frozenAt 1
    simp only [List.getElem?_cons_zero, List.getElem?_cons_succ] at y0 y1
    obtain ⟨q0, q1⟩ := set_two y0 y1
    have OW := Lib.hid (fun u u' => ho.imp (fun q => q) (fun o => own_two o R1 (by decide) u u'))
    have hb2 : Hid (Below w.heap.size w w1) := DB.out.1.trans (hb1.mono DB.out.1.size)
    clear ho hb1 R1
    go_wp2_with fail
    exact bodyPost_ret (v := .tuple #[.agg #[.int .i64 l, .slice A2 m2 c2], .int .i64 (addE l L id cc)]) (by simp [results, Try.results25, go_sem, q0, q1]) rfl ⟨_, _, _, by rw [H.out.2], by rw [H.out.1]; exact OW.out _ _, (hb2.out.setCell (p := ⟨w.heap.size + 2, 0, none⟩) (by simp) _).setCell (p := ⟨w.heap.size + 2, 1, none⟩) (by simp) _⟩
  · by_cases h1 : k = 1
    · have H := Lib.hid (do_one (l := l) (L := L) (id := id) (c := cc) h0 h1)
      have h0' : (k == 0) = false := by simpa using h0
      have h1' : (k == 1) = true := by simpa using h1
      clear h0 h1
      go_enter Try.func25, Try.ntmps25
      go_wp2_with fail
      refine (rsTake_any (v0 := .slice A n c) _ _ _ _ _ L _ (HN.out.below DB.out.1) hn).mono ?_
      rintro e w1 ⟨A2, m2, c2, rfl, ho, hb1, _⟩
      have R1 := own_below DB.out.2.2.2 hb1
      have y0 := R1.cellAt 0 (by omega)
      have y1 := R1.cellAt 1 (by omega)
      have f0 := R1.frozenAt 0
      have f1 := R1.frozenAt 1
      simp only [List.getElem?_cons_zero, List.getElem?_cons_succ] at y0 y1
      obtain ⟨q0, q1⟩ := set_two y0 y1
      have OW := Lib.hid (own_two ho R1 (by decide))
      have hb2 : Hid (Below w.heap.size w w1) := DB.out.1.trans (hb1.mono DB.out.1.size)
      clear ho hb1 R1
      go_wp2_with fail
      exact bodyPost_ret (v := .tuple #[.agg #[.int .i64 l, .slice A2 m2 c2], .int .i64 (findN L id)]) (by simp [results, Try.results25, go_sem, q0, q1]) rfl ⟨_, _, _, by rw [H.out.2], by rw [H.out.1]; exact .inr (OW.out _ _), (hb2.out.setCell (p := ⟨w.heap.size + 2, 0, none⟩) (by simp) _).setCell (p := ⟨w.heap.size + 2, 1, none⟩) (by simp) _⟩
    · have H := Lib.hid (do_else (l := l) (L := L) (id := id) (c := cc) h0 h1)
      have h0' : (k == 0) = false := by simpa using h0
      have h1' : (k == 1) = false := by simpa using h1
      clear h0 h1
      go_enter Try.func25, Try.ntmps25
      go_wp2_with fail
      have D1 := DB.out.1
      have D2 := DB.out.2.1
      have D3 := DB.out.2.2.1
      have D4 := DB.out.2.2.2
      generalize ((w.alloc (.cells #[.int .i64 l, .slice A n c] 48)).alloc (.cells #[.int .i64 k, .int .i64 id, .int .i64 cc] 36)).alloc (.cells #[.int .i64 0, .slice none 0 0] 48) = W at *
      have b0 := D2.cellAt 0 (by omega)
      have b1 := D2.cellAt 1 (by omega)
      have b3 := D3.cellAt 1 (by omega)
      have HW := Lib.hid (HN.out.below D1)
      have HZ := Lib.hid (D4.lt _ rfl)
      have R4 := Lib.hid D4
      have BW := Lib.hid D1
      simp only [List.getElem?_cons_zero, List.getElem?_cons_succ] at b0 b1 b3
      have x0 := fun w1 (hb : Below W.heap.size W w1) => (hb.cell (p := ⟨w.heap.size, 0, none⟩) (D2.lt _ rfl).2).trans b0
      have x1 := fun w1 (hb : Below W.heap.size W w1) => (hb.cell (p := ⟨w.heap.size, 1, none⟩) (D2.lt _ rfl).2).trans b1
      have x3 := fun w1 (hb : Below W.heap.size W w1) => (hb.cell (p := ⟨w.heap.size + 1, 1, none⟩) (D3.lt _ rfl).2).trans b3
      have X0 := Lib.hid x0
      have X1 := Lib.hid x1
      have X3 := Lib.hid x3
      clear D1 D2 D3 D4 DB x0 x1 x3
      have hq0 : ∀ w1, Below W.heap.size W w1 → (∀ u, (w1.setCell ⟨w.heap.size + 2, 0, none⟩ u).cell? ⟨w.heap.size + 2, 0, none⟩ = some u) ∧ (∀ u u', ((w1.setCell ⟨w.heap.size + 2, 0, none⟩ u).setCell ⟨w.heap.size + 2, 1, none⟩ u').cell? ⟨w.heap.size + 2, 1, none⟩ = some u') ∧ w1.frozen? ⟨w.heap.size + 2, 0, none⟩ = false ∧ w1.frozen? ⟨w.heap.size + 2, 1, none⟩ = false ∧ w1.cell? ⟨w.heap.size + 2, 0, none⟩ = some (.int .i64 0) ∧ w1.cell? ⟨w.heap.size + 2, 1, none⟩ = some (.slice none 0 0) := fun w1 hb => by
        have R1 := own_below R4.out hb
        have y0 := R1.cellAt 0 (by omega)
        have y1 := R1.cellAt 1 (by omega)
        simp only [List.getElem?_cons_zero, List.getElem?_cons_succ] at y0 y1
        exact ⟨(set_two y0 y1).1, (set_two y0 y1).2, R1.frozenAt 0, R1.frozenAt 1, y0, y1⟩
      have HQ := Lib.hid hq0
      have hsS := fun w1 u u' => ((Below.refl (w.heap.size + 2) w1).setCell (p := ⟨w.heap.size + 2, 0, none⟩) (Nat.le_refl _) u).setCell (p := ⟨w.heap.size + 2, 1, none⟩) (Nat.le_refl _) u'
      clear hq0
      go_region_held3 (fun w' => w'.cell? ⟨w.heap.size, 0, none⟩ = some (.int .i64 l) ∧ w'.cell? ⟨w.heap.size, 1, none⟩ = some (.slice A n c) ∧ w'.cell? ⟨w.heap.size + 1, 1, none⟩ = some (.int .i64 id))
        (first | (exact ⟨X0.out _ hb1, X1.out _ hb1, X3.out _ hb1⟩) | (exact ⟨((hsS _ _ _).cell (p := ⟨w.heap.size, 0, none⟩) (by simp)).trans (X0.out _ hb1), ((hsS _ _ _).cell (p := ⟨w.heap.size, 1, none⟩) (by simp)).trans (X1.out _ hb1), ((hsS _ _ _).cell (p := ⟨w.heap.size + 1, 1, none⟩) (by simp)).trans (X3.out _ hb1)⟩) | (exact ⟨X0.out _ (below_drew _), X1.out _ (below_drew _), X3.out _ (below_drew _)⟩))
        (first | (go_at_call 64; refine (rsGet_any _ _ _ _ _ L _ (by exact HW.out) (by omega)).mono ?_; rintro e w1 ⟨rfl, hb1'⟩; have hb1 : Below W.heap.size W w1 := (below_drew W).trans hb1'; obtain ⟨q0, q1, f0, f1, y0, y1⟩ := HQ.out _ hb1))
      have R1 := own_below R4.out hb1
      have hb2 : Below w.heap.size w w1 := BW.out.trans (hb1.mono BW.out.size)
      go_wp2_with fail
      exact bodyPost_ret (v := .tuple #[.agg #[.int .i64 l, .slice A n c], .int .i64 (findN L id)]) (by simp [results, Try.results25, go_sem, q0, q1]) rfl ⟨_, _, _, by rw [H.out.2], .inl ⟨rfl, H.out.1⟩, (hb2.setCell (p := ⟨w.heap.size + 2, 0, none⟩) (by simp) _).setCell (p := ⟨w.heap.size + 2, 1, none⟩) (by simp) _⟩


end Go.Proofs.Ytomhikjohgiloaa
