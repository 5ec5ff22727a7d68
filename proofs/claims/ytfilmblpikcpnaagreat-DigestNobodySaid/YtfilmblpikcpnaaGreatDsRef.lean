/- The document's answers of package dewpondref07: Total, Get, Add, Take, Do. -/
import Derived.Test.YtfilmblpikcpnaaGreatMmy
import Derived.Test.YtfilmblpikcpnaaGreatK4
import Derived.Test.YtfilmblpikcpnaaGreatRoRef3
import Derived.Laws.AppendOwnNone
import Derived.WalkSpells
namespace Go.Proofs.YtfilmblpikcpnaaGreat
set_option linter.unusedVariables false
set_option maxRecDepth 100000
open Go.RowKit

/-- a slice is the one that came in, or lies in new memory -/
def NewB (v0 v : Value) (k : Nat) : Prop := v = v0 ∨ ∀ b, v.ownBlock = some b → k ≤ b
theorem newB_of {w : World} {base k : Nat} {e : TypeId} {size n : Nat} {v0 v : Value} {xs : List Value} (o : w.ownsRow base e size v n xs) (h : k ≤ base) : NewB v0 v k := .inr fun b hb => Nat.le_trans h (World.ownsRow.lt o b hb).1
theorem NewB.mono {v0 v : Value} {k k' : Nat} (h : NewB v0 v k) (hk : k' ≤ k) : NewB v0 v k' := h.imp id fun q b hb => Nat.le_trans hk (q b hb)
/-- a store handed out, and a number -/
def StPost (l : Int) (M : List Nd) (n : Int) (v0 : Value) (w : World) (e : Ending) (w' : World) : Prop :=
  ∃ A m c, e = .returned (.tuple #[.agg #[.int .i64 l, .slice A m c], .int .i64 n]) ∧ OwnNd 74 w' 0 (.slice A m c) M ∧ Below w.heap.size w w' ∧ NewB v0 (.slice A m c) w.heap.size
set_option maxHeartbeats 800000 in
theorem rsTotal_any (l : Int) (A : Option Addr) (n c : Nat) (L : List Nd) (w : World) (h : NodesAt w (.slice A n c) L) (hr : RollC l L) (hn : n ≤ 1000000) :
    Calls Tryz.prog 22 #[.agg #[.int .i64 l, .slice A n c]] w fun e w' => e = .returned (.int .i64 (sumC L)) ∧ Below w.heap.size w w' := by
  have HN := Lib.hid h
  have NB : Hid (NBds L) := nbds_roll hr
  have T := Lib.hid (tot_yes hr.2.2.2)
  clear h hr
  have hb0 : Below w.heap.size w (w.alloc (.cells #[.int .i64 l, .slice A n c] 34)) := (Below.refl _ _).alloc (Nat.le_refl _) _
  have HB0 := Lib.hid hb0
  clear hb0
  go_enter Tryz.func22, Tryz.ntmps22
  go_wp2_with (go_at_call 52; refine (rTotal_any _ _ _ L _ (HN.out.below HB0.out) NB.out hn).mono ?_; rintro e w1 ⟨rfl, hb1⟩)
  go_ret
  exact ⟨ret_i (by rw [T.out.1]), HB0.out.trans (hb1.mono (by simp))⟩
set_option maxHeartbeats 800000 in
theorem rsGet_any (l id : Int) (A : Option Addr) (n c : Nat) (L : List Nd) (w : World) (h : NodesAt w (.slice A n c) L) (hn : n ≤ 1000000) :
    Calls Tryz.prog 71 #[.agg #[.int .i64 l, .slice A n c], .int .i64 id] w fun e w' => e = .returned (.int .i64 (findN L id)) ∧ Below w.heap.size w w' := by
  have HN := Lib.hid h
  clear h
  have hb0 : Below w.heap.size w (w.alloc (.cells #[.int .i64 l, .slice A n c] 34)) := (Below.refl _ _).alloc (Nat.le_refl _) _
  have HB0 := Lib.hid hb0
  clear hb0
  go_enter Tryz.func71, Tryz.ntmps71
  go_wp2_with (go_at_call 104; refine (rFind_any _ _ _ L _ _ (HN.out.below HB0.out) hn).mono ?_; rintro e w1 ⟨rfl, hb1⟩)
  go_ret
  exact ⟨rfl, HB0.out.trans (hb1.mono (by simp))⟩
set_option maxHeartbeats 1600000 in
theorem rsAdd_arg (l id cc : Int) (A : Option Addr) (n c : Nat) (L : List Nd) (w : World) (h : OwnNd 74 w 0 (.slice A n c) L) (hq : rightB l id = false ∨ cc < 0) (L0 : -9223372036854775808 ≤ l) (L1 : l ≤ 9223372036854775807) (A0 : -9223372036854775808 ≤ id) (A1 : id ≤ 9223372036854775807) (B0 : -9223372036854775808 ≤ cc) (B1 : cc ≤ 9223372036854775807) :
    Calls Tryz.prog 72 #[.agg #[.int .i64 l, .slice A n c], .int .i64 id, .int .i64 cc] w (StPost l L 2 (.slice A n c) w) := by
  have HN := Lib.hid h
  have HB0 := Lib.hid (below_two w (.cells #[.int .i64 l, .slice A n c] 34) (.cells #[.int .i64 0, .slice none 0 0] 34))
  clear h
  cases hr : rightB l id
  · clear hq
    go_enter Tryz.func72, Tryz.ntmps72
    go_wp2_with (go_at_call 58; refine (rright_any _ _ _ L0 L1 A0 A1).mono ?_; rintro e w1 ⟨rfl, rfl⟩)
    exact bodyPost_ret (v := .tuple #[.agg #[.int .i64 l, .slice A n c], .int .i64 2]) (by simp [results, Tryz.results72, go_sem]) rfl ⟨_, _, _, rfl, own_below HN.out (below_two ..), below_two .., .inl rfl⟩
  · have hc : cc < 0 := by rcases hq with g | g; rw [hr] at g; simp at g; exact g
    clear hq
    go_enter Tryz.func72, Tryz.ntmps72
    go_wp2_with (go_at_call 58; refine (rright_any _ _ _ L0 L1 A0 A1).mono ?_; rintro e w1 ⟨rfl, rfl⟩)
    exact bodyPost_ret (v := .tuple #[.agg #[.int .i64 l, .slice A n c], .int .i64 2]) (by simp [results, Tryz.results72, go_sem]) rfl ⟨_, _, _, rfl, own_below HN.out (below_two ..), below_two .., .inl rfl⟩
set_option maxHeartbeats 1600000 in
theorem rsAdd_full (l id cc : Int) (A : Option Addr) (n c : Nat) (L : List Nd) (w : World) (h : OwnNd 74 w 0 (.slice A n c) L) (hr : RollC l L) (hn : n ≤ 1000000) (hq : rightB l id = true) (hc : ¬ cc < 0) (hf : 72057594037927935 < sumC L + cc) (L0 : -9223372036854775808 ≤ l) (L1 : l ≤ 9223372036854775807) (A0 : -9223372036854775808 ≤ id) (A1 : id ≤ 9223372036854775807) (B0 : -9223372036854775808 ≤ cc) (B1 : cc ≤ 9223372036854775807) :
    Calls Tryz.prog 72 #[.agg #[.int .i64 l, .slice A n c], .int .i64 id, .int .i64 cc] w (StPost l L 5 (.slice A n c) w) := by
  have HN := Lib.hid h
  have HR := Lib.hid hr
  have s0 := sumC_nonneg hr.2.2.2.1
  have s1 := hr.2.2.2.2
  have HB0 := Lib.hid (below_two w (.cells #[.int .i64 l, .slice A n c] 34) (.cells #[.int .i64 0, .slice none 0 0] 34))
  have K0 := Lib.hid (k4_new w 34 34 (.int .i64 l) (.slice A n c) (.int .i64 0) (.slice none 0 0))
  clear h hr
  go_enter Tryz.func72, Tryz.ntmps72
  go_wp2_with (first | (go_at_call 58; refine (rright_any _ _ _ L0 L1 A0 A1).mono ?_; rintro e w1 ⟨rfl, rfl⟩) | (go_at_call 22; refine (rsTotal_any _ _ _ _ L _ ((ownNd_nodes HN.out).below HB0.out) HR.out hn).mono ?_; rintro e w1 ⟨rfl, hb1⟩; obtain ⟨c0, c1, d0, d1, f0, f1, g0, g1, lt⟩ := K0.out.to hb1 (by simp); obtain ⟨q0, q1⟩ := set_two d0 d1))
  have hb2 : Below w.heap.size w w1 := HB0.out.trans (hb1.mono (by simp; omega))
  have hb3 := fun u u' => (hb2.setCell (p := ⟨w.heap.size + 1, 0, none⟩) (by simp) u).setCell (p := ⟨w.heap.size + 1, 1, none⟩) (by simp) u'
  exact bodyPost_ret (v := .tuple #[.agg #[.int .i64 l, .slice A n c], .int .i64 5]) (by simp [results, Tryz.results72, go_sem, q0, q1]) rfl ⟨_, _, _, rfl, own_below HN.out (hb3 _ _), hb3 _ _, .inl rfl⟩
/-- the list with one more is folded: it has so many weights -/
theorem fold_one_more {l id cc : Int} {L : List Nd} (hr : RollC l L) (hq : rightB l id = true) (hc : ¬ cc < 0) (hf : ¬ 72057594037927935 < sumC L + cc) : foldB (L ++ [(id, cc)]) = true := by
  refine foldC_iff.2 ⟨⟨fun n hn => ?_, ?_⟩, fun n hn => ?_⟩
  · rcases List.mem_append.1 hn with hn | hn
    · exact hr.2.2.2.1 n hn
    · simp at hn; subst hn; show 0 ≤ cc; omega
  · rw [sumC_app]; simp [sumC]; omega
  · rcases List.mem_append.1 hn with hn | hn
    · exact right_pos (hr.2.2.1 n hn).1
    · simp at hn; subst hn; exact right_pos hq
set_option maxHeartbeats 3200000 in
theorem rsAdd_ok (l id cc : Int) (A : Option Addr) (n c : Nat) (L : List Nd) (w : World) (h : NodesAt w (.slice A n c) L) (hr : RollC l L) (hn : n ≤ 400000) (hq : rightB l id = true) (hc : ¬ cc < 0) (hf : ¬ 72057594037927935 < sumC L + cc) (L0 : -9223372036854775808 ≤ l) (L1 : l ≤ 9223372036854775807) (A0 : -9223372036854775808 ≤ id) (A1 : id ≤ 9223372036854775807) (B0 : -9223372036854775808 ≤ cc) (B1 : cc ≤ 9223372036854775807) :
    Calls Tryz.prog 72 #[.agg #[.int .i64 l, .slice A n c], .int .i64 id, .int .i64 cc] w (StPost l (addW L id cc) 0 (.slice A n c) w) := by
  obtain ⟨i0, hi, hz0, hz1, hz2⟩ := info_parts node_info
  have HN := Lib.hid h
  have HR := Lib.hid hr
  have s0 := sumC_nonneg hr.2.2.2.1
  have s1 := hr.2.2.2.2
  have HL := Lib.hid (nodes_cells h).1
  have NL := Lib.hid (show (nods L).length = n * 2 by rw [nods_len, (nodes_cells h).1])
  have HF := Lib.hid (fold_one_more hr hq hc hf)
  have AW := Lib.hid (fun F (q : FoldOf (L ++ [(id, cc)]) F) => fold_addW (roll_good hr) (by omega) q)
  have NB : Hid (NBds (L ++ [(id, cc)])) := nbds_app (nbds_roll hr) fun m hm => by simp at hm; subst hm; exact ⟨⟨A0, A1⟩, B0, B1⟩
  have HB0 := Lib.hid (below_two w (.cells #[.int .i64 l, .slice A n c] 34) (.cells #[.int .i64 0, .slice none 0 0] 34))
  have K0 := Lib.hid (k4_new w 34 34 (.int .i64 l) (.slice A n c) (.int .i64 0) (.slice none 0 0))
  clear h hr
  cases A with
  | none =>
    obtain ⟨rfl, rfl, rfl⟩ := nodes_none HN.out
    go_enter Tryz.func72, Tryz.ntmps72
    go_wp2_with (go_at_call 58; refine (rright_any _ _ _ L0 L1 A0 A1).mono ?_; rintro e w1 ⟨rfl, rfl⟩)
    refine (rsTotal_any _ _ _ _ _ _ (HN.out.below HB0.out) HR.out (by omega)).mono ?_
    rintro e w1 ⟨rfl, hb1⟩
    obtain ⟨c0, c1, d0, d1, f0, f1, g0, g1, lt⟩ := K0.out.to hb1 (by simp)
    have own0 := ownNd_nil 74 w1 (w.heap.size + 2)
    go_wp2_with (first | (at_builtin; refine wpList_append_own_none rfl (.tmp 25) (.tmp 27) 32 rfl (w.heap.size + 2) 74 i0 2 Tryz.underlying32 hi _ 0 [] rfl own0 rfl ?_) | (at_builtin; refine wpList_append_own _ rfl (.tmp 30) (.tmp 34) 32 rfl (w.heap.size + 2) 74 i0 (.agg #[.int .i64 0, .int .i64 0]) 2 16 Tryz.underlying32 hi hz0 hz1 hz2 rfl (by decide) _ 0 [] rfl (World.ownsRow.alloc own0 _) ⟨w1.heap.size, 0, none⟩ 1 1 [.int .i64 id, .int .i64 cc] rfl rfl (two_new _ _ _ _ _ (by simp)) (two_cell _ _) (by unfold maxLen; omega) (by omega) (by simp; omega) ?_))
    intro v3 w3 hown3 hgrow3 _
    have hb3 : Below (w.heap.size + 2) w1 w3 := ((Below.refl _ _).alloc (by omega) _).grown hgrow3 (by simp; omega) (fun g hg => (World.ownsRow.lt own0 g hg).1)
    have OW3 : Hid (OwnNd 74 w3 (w.heap.size + 2) v3 ([] ++ [(id, cc)])) := ownNd_snoc hown3
    have k3 := Lib.hid ((K0.out.to hb1 (by simp)).to hb3 (by omega))
    have hz3 := hb3.size
    obtain ⟨A4, m4, c4, rfl⟩ := ownNd_slice OW3.out
    have hm4 : m4 ≤ 1000000 := by have := (nodes_cells (ownNd_nodes OW3.out)).1; have := HL.out; simp at *; omega
    clear hown3 hgrow3 c0 c1 d0 d1 f0 f1 g0 g1
    go_wp2_with fail
    refine ((rFold_own _ _ _ _ _ (ownNd_nodes OW3.out) NB.out hm4).mono (fun _ _ q => foldO_is_yes HF.out q)).mono ?_
    rintro e w4 ⟨F, A5, c5, rfl, hF, hown5, hb4⟩
    obtain rfl := AW.out F hF
    have hz4 := hb4.size
    obtain ⟨m5, hm5⟩ : ∃ m, m = (addW [] id cc).length := ⟨_, rfl⟩
    rw [← hm5] at hown5 ⊢
    have k4 := k3.out.to hb4 (by omega)
    obtain ⟨x0, x1, y0, y1, _, _, _, _, _⟩ := k4.set1 (.slice A5 m5 c5)
    obtain ⟨c0, c1, d0, d1, f0, f1, g0, g1, lt⟩ := k4
    obtain ⟨q0, q1⟩ := set_two y0 y1
    have OW5 := Lib.hid hown5
    have hb5 : Hid (Below w.heap.size w w4) := (HB0.out.trans (hb1.mono (by simp; omega))).trans ((hb3.mono (by omega)).trans (hb4.mono (by omega)))
    clear hown5 hm5 hF
    go_wp2_with fail
    have hb6 := fun u u' u'' => ((hb5.out.setCell (p := ⟨w.heap.size, 1, none⟩) (by simp) u).setCell (p := ⟨w.heap.size + 1, 0, none⟩) (by simp) u').setCell (p := ⟨w.heap.size + 1, 1, none⟩) (by simp) u''
    have OW6 := fun u u' u'' => ownsRow_setCell_below (ownsRow_setCell_below (ownsRow_setCell_below OW5.out (a := ⟨w.heap.size, 1, none⟩) (by show w.heap.size < w3.heap.size; omega) u) (a := ⟨w.heap.size + 1, 0, none⟩) (by show w.heap.size + 1 < w3.heap.size; omega) u') (a := ⟨w.heap.size + 1, 1, none⟩) (by show w.heap.size + 1 < w3.heap.size; omega) u''
    exact bodyPost_ret (v := .tuple #[.agg #[.int .i64 l, .slice A5 m5 c5], .int .i64 0]) (by simp [results, Tryz.results72, go_sem, q0, q1]) rfl ⟨_, _, _, rfl, own_low (OW6 _ _ _) (Nat.zero_le _), hb6 _ _ _, newB_of OW5.out (by omega)⟩
  | some a =>
    have AT := Lib.hid (nodes_cells HN.out).2.2.2
    go_enter Tryz.func72, Tryz.ntmps72
    go_wp2_with (go_at_call 58; refine (rright_any _ _ _ L0 L1 A0 A1).mono ?_; rintro e w1 ⟨rfl, rfl⟩)
    refine (rsTotal_any _ _ _ _ _ _ (HN.out.below HB0.out) HR.out (by omega)).mono ?_
    rintro e w1 ⟨rfl, hb1⟩
    obtain ⟨c0, c1, d0, d1, f0, f1, g0, g1, lt⟩ := K0.out.to hb1 (by simp)
    have own0 := ownNd_nil 74 w1 (w.heap.size + 2)
    have HW1 : Hid (Below w.heap.size w w1) := HB0.out.trans (hb1.mono (by simp; omega))
    go_wp2_with (at_builtin; refine wpList_append_own _ rfl (.tmp 25) (.tmp 27) 32 rfl (w.heap.size + 2) 74 i0 (.agg #[.int .i64 0, .int .i64 0]) 2 16 Tryz.underlying32 hi hz0 hz1 hz2 rfl (by decide) _ 0 [] rfl own0 a n c (nods L) rfl NL.out (AT.out.news HW1.out) (nods_one L) (by unfold maxLen; omega) (by omega) (by omega) ?_)
    intro v2 w2 hown2 hgrow2 _
    have hb2 : Below (w.heap.size + 2) w1 w2 := (Below.refl _ _).grown hgrow2 (by omega) (fun g hg => by simp [Value.ownBlock] at hg)
    have OW2 : Hid (w2.ownsRow (w.heap.size + 2) 74 2 v2 n (nods L)) := by show World.ownsRow _ _ _ _ _ _ _; simpa using hown2
    have k2 := Lib.hid ((K0.out.to hb1 (by simp)).to hb2 (by omega))
    have hzw := hb2.size
    obtain ⟨A3, m3, c3, rfl⟩ := ownNd_slice OW2.out
    clear hown2 hgrow2 c0 c1 d0 d1 f0 f1 g0 g1 own0
    go_wp2_with (at_builtin; refine wpList_append_own _ rfl (.tmp 30) (.tmp 34) 32 rfl (w.heap.size + 2) 74 i0 (.agg #[.int .i64 0, .int .i64 0]) 2 16 Tryz.underlying32 hi hz0 hz1 hz2 rfl (by decide) (.slice A3 m3 c3) n (nods L) rfl (World.ownsRow.alloc OW2.out _) ⟨w2.heap.size, 0, none⟩ 1 1 [.int .i64 id, .int .i64 cc] rfl rfl (two_new _ _ _ _ _ (by simp)) (two_cell _ _) (by unfold maxLen; omega) (by omega) (by simp; omega) ?_)
    intro v3 w3 hown3 hgrow3 _
    have hb3 : Below (w.heap.size + 2) w1 w3 := ((hb2.alloc (by omega) _).grown hgrow3 (by simp; omega) (fun g hg => (World.ownsRow.lt OW2.out g hg).1))
    have OW3 : Hid (OwnNd 74 w3 (w.heap.size + 2) v3 (L ++ [(id, cc)])) := ownNd_snoc (by rw [← HL.out]; exact hown3)
    have k3 := Lib.hid ((K0.out.to hb1 (by simp)).to hb3 (by omega))
    have hz3 := hb3.size
    obtain ⟨A4, m4, c4, rfl⟩ := ownNd_slice OW3.out
    have hm4 : m4 ≤ 1000000 := by have := (nodes_cells (ownNd_nodes OW3.out)).1; have := HL.out; simp at *; omega
    clear hown3 hgrow3
    go_wp2_with fail
    refine ((rFold_own _ _ _ _ _ (ownNd_nodes OW3.out) NB.out hm4).mono (fun _ _ q => foldO_is_yes HF.out q)).mono ?_
    rintro e w4 ⟨F, A5, c5, rfl, hF, hown5, hb4⟩
    obtain rfl := AW.out F hF
    have hz4 := hb4.size
    obtain ⟨m5, hm5⟩ : ∃ m, m = (addW L id cc).length := ⟨_, rfl⟩
    rw [← hm5] at hown5 ⊢
    have k4 := k3.out.to hb4 (by omega)
    obtain ⟨x0, x1, y0, y1, _, _, _, _, _⟩ := k4.set1 (.slice A5 m5 c5)
    obtain ⟨c0, c1, d0, d1, f0, f1, g0, g1, lt⟩ := k4
    obtain ⟨q0, q1⟩ := set_two y0 y1
    have OW5 := Lib.hid hown5
    have hb5 : Hid (Below w.heap.size w w4) := (HB0.out.trans (hb1.mono (by simp; omega))).trans ((hb3.mono (by omega)).trans (hb4.mono (by omega)))
    clear hown5 hm5 hF
    go_wp2_with fail
    have hb6 := fun u u' u'' => ((hb5.out.setCell (p := ⟨w.heap.size, 1, none⟩) (by simp) u).setCell (p := ⟨w.heap.size + 1, 0, none⟩) (by simp) u').setCell (p := ⟨w.heap.size + 1, 1, none⟩) (by simp) u''
    have OW6 := fun u u' u'' => ownsRow_setCell_below (ownsRow_setCell_below (ownsRow_setCell_below OW5.out (a := ⟨w.heap.size, 1, none⟩) (by show w.heap.size < w3.heap.size; omega) u) (a := ⟨w.heap.size + 1, 0, none⟩) (by show w.heap.size + 1 < w3.heap.size; omega) u') (a := ⟨w.heap.size + 1, 1, none⟩) (by show w.heap.size + 1 < w3.heap.size; omega) u''
    exact bodyPost_ret (v := .tuple #[.agg #[.int .i64 l, .slice A5 m5 c5], .int .i64 0]) (by simp [results, Tryz.results72, go_sem, q0, q1]) rfl ⟨_, _, _, rfl, own_low (OW6 _ _ _) (Nat.zero_le _), hb6 _ _ _, newB_of OW5.out (by omega)⟩
theorem rsAdd_any (l id cc : Int) (A : Option Addr) (n c : Nat) (L : List Nd) (w : World) (h : OwnNd 74 w 0 (.slice A n c) L) (hr : RollC l L) (hn : n ≤ 400000) (A0 : -9223372036854775808 ≤ id) (A1 : id ≤ 9223372036854775807) (B0 : -9223372036854775808 ≤ cc) (B1 : cc ≤ 9223372036854775807) :
    Calls Tryz.prog 72 #[.agg #[.int .i64 l, .slice A n c], .int .i64 id, .int .i64 cc] w (StPost l (addS l L id cc) (addE l L id cc) (.slice A n c) w) := by
  have hu : 1 ≤ l ∧ l ≤ 48 := of_decide_eq_true hr.1
  by_cases h1 : rightB l id = false ∨ cc < 0
  · rw [(add_arg h1).1, (add_arg h1).2]
    exact rsAdd_arg l id cc A n c L w h h1 (by omega) (by omega) A0 A1 B0 B1
  · have a : rightB l id = true := by cases q : rightB l id <;> simp [q] at h1 ⊢
    have b : ¬ cc < 0 := fun g => h1 (.inr g)
    by_cases h2 : 72057594037927935 < sumC L + cc
    · rw [(add_full a b h2).1, (add_full a b h2).2]
      exact rsAdd_full l id cc A n c L w h hr (by omega) a b h2 (by omega) (by omega) A0 A1 B0 B1
    · rw [(add_ok a b h2).1, (add_ok a b h2).2]
      exact rsAdd_ok l id cc A n c L w (ownNd_nodes h) hr hn a b h2 (by omega) (by omega) A0 A1 B0 B1

end Go.Proofs.YtfilmblpikcpnaaGreat
