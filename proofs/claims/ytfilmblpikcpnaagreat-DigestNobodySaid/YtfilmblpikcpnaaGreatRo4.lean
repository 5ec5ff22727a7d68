/- The project's package roll: lists put in order by merging: inOrder, Sorted. -/
import Derived.Test.YtfilmblpikcpnaaGreatRo3
namespace Go.Proofs.YtfilmblpikcpnaaGreat
set_option linter.unusedVariables false
open Go.RowKit
attribute [local go_sem ↓] Go.wp_at_zero Go.wp_at_succ

/-- what a call that puts a list in order leaves -/
def OrdPost (L : List Nd) (w : World) (e : Ending) (w' : World) : Prop :=
  ∃ S A c, e = .returned (.slice A (List.length S) c) ∧ Srt idA L S ∧ NodesAt w' (.slice A S.length c) S ∧ (0 < S.length → ∃ a, A = some a) ∧ Below w.heap.size w w'
theorem ord_of {L S : List Nd} {w w' : World} {e : Ending} (h : RowPost S w e w') (hs : Srt idA L S) : OrdPost L w e w' := by
  obtain ⟨v, rfl, hn, hb⟩ := h
  have hf := hn
  obtain ⟨A, c, rfl, _, _, _, hat⟩ := hn
  exact ⟨S, A, c, rfl, hs, hf, fun h0 => by obtain ⟨b, o, e, _⟩ := hat h0; exact ⟨_, e⟩, hb⟩
/-- .. in a row of its own -/
def OrdOwn (L : List Nd) (w : World) (e : Ending) (w' : World) : Prop :=
  ∃ S A c, e = .returned (.slice A (List.length S) c) ∧ Srt idA L S ∧ OwnNd 74 w' w.heap.size (.slice A S.length c) S ∧ (0 < S.length → ∃ a, A = some a) ∧ Below w.heap.size w w'
theorem ordOwn_of {L S : List Nd} {w w' : World} {e : Ending} (h : RowOwn S w e w') (hs : Srt idA L S) : OrdOwn L w e w' := by
  obtain ⟨v, rfl, ho, hb⟩ := h
  have hn := ownNd_nodes ho
  obtain ⟨A, c, rfl, _, _, _, hat⟩ := hn
  exact ⟨S, A, c, rfl, hs, ho, fun h0 => by obtain ⟨b, o, e, _⟩ := hat h0; exact ⟨_, e⟩, hb⟩
theorem ord_post {L : List Nd} {w w' : World} {e : Ending} (h : OrdOwn L w e w') : OrdPost L w e w' := by
  obtain ⟨S, A, c, a1, a2, a3, a4, a5⟩ := h
  exact ⟨S, A, c, a1, a2, ownNd_nodes a3, a4, a5⟩
theorem nodes_cut {w : World} {a : Addr} {n c k : Nat} {L : List Nd} (h : NodesAt w (.slice (some a) n c) L) (hk : k ≤ n) :
    NodesAt w (.slice (some a) k c) (L.take k) ∧ NodesAt w (.slice (some (advA a c k 2)) (n - k) (c - k)) (L.drop k) := by
  obtain ⟨hl, hlc, hcm, hat⟩ := nodes_cells h
  refine ⟨⟨_, c, by rw [List.length_take, Nat.min_eq_left (by omega)], by rw [List.length_take]; omega, hcm, fun e => by simp at e, hat.take⟩, ⟨_, c - k, by rw [List.length_drop, hl], by rw [List.length_drop]; omega, by omega, fun e => by simp at e, hat.adv hlc⟩⟩
set_option maxHeartbeats 3200000 in
set_option maxRecDepth 100000 in
theorem inOrder_own (k : Nat) : ∀ (A : Option Addr) (n c : Nat) (L : List Nd) (w : World), n ≤ k → NodesAt w (.slice A n c) L → n ≤ 1000000 →
    Calls Tryz.prog 130 #[.slice A n c, .func (.func 131) #[] #[]] w (OrdOwn L w) := by
  induction k with
  | zero =>
    intro A n c L w hk h hn
    have HN := Lib.hid h
    have hs := Lib.hid (Srt.small idA (L := L) (by rw [← (nodes_cells h).1]; omega))
    clear h
    go_enter Tryz.func130, Tryz.ntmps130
    go_wp2_with (go_at_call 147; refine (cloneNd_own _ _ _ _ _ HN.out hn).mono ?_; rintro e w1 ⟨v, rfl, hv, hb⟩)
    go_ret
    exact ordOwn_of ⟨v, rfl, hv, hb⟩ hs.out
  | succ k ih =>
    intro A n c L w hk h hn
    have HN := Lib.hid h
    by_cases h2 : n < 2
    · have hs := Lib.hid (Srt.small idA (L := L) (by rw [← (nodes_cells h).1]; omega))
      clear h ih
      go_enter Tryz.func130, Tryz.ntmps130
      go_wp2_with (go_at_call 147; refine (cloneNd_own _ _ _ _ _ HN.out hn).mono ?_; rintro e w1 ⟨v, rfl, hv, hb⟩)
      go_ret
      exact ordOwn_of ⟨v, rfl, hv, hb⟩ hs.out
    · obtain ⟨hl, hlc, hcm, hat⟩ := nodes_cells h
      obtain ⟨b, o, rfl, _⟩ := hat (by omega)
      obtain ⟨i0, hi, hz0, hz1, hz2⟩ := info_parts node_info
      have IH := Lib.hid ih
      have hc := Lib.hid (nodes_cut h (k := n / 2) (by omega))
      have e2 : ((n / 2 : Nat) : Int) = (n : Int) / 2 := by omega
      have hsa := sl_to (P := Tryz.prog) Tryz.underlying32 hi hz1 (some ⟨b, o, none⟩) n c (n / 2) (by omega)
      have hsb := sl_from (P := Tryz.prog) Tryz.underlying32 hi hz1 ⟨b, o, none⟩ n c (n / 2) (by omega)
      rw [e2] at hsa hsb
      have l1 : Hid ((L.take (n / 2)).length = n / 2) := by show _ = _; rw [List.length_take]; omega
      have l2 : Hid ((L.drop (n / 2)).length = n - n / 2) := by show _ = _; rw [List.length_drop]; omega
      clear h ih hl hat e2
      have hb0 := Lib.hid (Below.refl w.heap.size w)
      go_enter Tryz.func130, Tryz.ntmps130
      go_wp2_with fail
      go_region_held3 (fun w' => Below w.heap.size w w')
        (first | (exact below_drew _) | (exact Below.trans (by assumption) (Below.mono (by assumption) (Below.size (by assumption)))))
        (first
          | ((with_reducible refine (IH.out _ _ _ _ _ (by omega) (hc.out.1.below (by assumption)) (by omega)).mono ?_); rintro e w1 ⟨S1, A1, c1, rfl, hs1, ho1, hA1, hb1⟩; have hn1 := ownNd_nodes ho1; obtain ⟨a1, rfl⟩ := hA1 (by rw [hs1.len, l1.out]; omega); have z1 : S1.length ≤ 1000000 := by (rw [hs1.len, l1.out]; omega))
          | ((with_reducible refine (IH.out _ _ _ _ _ (by omega) (hc.out.2.below (by assumption)) (by omega)).mono ?_); rintro e w2 ⟨S2, A2, c2, rfl, hs2, ho2, hA2, hb2⟩; have hn2 := ownNd_nodes ho2; obtain ⟨a2, rfl⟩ := hA2 (by rw [hs2.len, l2.out]; omega); have z2 : S2.length ≤ 1000000 := by (rw [hs2.len, l2.out]; omega))
          | (go_at_call 148; refine (merge_own a1 a2 _ _ _ _ S1 S2 _ (by first | exact hn1 | exact hn1.below hb2) (by first | exact hn2 | exact hn2.below hb1) z1 z2).mono ?_; rintro e w3 ⟨v3, rfl, hn3, hb3⟩))
      all_goals
        go_wp2_with fail
        go_ret
        exact ordOwn_of ⟨v3, rfl, own_low hn3 (by first | exact Nat.le_trans (show w.heap.size ≤ w1.heap.size from hb1.size) hb2.size | exact Nat.le_trans (show w.heap.size ≤ w2.heap.size from hb2.size) hb1.size), by assumption⟩ (srt_mrg_cut idA_ahd (n / 2) hs1 hs2)
set_option maxHeartbeats 400000 in
set_option maxRecDepth 100000 in
theorem sorted_own (A : Option Addr) (n c : Nat) (L : List Nd) (w : World) (h : NodesAt w (.slice A n c) L) (hn : n ≤ 1000000) :
    Calls Tryz.prog 113 #[.slice A n c] w (OrdOwn L w) := by
  have H := Lib.hid h
  clear h
  go_enter Tryz.func113, Tryz.ntmps113
  go_wp2_with (go_at_call 130; refine (inOrder_own n _ _ _ _ _ (Nat.le_refl _) H.out hn).mono ?_; rintro e w1 ⟨S1, A1, c1, rfl, hs1, hn1, hA1, hb1⟩)
  go_ret
  exact ⟨S1, A1, c1, rfl, hs1, hn1, hA1, hb1⟩
theorem sorted_any (A : Option Addr) (n c : Nat) (L : List Nd) (w : World) (h : NodesAt w (.slice A n c) L) (hn : n ≤ 1000000) :
    Calls Tryz.prog 113 #[.slice A n c] w (OrdPost L w) := (sorted_own A n c L w h hn).mono fun _ _ q => ord_post q

end Go.Proofs.YtfilmblpikcpnaaGreat
