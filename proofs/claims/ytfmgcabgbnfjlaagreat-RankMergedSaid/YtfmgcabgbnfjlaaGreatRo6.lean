/- The project's package roll: Join; slices.Grow and slices.Concat at nodes. -/
import Derived.Test.YtfmgcabgbnfjlaaGreatRoQ
import Derived.Lib.AppendZeros
namespace Go.Proofs.YtfmgcabgbnfjlaaGreat
set_option linter.unusedVariables false
set_option maxRecDepth 100000
open Go.RowKit

set_option maxHeartbeats 1600000 in
theorem grow_any (x : Int) (w : World) (h0 : 0 ≤ x) (h1 : x ≤ 2000000) :
    Calls Tryz.prog 116 #[.slice none 0 0, .int .i64 x] w fun e w' => ∃ v, e = .returned v ∧ OwnNd 84 w' w.heap.size v [] ∧ Below w.heap.size w w' := by
  obtain ⟨n, rfl⟩ := Int.eq_ofNat_of_zero_le h0
  obtain ⟨i0, hi, hz0, hz1, hz2⟩ := info_parts node_info
  clear h0
  rcases Nat.eq_zero_or_pos n with h | h
  · subst h
    go_enter Tryz.func116, Tryz.ntmps116
    go_wp2_with fail
    go_ret
    exact ⟨_, rfl, ownNd_nil .., Below.refl ..⟩
  · have hrz := Lib.run_append_nil_zeros (P := Tryz.prog) w 24 3 24 84 i0 (.agg #[.int .i64 0, .int .i64 0]) .i64 .i64 Tryz.underlying24 Tryz.underlying3 hi hz0 n h (by rw [hz1]; omega) (by omega) (by rw [hz2]; omega)
    have hrz' : (Builtin.append_ #[24, 3] 24 #[.slice none 0 0, .int .i64 (n : Int)]).run Tryz.prog w = .ok (.slice (some ⟨w.heap.size, 0, none⟩) n (grownCap w n 0 84)) (w.drew.alloc (.cells (Builtin.zeroCells (Value.cells (.agg #[.int .i64 0, .int .i64 0])) n ++ Builtin.zeroCells (Value.cells (.agg #[.int .i64 0, .int .i64 0])) (grownCap w n 0 84 - n)) 84)) := hrz
    have HR := Lib.hid hrz'
    have hcap := grownCap_ge w n 0 84
    have hcm := grownCap_le_maxLen w n 0 84 (by unfold maxLen; omega)
    have HO := Lib.hid (World.ownsRow_made (base := w.heap.size) (e := 84) (size := 2) w.drew (Builtin.zeroCells (Value.cells (.agg #[.int .i64 0, .int .i64 0])) n ++ Builtin.zeroCells (Value.cells (.agg #[.int .i64 0, .int .i64 0])) (grownCap w n 0 84 - n)) (grownCap w n 0 84) (Nat.le_refl _) hcm (by
      rw [Array.size_append, size_zeroCells, size_zeroCells]
      have e : (Value.cells (.agg #[.int .i64 0, .int .i64 0])).size = 2 := rfl
      rw [e]
      omega))
    have hs0 := sl_to (P := Tryz.prog) Tryz.underlying24 hi hz1 none 0 0 0 (Nat.le_refl _)
    clear hrz hrz'
    generalize (Builtin.zeroCells (Value.cells (.agg #[.int .i64 0, .int .i64 0])) n ++ Builtin.zeroCells (Value.cells (.agg #[.int .i64 0, .int .i64 0])) (grownCap w n 0 84 - n)) = Z at *
    generalize grownCap w n 0 84 = cap at *
    have hs1 := sl_to (P := Tryz.prog) Tryz.underlying24 hi hz1 (some ⟨w.heap.size, 0, none⟩) n cap 0 (Nat.zero_le _)
    go_enter Tryz.func116, Tryz.ntmps116
    go_wp2_with (at_builtin; refine Lib.wpList_append_run _ rfl _ _ _ _ rfl _ _ rfl rfl _ _ HR.out ?_)
    go_ret
    exact ⟨_, rfl, HO.out, ((Below.refl _ _).drew).alloc (Nat.le_refl _) _⟩
set_option maxHeartbeats 3200000 in
theorem concat_any (N : Nat) (A1 A2 : Option Addr) (n1 c1 n2 c2 : Nat) (L M : List Nd) (w : World) (h1 : NodesAt w (.slice A1 n1 c1) L) (h2 : NodesAt w (.slice A2 n2 c2) M) (hn1 : n1 ≤ 1000000) (hn2 : n2 ≤ 1000000)
    (e0 : w.cell? ⟨N, 0, none⟩ = some (.slice A1 n1 c1)) (e1 : w.cell? ⟨N, 1, none⟩ = some (.slice A2 n2 c2)) :
    Calls Tryz.prog 80 #[.slice (some ⟨N, 0, none⟩) 2 2] w (RowPost (L ++ M) w) := by
  obtain ⟨i0, hi, hz0, hz1, hz2⟩ := info_parts node_info
  have HL := Lib.hid (nodes_cells h1).1
  have HM := Lib.hid (nodes_cells h2).1
  have H1 := Lib.hid h1
  have H2 := Lib.hid h2
  have NL := Lib.hid (show (nods L).length = n1 * 2 by rw [nods_len, (nodes_cells h1).1])
  have NM := Lib.hid (show (nods M).length = n2 * 2 by rw [nods_len, (nodes_cells h2).1])
  have hL2 : L.length ≤ 1000000 := by rw [← (nodes_cells h1).1]; exact hn1
  have hN := World.block_lt_of_cell? w _ e0
  dsimp only at hN
  clear h1 h2
  go_enter Tryz.func80, Tryz.ntmps80
  go_wp2_with fail
  go_loop [3, 11] (fun s i => (i = .int .i64 0 ∧ s = .int .i64 0) ∨ (i = .int .i64 1 ∧ s = .int .i64 (n1 : Int)) ∨ (i = .int .i64 2 ∧ s = .int .i64 ((n1 : Int) + (n2 : Int)))) (fun _ i => 2 - (intOf i).toNat)
  case atStart => exact .inl ⟨rfl, rfl⟩
  case round =>
    rcases hrel with ⟨rfl, rfl⟩ | ⟨rfl, rfl⟩ | ⟨rfl, rfl⟩
    · go_wp2_with fail
      go_round
      case rel => exact .inr (.inl ⟨rfl, rfl⟩)
      case measure => simp [intOf]
    · go_wp2_with fail
      go_round
      case rel => exact .inr (.inr ⟨rfl, rfl⟩)
      case measure => simp [intOf]
    · go_wp2_with fail
      refine (grow_any _ _ (by omega) (by omega)).mono ?_
      rintro e w1 ⟨v, rfl, hown0, hb0⟩
      go_wp2_with fail
      go_loopw [6, 27] (fun v i wr => ∃ X, OwnNd 84 wr w.heap.size v X ∧ Below w.heap.size w wr ∧ ((i = .int .i64 0 ∧ [] = X) ∨ (i = .int .i64 1 ∧ L = X) ∨ (i = .int .i64 2 ∧ L ++ M = X))) (fun _ i _ => 2 - (intOf i).toNat)
      case atStart => exact ⟨[], hown0, hb0, .inl ⟨rfl, rfl⟩⟩
      case round =>
        rename_i wr
        obtain ⟨X, hown, hb, hcase⟩ := hrel
        have f0 := (hb.cell (p := ⟨N, 0, none⟩) hN).trans e0
        have f1 := (hb.cell (p := ⟨N, 1, none⟩) hN).trans e1
        rcases hcase with ⟨rfl, rfl⟩ | ⟨rfl, rfl⟩ | ⟨rfl, rfl⟩
        · have OWN := Lib.hid hown
          clear hown hown0
          cases A1 with
          | none =>
            have hnn := nodes_none H1.out
            rw [hnn.1, hnn.2.1] at f0
            clear hnn
            obtain ⟨A3, m3, c3, rfl⟩ := ownNd_slice OWN.out
            go_wp2_with (at_builtin; refine wpList_append_own_none rfl (.tmp 31) (.tmp 32) 24 rfl w.heap.size 84 i0 2 Tryz.underlying24 hi _ 0 [] rfl OWN.out rfl ?_)
            go_roundw
            case rel => exact ⟨L, by have q := OWN.out; rw [(nodes_none H1.out).2.2]; exact q, hb, .inr (.inl ⟨rfl, rfl⟩)⟩
            case measure => simp [intOf]
          | some a1 =>
            have AT1 := Lib.hid (nodes_cells H1.out).2.2.2
            obtain ⟨A3, m3, c3, rfl⟩ := ownNd_slice OWN.out
            go_wp2_with (at_builtin; refine wpList_append_own _ rfl (.tmp 31) (.tmp 32) 24 rfl w.heap.size 84 i0 (.agg #[.int .i64 0, .int .i64 0]) 2 16 Tryz.underlying24 hi hz0 hz1 hz2 rfl (by decide) _ 0 [] rfl OWN.out a1 n1 c1 (nods L) rfl NL.out (AT1.out.news hb) (nods_one L) (by unfold maxLen; omega) (by omega) hb.size ?_)
            intro v' w3 hown2 hgrow _
            have hb3 : Below w.heap.size w w3 := hb.grown hgrow hb.size (fun g hg => (World.ownsRow.lt OWN.out g hg).1)
            have HO2 : Hid (OwnNd 84 w3 w.heap.size v' (L)) := by have q := hown2; rw [HL.out] at q; show OwnNd _ _ _ _ _; simpa [OwnNd] using q
            clear hown2 hgrow
            go_wp2_with fail
            go_roundw
            case rel => exact ⟨L, HO2.out, hb3, .inr (.inl ⟨rfl, rfl⟩)⟩
            case measure => simp [intOf]
        · have OWN := Lib.hid hown
          clear hown hown0
          cases A2 with
          | none =>
            have hnn := nodes_none H2.out
            rw [hnn.1, hnn.2.1] at f1
            clear hnn
            obtain ⟨A3, m3, c3, rfl⟩ := ownNd_slice OWN.out
            go_wp2_with (at_builtin; refine wpList_append_own_none rfl (.tmp 31) (.tmp 32) 24 rfl w.heap.size 84 i0 2 Tryz.underlying24 hi _ L.length (nods L) rfl OWN.out rfl ?_)
            go_roundw
            case rel => exact ⟨L ++ M, by have q := OWN.out; rw [(nodes_none H2.out).2.2, List.append_nil]; exact q, hb, .inr (.inr ⟨rfl, rfl⟩)⟩
            case measure => simp [intOf]
          | some a2 =>
            have AT2 := Lib.hid (nodes_cells H2.out).2.2.2
            obtain ⟨A3, m3, c3, rfl⟩ := ownNd_slice OWN.out
            go_wp2_with (at_builtin; refine wpList_append_own _ rfl (.tmp 31) (.tmp 32) 24 rfl w.heap.size 84 i0 (.agg #[.int .i64 0, .int .i64 0]) 2 16 Tryz.underlying24 hi hz0 hz1 hz2 rfl (by decide) _ L.length (nods L) rfl OWN.out a2 n2 c2 (nods M) rfl NM.out (AT2.out.news hb) (nods_one M) (by unfold maxLen; omega) (by omega) hb.size ?_)
            intro v' w3 hown2 hgrow _
            have hb3 : Below w.heap.size w w3 := hb.grown hgrow hb.size (fun g hg => (World.ownsRow.lt OWN.out g hg).1)
            have HO2 : Hid (OwnNd 84 w3 w.heap.size v' (L ++ M)) := by have q := hown2; rw [HM.out] at q; exact ownNd_app q
            clear hown2 hgrow
            go_wp2_with fail
            go_roundw
            case rel => exact ⟨L ++ M, HO2.out, hb3, .inr (.inr ⟨rfl, rfl⟩)⟩
            case measure => simp [intOf]
        · have HR := Lib.hid (ownNd_nodes hown)
          clear hown hown0
          go_wp2_with fail
          go_ret
          exact ⟨_, rfl, HR.out, hb⟩
set_option maxHeartbeats 1600000 in
theorem join_any (A1 A2 : Option Addr) (n1 c1 n2 c2 : Nat) (L M : List Nd) (w : World) (h1 : NodesAt w (.slice A1 n1 c1) L) (h2 : NodesAt w (.slice A2 n2 c2) M) (hB1 : NBds L) (hB2 : NBds M) (hn1 : n1 ≤ 400000) (hn2 : n2 ≤ 400000) :
    Calls Tryz.prog 45 #[.slice A1 n1 c1, .slice A2 n2 c2] w (FoldPost (L ++ M) w) := by
  have H1 := Lib.hid (h1.below (w' := w.alloc (.cells #[.slice A1 n1 c1, .slice A2 n2 c2] 24)) ((Below.refl _ _).alloc (Nat.le_refl _) _))
  have H2 := Lib.hid (h2.below (w' := w.alloc (.cells #[.slice A1 n1 c1, .slice A2 n2 c2] 24)) ((Below.refl _ _).alloc (Nat.le_refl _) _))
  have HB := Lib.hid (nbds_app hB1 hB2)
  have hlen : Hid ((L ++ M).length ≤ 1000000) := by show _ ≤ _; rw [List.length_append]; have := (nodes_cells h1).1; have := (nodes_cells h2).1; omega
  clear h1 h2 hB1 hB2
  cases hf : foldB (L ++ M)
  · have HF := Lib.hid hf
    clear hf
    go_enter Tryz.func45, Tryz.ntmps45
    go_wp2_with (first
      | (go_at_call 80; refine (concat_any w.heap.size _ _ _ _ _ _ L M _ H1.out H2.out (by omega) (by omega) (by simp) (by simp)).mono ?_; rintro e w1 ⟨v, rfl, hv, hb1⟩; have HV := Lib.hid hv; obtain ⟨A3, c3, rfl, _⟩ := hv; obtain ⟨m, hm⟩ : ∃ m, m = (L ++ M).length := ⟨_, rfl⟩; rw [← hm] at HV ⊢; have hm2 : m ≤ 1000000 := (by rw [hm]; exact hlen.out); clear hm)
      | (go_at_call 79; refine ((fold_any _ _ _ _ _ HV.out HB.out hm2).mono (fun _ _ q => fold_is_no HF.out q)).mono ?_; rintro e w2 ⟨rfl, hb2⟩))
    have hbb : Below w.heap.size w w2 := (((Below.refl _ _).alloc (Nat.le_refl _) _).trans (hb1.mono (by simp))).trans (hb2.mono (by have := hb1.size; simp at this; omega))
    go_ret2
    exact .inl ⟨HF.out, rfl, hbb⟩
  · have HF := Lib.hid hf
    clear hf
    go_enter Tryz.func45, Tryz.ntmps45
    go_wp2_with (first
      | (go_at_call 80; refine (concat_any w.heap.size _ _ _ _ _ _ L M _ H1.out H2.out (by omega) (by omega) (by simp) (by simp)).mono ?_; rintro e w1 ⟨v, rfl, hv, hb1⟩; have HV := Lib.hid hv; obtain ⟨A3, c3, rfl, _⟩ := hv; obtain ⟨m, hm⟩ : ∃ m, m = (L ++ M).length := ⟨_, rfl⟩; rw [← hm] at HV ⊢; have hm2 : m ≤ 1000000 := (by rw [hm]; exact hlen.out); clear hm)
      | (go_at_call 79; refine ((fold_any _ _ _ _ _ HV.out HB.out hm2).mono (fun _ _ q => fold_is_yes HF.out q)).mono ?_; rintro e w2 ⟨F, A4, c4, rfl, hF, hn, hb2⟩))
    have hbb : Below w.heap.size w w2 := (((Below.refl _ _).alloc (Nat.le_refl _) _).trans (hb1.mono (by simp))).trans (hb2.mono (by have := hb1.size; simp at this; omega))
    go_ret2
    exact .inr ⟨HF.out, F, A4, c4, rfl, hF, hn, hbb⟩

end Go.Proofs.YtfmgcabgbnfjlaaGreat
