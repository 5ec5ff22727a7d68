/- The document's answers of package dewpondref06: Join. -/
import Derived.Test.YtmcbfoimgefaoaaGreatRrQ
namespace Go.Proofs.YtmcbfoimgefaoaaGreat
set_option linter.unusedVariables false
open Go.RowKit

set_option maxHeartbeats 3200000 in
theorem rJoin_own (A1 A2 : Option Addr) (n1 c1 n2 c2 : Nat) (L M : List Nd) (w : World) (h1 : NodesAt w (.slice A1 n1 c1) L) (h2 : NodesAt w (.slice A2 n2 c2) M) (hB1 : NBds L) (hB2 : NBds M) (hn1 : n1 ≤ 400000) (hn2 : n2 ≤ 400000) :
    Calls Tryz.prog 40 #[.slice A1 n1 c1, .slice A2 n2 c2] w (FoldOwn 79 (L ++ M) w) := by
  obtain ⟨i0, hi, hz0, hz1, hz2⟩ := info_parts node_info
  have HB := Lib.hid (nbds_app hB1 hB2)
  have H1 := Lib.hid h1
  have H2 := Lib.hid h2
  have HL := Lib.hid (nodes_cells h1).1
  have HM := Lib.hid (nodes_cells h2).1
  have NL := Lib.hid (show (nods L).length = n1 * 2 by rw [nods_len, (nodes_cells h1).1])
  have NM := Lib.hid (show (nods M).length = n2 * 2 by rw [nods_len, (nodes_cells h2).1])
  have hl4 : (L ++ M).length ≤ 1000000 := by rw [List.length_append]; have := (nodes_cells h1).1; have := (nodes_cells h2).1; omega
  have HL4 := Lib.hid hl4
  have own0 := ownNd_nil 79 w w.heap.size
  clear h1 h2 hB1 hB2 hl4
  cases hf : foldB (L ++ M)
  · have HF := Lib.hid hf
    clear hf
    cases A1 with
    | none =>
      obtain ⟨rfl, rfl, rfl⟩ := nodes_none H1.out
      cases A2 with
      | none =>
        obtain ⟨rfl, rfl, rfl⟩ := nodes_none H2.out
        go_enter Tryz.func40, Tryz.ntmps40
        have OW2 : Hid (OwnNd 79 w w.heap.size (.slice none 0 0) ([] ++ [])) := own0
        have hm4 : 0 ≤ 1000000 := by omega
        have hb2 := Below.refl w.heap.size w
        go_wp2_with (first | (at_builtin; refine wpList_append_own_none rfl (.tmp 7) (.tmp 8) 33 rfl w.heap.size 79 i0 2 Tryz.underlying33 hi _ 0 [] rfl own0 rfl ?_) | (at_builtin; refine wpList_append_own_none rfl (.tmp 10) (.tmp 11) 33 rfl w.heap.size 79 i0 2 Tryz.underlying33 hi _ 0 [] rfl own0 rfl ?_) | (go_at_call 74; refine ((rFold_any _ _ _ _ _ (ownNd_nodes OW2.out) HB.out hm4).mono (fun _ _ q => fold_is_no HF.out q)).mono ?_; rintro e w9 ⟨rfl, hb9⟩))
        go_ret2
        exact .inl ⟨HF.out, rfl, hb2.trans (hb9.mono hb2.size)⟩
      | some a2 =>
        have AT2 := Lib.hid (nodes_cells H2.out).2.2.2
        go_enter Tryz.func40, Tryz.ntmps40
        go_wp2_with (first | (at_builtin; refine wpList_append_own_none rfl (.tmp 7) (.tmp 8) 33 rfl w.heap.size 79 i0 2 Tryz.underlying33 hi _ 0 [] rfl own0 rfl ?_) | (at_builtin; refine wpList_append_own _ rfl (.tmp 10) (.tmp 11) 33 rfl w.heap.size 79 i0 (.agg #[.int .i64 0, .int .i64 0]) 2 16 Tryz.underlying33 hi hz0 hz1 hz2 rfl (by decide) _ 0 [] rfl own0 a2 n2 c2 (nods M) rfl NM.out (AT2.out.news (Below.refl ..)) (nods_one M) (by unfold maxLen; omega) (by omega) (Nat.le_refl _) ?_))
        intro v2 w2 hown2 hgrow2 _
        have hb2 : Below w.heap.size w w2 := (Below.refl _ _).grown hgrow2 (Nat.le_refl _) (fun g hg => by simp [Value.ownBlock] at hg)
        have OW2 : Hid (OwnNd 79 w2 w.heap.size v2 ([] ++ M)) := by show OwnNd _ _ _ _ _; have q := hown2; rw [HM.out] at q; simpa [OwnNd] using q
        obtain ⟨A4, m4, c4, rfl⟩ := ownNd_slice OW2.out
        have hm4 : m4 ≤ 1000000 := by have := (nodes_cells (ownNd_nodes OW2.out)).1; have := HL4.out; omega
        clear hown2 hgrow2
        go_wp2_with (go_at_call 74; refine ((rFold_any _ _ _ _ _ (ownNd_nodes OW2.out) HB.out hm4).mono (fun _ _ q => fold_is_no HF.out q)).mono ?_; rintro e w9 ⟨rfl, hb9⟩)
        go_ret2
        exact .inl ⟨HF.out, rfl, hb2.trans (hb9.mono hb2.size)⟩
    | some a1 =>
      have AT1 := Lib.hid (nodes_cells H1.out).2.2.2
      cases A2 with
      | none =>
        obtain ⟨rfl, rfl, rfl⟩ := nodes_none H2.out
        go_enter Tryz.func40, Tryz.ntmps40
        go_wp2_with (at_builtin; refine wpList_append_own _ rfl (.tmp 7) (.tmp 8) 33 rfl w.heap.size 79 i0 (.agg #[.int .i64 0, .int .i64 0]) 2 16 Tryz.underlying33 hi hz0 hz1 hz2 rfl (by decide) _ 0 [] rfl own0 a1 n1 c1 (nods L) rfl NL.out (AT1.out.news (Below.refl ..)) (nods_one L) (by unfold maxLen; omega) (by omega) (Nat.le_refl _) ?_)
        intro v1 w1 hown1 hgrow1 _
        have hb1 : Below w.heap.size w w1 := (Below.refl _ _).grown hgrow1 (Nat.le_refl _) (fun g hg => by simp [Value.ownBlock] at hg)
        obtain ⟨A3, m3, c3, rfl⟩ := ownNd_slice hown1
        have OW1 : Hid (w1.ownsRow w.heap.size 79 2 (.slice A3 m3 c3) n1 (nods L)) := by show World.ownsRow _ _ _ _ _ _ _; simpa using hown1
        clear hown1 hgrow1 own0
        have OW2 : Hid (OwnNd 79 w1 w.heap.size (.slice A3 m3 c3) (L ++ [])) := by show OwnNd _ _ _ _ _; rw [List.append_nil]; have q := OW1.out; rw [HL.out] at q; exact q
        have hm4 : m3 ≤ 1000000 := by have := (nodes_cells (ownNd_nodes OW2.out)).1; have := HL4.out; omega
        have hb2 := hb1
        go_wp2_with (first | (at_builtin; refine wpList_append_own_none rfl (.tmp 10) (.tmp 11) 33 rfl w.heap.size 79 i0 2 Tryz.underlying33 hi (.slice A3 m3 c3) n1 (nods L) rfl OW1.out rfl ?_) | (go_at_call 74; refine ((rFold_any _ _ _ _ _ (ownNd_nodes OW2.out) HB.out hm4).mono (fun _ _ q => fold_is_no HF.out q)).mono ?_; rintro e w9 ⟨rfl, hb9⟩))
        go_ret2
        exact .inl ⟨HF.out, rfl, hb2.trans (hb9.mono hb2.size)⟩
      | some a2 =>
        have AT2 := Lib.hid (nodes_cells H2.out).2.2.2
        go_enter Tryz.func40, Tryz.ntmps40
        go_wp2_with (at_builtin; refine wpList_append_own _ rfl (.tmp 7) (.tmp 8) 33 rfl w.heap.size 79 i0 (.agg #[.int .i64 0, .int .i64 0]) 2 16 Tryz.underlying33 hi hz0 hz1 hz2 rfl (by decide) _ 0 [] rfl own0 a1 n1 c1 (nods L) rfl NL.out (AT1.out.news (Below.refl ..)) (nods_one L) (by unfold maxLen; omega) (by omega) (Nat.le_refl _) ?_)
        intro v1 w1 hown1 hgrow1 _
        have hb1 : Below w.heap.size w w1 := (Below.refl _ _).grown hgrow1 (Nat.le_refl _) (fun g hg => by simp [Value.ownBlock] at hg)
        obtain ⟨A3, m3, c3, rfl⟩ := ownNd_slice hown1
        have OW1 : Hid (w1.ownsRow w.heap.size 79 2 (.slice A3 m3 c3) n1 (nods L)) := by show World.ownsRow _ _ _ _ _ _ _; simpa using hown1
        clear hown1 hgrow1 own0
        go_wp2_with (at_builtin; refine wpList_append_own _ rfl (.tmp 10) (.tmp 11) 33 rfl w.heap.size 79 i0 (.agg #[.int .i64 0, .int .i64 0]) 2 16 Tryz.underlying33 hi hz0 hz1 hz2 rfl (by decide) (.slice A3 m3 c3) n1 (nods L) rfl OW1.out a2 n2 c2 (nods M) rfl NM.out (AT2.out.news hb1) (nods_one M) (by unfold maxLen; omega) (by omega) hb1.size ?_)
        intro v2 w2 hown2 hgrow2 _
        have hb2 : Below w.heap.size w w2 := hb1.grown hgrow2 hb1.size (fun g hg => (World.ownsRow.lt OW1.out g hg).1)
        have OW2 : Hid (OwnNd 79 w2 w.heap.size v2 (L ++ M)) := by show OwnNd _ _ _ _ _; have q := hown2; rw [HL.out, HM.out] at q; exact ownNd_app q
        obtain ⟨A4, m4, c4, rfl⟩ := ownNd_slice OW2.out
        have hm4 : m4 ≤ 1000000 := by have := (nodes_cells (ownNd_nodes OW2.out)).1; have := HL4.out; omega
        clear hown2 hgrow2
        go_wp2_with (go_at_call 74; refine ((rFold_any _ _ _ _ _ (ownNd_nodes OW2.out) HB.out hm4).mono (fun _ _ q => fold_is_no HF.out q)).mono ?_; rintro e w9 ⟨rfl, hb9⟩)
        go_ret2
        exact .inl ⟨HF.out, rfl, hb2.trans (hb9.mono hb2.size)⟩
  · have HF := Lib.hid hf
    clear hf
    cases A1 with
    | none =>
      obtain ⟨rfl, rfl, rfl⟩ := nodes_none H1.out
      cases A2 with
      | none =>
        obtain ⟨rfl, rfl, rfl⟩ := nodes_none H2.out
        go_enter Tryz.func40, Tryz.ntmps40
        have OW2 : Hid (OwnNd 79 w w.heap.size (.slice none 0 0) ([] ++ [])) := own0
        have hm4 : 0 ≤ 1000000 := by omega
        have hb2 := Below.refl w.heap.size w
        go_wp2_with (first | (at_builtin; refine wpList_append_own_none rfl (.tmp 7) (.tmp 8) 33 rfl w.heap.size 79 i0 2 Tryz.underlying33 hi _ 0 [] rfl own0 rfl ?_) | (at_builtin; refine wpList_append_own_none rfl (.tmp 10) (.tmp 11) 33 rfl w.heap.size 79 i0 2 Tryz.underlying33 hi _ 0 [] rfl own0 rfl ?_) | (go_at_call 74; refine ((rFold_own _ _ _ _ _ (ownNd_nodes OW2.out) HB.out hm4).mono (fun _ _ q => foldO_is_yes HF.out q)).mono ?_; rintro e w9 ⟨F, A9, c9, rfl, hF, hn, hb9⟩))
        go_ret2
        exact .inr ⟨HF.out, F, A9, c9, rfl, hF, own_low hn hb2.size, hb2.trans (hb9.mono hb2.size)⟩
      | some a2 =>
        have AT2 := Lib.hid (nodes_cells H2.out).2.2.2
        go_enter Tryz.func40, Tryz.ntmps40
        go_wp2_with (first | (at_builtin; refine wpList_append_own_none rfl (.tmp 7) (.tmp 8) 33 rfl w.heap.size 79 i0 2 Tryz.underlying33 hi _ 0 [] rfl own0 rfl ?_) | (at_builtin; refine wpList_append_own _ rfl (.tmp 10) (.tmp 11) 33 rfl w.heap.size 79 i0 (.agg #[.int .i64 0, .int .i64 0]) 2 16 Tryz.underlying33 hi hz0 hz1 hz2 rfl (by decide) _ 0 [] rfl own0 a2 n2 c2 (nods M) rfl NM.out (AT2.out.news (Below.refl ..)) (nods_one M) (by unfold maxLen; omega) (by omega) (Nat.le_refl _) ?_))
        intro v2 w2 hown2 hgrow2 _
        have hb2 : Below w.heap.size w w2 := (Below.refl _ _).grown hgrow2 (Nat.le_refl _) (fun g hg => by simp [Value.ownBlock] at hg)
        have OW2 : Hid (OwnNd 79 w2 w.heap.size v2 ([] ++ M)) := by show OwnNd _ _ _ _ _; have q := hown2; rw [HM.out] at q; simpa [OwnNd] using q
        obtain ⟨A4, m4, c4, rfl⟩ := ownNd_slice OW2.out
        have hm4 : m4 ≤ 1000000 := by have := (nodes_cells (ownNd_nodes OW2.out)).1; have := HL4.out; omega
        clear hown2 hgrow2
        go_wp2_with (go_at_call 74; refine ((rFold_own _ _ _ _ _ (ownNd_nodes OW2.out) HB.out hm4).mono (fun _ _ q => foldO_is_yes HF.out q)).mono ?_; rintro e w9 ⟨F, A9, c9, rfl, hF, hn, hb9⟩)
        go_ret2
        exact .inr ⟨HF.out, F, A9, c9, rfl, hF, own_low hn hb2.size, hb2.trans (hb9.mono hb2.size)⟩
    | some a1 =>
      have AT1 := Lib.hid (nodes_cells H1.out).2.2.2
      cases A2 with
      | none =>
        obtain ⟨rfl, rfl, rfl⟩ := nodes_none H2.out
        go_enter Tryz.func40, Tryz.ntmps40
        go_wp2_with (at_builtin; refine wpList_append_own _ rfl (.tmp 7) (.tmp 8) 33 rfl w.heap.size 79 i0 (.agg #[.int .i64 0, .int .i64 0]) 2 16 Tryz.underlying33 hi hz0 hz1 hz2 rfl (by decide) _ 0 [] rfl own0 a1 n1 c1 (nods L) rfl NL.out (AT1.out.news (Below.refl ..)) (nods_one L) (by unfold maxLen; omega) (by omega) (Nat.le_refl _) ?_)
        intro v1 w1 hown1 hgrow1 _
        have hb1 : Below w.heap.size w w1 := (Below.refl _ _).grown hgrow1 (Nat.le_refl _) (fun g hg => by simp [Value.ownBlock] at hg)
        obtain ⟨A3, m3, c3, rfl⟩ := ownNd_slice hown1
        have OW1 : Hid (w1.ownsRow w.heap.size 79 2 (.slice A3 m3 c3) n1 (nods L)) := by show World.ownsRow _ _ _ _ _ _ _; simpa using hown1
        clear hown1 hgrow1 own0
        have OW2 : Hid (OwnNd 79 w1 w.heap.size (.slice A3 m3 c3) (L ++ [])) := by show OwnNd _ _ _ _ _; rw [List.append_nil]; have q := OW1.out; rw [HL.out] at q; exact q
        have hm4 : m3 ≤ 1000000 := by have := (nodes_cells (ownNd_nodes OW2.out)).1; have := HL4.out; omega
        have hb2 := hb1
        go_wp2_with (first | (at_builtin; refine wpList_append_own_none rfl (.tmp 10) (.tmp 11) 33 rfl w.heap.size 79 i0 2 Tryz.underlying33 hi (.slice A3 m3 c3) n1 (nods L) rfl OW1.out rfl ?_) | (go_at_call 74; refine ((rFold_own _ _ _ _ _ (ownNd_nodes OW2.out) HB.out hm4).mono (fun _ _ q => foldO_is_yes HF.out q)).mono ?_; rintro e w9 ⟨F, A9, c9, rfl, hF, hn, hb9⟩))
        go_ret2
        exact .inr ⟨HF.out, F, A9, c9, rfl, hF, own_low hn hb2.size, hb2.trans (hb9.mono hb2.size)⟩
      | some a2 =>
        have AT2 := Lib.hid (nodes_cells H2.out).2.2.2
        go_enter Tryz.func40, Tryz.ntmps40
        go_wp2_with (at_builtin; refine wpList_append_own _ rfl (.tmp 7) (.tmp 8) 33 rfl w.heap.size 79 i0 (.agg #[.int .i64 0, .int .i64 0]) 2 16 Tryz.underlying33 hi hz0 hz1 hz2 rfl (by decide) _ 0 [] rfl own0 a1 n1 c1 (nods L) rfl NL.out (AT1.out.news (Below.refl ..)) (nods_one L) (by unfold maxLen; omega) (by omega) (Nat.le_refl _) ?_)
        intro v1 w1 hown1 hgrow1 _
        have hb1 : Below w.heap.size w w1 := (Below.refl _ _).grown hgrow1 (Nat.le_refl _) (fun g hg => by simp [Value.ownBlock] at hg)
        obtain ⟨A3, m3, c3, rfl⟩ := ownNd_slice hown1
        have OW1 : Hid (w1.ownsRow w.heap.size 79 2 (.slice A3 m3 c3) n1 (nods L)) := by show World.ownsRow _ _ _ _ _ _ _; simpa using hown1
        clear hown1 hgrow1 own0
        go_wp2_with (at_builtin; refine wpList_append_own _ rfl (.tmp 10) (.tmp 11) 33 rfl w.heap.size 79 i0 (.agg #[.int .i64 0, .int .i64 0]) 2 16 Tryz.underlying33 hi hz0 hz1 hz2 rfl (by decide) (.slice A3 m3 c3) n1 (nods L) rfl OW1.out a2 n2 c2 (nods M) rfl NM.out (AT2.out.news hb1) (nods_one M) (by unfold maxLen; omega) (by omega) hb1.size ?_)
        intro v2 w2 hown2 hgrow2 _
        have hb2 : Below w.heap.size w w2 := hb1.grown hgrow2 hb1.size (fun g hg => (World.ownsRow.lt OW1.out g hg).1)
        have OW2 : Hid (OwnNd 79 w2 w.heap.size v2 (L ++ M)) := by show OwnNd _ _ _ _ _; have q := hown2; rw [HL.out, HM.out] at q; exact ownNd_app q
        obtain ⟨A4, m4, c4, rfl⟩ := ownNd_slice OW2.out
        have hm4 : m4 ≤ 1000000 := by have := (nodes_cells (ownNd_nodes OW2.out)).1; have := HL4.out; omega
        clear hown2 hgrow2
        go_wp2_with (go_at_call 74; refine ((rFold_own _ _ _ _ _ (ownNd_nodes OW2.out) HB.out hm4).mono (fun _ _ q => foldO_is_yes HF.out q)).mono ?_; rintro e w9 ⟨F, A9, c9, rfl, hF, hn, hb9⟩)
        go_ret2
        exact .inr ⟨HF.out, F, A9, c9, rfl, hF, own_low hn hb2.size, hb2.trans (hb9.mono hb2.size)⟩
theorem rJoin_any (A1 A2 : Option Addr) (n1 c1 n2 c2 : Nat) (L M : List Nd) (w : World) (h1 : NodesAt w (.slice A1 n1 c1) L) (h2 : NodesAt w (.slice A2 n2 c2) M) (hB1 : NBds L) (hB2 : NBds M) (hn1 : n1 ≤ 400000) (hn2 : n2 ≤ 400000) :
    Calls Tryz.prog 40 #[.slice A1 n1 c1, .slice A2 n2 c2] w (FoldPost (L ++ M) w) :=
  (rJoin_own A1 A2 n1 c1 n2 c2 L M w h1 h2 hB1 hB2 hn1 hn2).mono fun _ _ q => q.post

end Go.Proofs.YtmcbfoimgefaoaaGreat
