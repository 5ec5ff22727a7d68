/- The document's answers of package dewpondref06: Fold, Join. -/
import Derived.Test.YtfilmblpikcpnaaGreatRoRef2
import Derived.Test.YtfilmblpikcpnaaGreatRo5
namespace Go.Proofs.YtfilmblpikcpnaaGreat
set_option linter.unusedVariables false
open Go.RowKit

set_option maxHeartbeats 6400000 in
set_option maxRecDepth 100000 in
theorem rFold_own (A : Option Addr) (n c : Nat) (L : List Nd) (w : World) (h : NodesAt w (.slice A n c) L) (hB : NBds L) (hn : n ≤ 1000000) :
    Calls Tryz.prog 105 #[.slice A n c] w (FoldOwn 74 L w) := by
  have HN := Lib.hid h
  have HB := Lib.hid hB
  have hlen := Lib.hid (nodes_cells h).1
  clear h hB
  obtain ⟨i0, hi, hz0, hz1, hz2⟩ := info_parts node_info
  cases ht : totB L
  · go_enter Tryz.func105, Tryz.ntmps105
    go_wp2_with (go_at_call 52; refine (rTotal_any _ _ _ _ _ HN.out HB.out hn).mono ?_; rintro e w1 ⟨rfl, hb1⟩)
    go_ret2
    exact foldO_none (fold_tot ht) hb1
  · have HT := Lib.hid (totC_iff.1 ht)
    go_enter Tryz.func105, Tryz.ntmps105
    go_wp2_with (first
      | (go_at_call 52; refine (rTotal_any _ _ _ _ _ HN.out HB.out hn).mono ?_; rintro e w1 ⟨rfl, hb1⟩)
      | (go_at_call 128; refine (rSorted_any _ _ _ _ _ (HN.out.below hb1) hn).mono ?_; rintro e w2 ⟨S, A1, c1, rfl, hs, hnS, hA1, hb2⟩; have HS := Lib.hid hs; have hmn : S.length ≤ n := (by rw [hs.len, ← hlen.out]; omega); obtain ⟨m, hm⟩ : ∃ m, m = S.length := ⟨_, rfl⟩; rw [← hm] at hmn hnS ⊢; have HM := Lib.hid hm; have HC := Lib.hid (nodes_cells hnS).2.2.2; have hb12 : Below w.heap.size w w2 := hb1.trans (hb2.mono hb1.size); clear hs hm hnS hA1))
    have TT := Lib.hid ht
    have NB := Lib.hid (nbds_perm HS.out.perm HB.out)
    clear ht
    go_loopw [7, 8] (fun v i wr => ∃ k : Nat, k ≤ m ∧ i = .int .i64 k ∧ OwnNd 74 wr w2.heap.size v (foldN (S.take k)) ∧ (∀ q ∈ S.take k, 1 ≤ q.1) ∧ Below w2.heap.size w2 wr) (fun _ i _ => m - (intOf i).toNat)
    case atStart => exact ⟨0, by omega, rfl, ownNd_nil .., fun q h => by simp at h, Below.refl ..⟩
    case round =>
      rename_i wr
      obtain ⟨k, hk, rfl, hown, hids, hb⟩ := hrel
      have ID := Lib.hid hids
      have hz12 := hb12.size
      have hzr := hb.size
      clear hids
      by_cases hlt : k < m
      · have hk2 : k < S.length := by have := HM.out; omega
        obtain ⟨b, o, rfl, hin⟩ := HC.out (by have := HM.out; omega)
        obtain ⟨e0, e1⟩ := (hin.below hb hin.1).2 k hk2
        have hbd := nbds_at NB.out hk2
        obtain ⟨⟨b0, b1⟩, b2, b3⟩ := hbd
        have hbl := hin.1
        have FS := Lib.hid (fold_next hk2)
        have IS := Lib.hid (fun q => ids_next hk2 ID.out q)
        have IN := Lib.hid (fun q => ids_stop HS.out hk2 q)
        have FR := Lib.hid (fun P y q => fold_room (P := P) (y := y) HS.out hk2 HT.out q)
        have hfl := fold_len HS.out (show k ≤ S.length by omega) HT.out
        clear hin
        generalize S.getD k nz = r at *
        obtain ⟨id, x⟩ := r
        simp only at e0 e1 b0 b1 b2 b3
        generalize foldN (S.take k) = F at *
        by_cases q0 : id < 1
        · have NO := Lib.hid (IN.out q0)
          go_wp2_with fail
          go_ret2
          exact foldO_none NO.out (hb12.trans (hb.mono hz12))
        · have ID2 := Lib.hid (IS.out (by show 1 ≤ id; omega))
          clear IS IN
          by_cases q1 : x = 0
          · have q1' : (x == 0) = true := by simpa using q1
            have FZ := Lib.hid (FS.out.trans (add_zero q1))
            obtain ⟨A3, m3, c3, rfl⟩ := ownNd_slice hown
            have HO := Lib.hid hown
            clear q1 hown FR FS
            go_wp2_with fail
            go_roundw
            case rel => exact ⟨k + 1, by omega, by go_num, by rw [FZ.out]; exact HO.out, ID2.out, hb⟩
            case measure => simp [intOf]; omega
          · have q1' : (x == 0) = false := by simpa using q1
            have Q1 := Lib.hid q1
            clear q1
            rcases nd_cases F with rfl | ⟨P, ⟨y1, y2⟩, rfl⟩
            · have FZ := Lib.hid (FS.out.trans (add_nil Q1.out))
              rcases ownNd_form hown with ⟨rfl, _⟩ | ⟨g, cap, rfl, hBg, hgw, hgn, _⟩
              all_goals
                have HO : Hid (wr.ownsRow w2.heap.size 74 2 _ 0 []) := hown
                clear hown FR FS
                go_wp2_with fail
                go_quiet (fail)
                go_wp2_with (at_builtin; refine wpList_append_own _ rfl _ _ 32 rfl w2.heap.size 74 i0 (.agg #[.int .i64 0, .int .i64 0]) 2 16 Tryz.underlying32 hi hz0 hz1 hz2 rfl (by decide) _ 0 [] rfl (World.ownsRow.alloc HO.out _) ⟨wr.heap.size, 0, none⟩ 1 1 [.int .i64 id, .int .i64 x] rfl rfl (two_new _ _ _ _ _ (by simp)) (two_cell _ _) (by unfold maxLen; omega) (by omega) (by simp; omega) ?_)
                intro v' w3 hown2 hgrow _
                have hb3 : Below w2.heap.size w2 w3 := ((drewN_below hb _).alloc (by simp; omega) _).grown hgrow (by simp; omega) (fun g hg => (World.ownsRow.lt HO.out g hg).1)
                have HO2 := Lib.hid (ownNd_snoc (L := []) hown2)
                clear hown2 hgrow
                go_wp2_with fail
                go_roundw
                case rel => exact ⟨k + 1, by omega, by go_num, by rw [FZ.out]; exact HO2.out, ID2.out, hb3⟩
                case measure => simp [intOf]; omega
            · obtain ⟨g, cap, rfl, hBg, hgw, hgn, c0, c1', cf⟩ := ownNd_last hown
              have HO : Hid (wr.ownsRow w2.heap.size 74 2 (.slice (some ⟨g, 0, none⟩) (P.length + 1) cap) (P.length + 1) (nods (P ++ [(y1, y2)]))) := by
                have q := hown
                unfold OwnNd at q
                rw [List.length_append] at q
                exact q
              obtain ⟨r0, r1, r2⟩ := FR.out P (y1, y2) rfl
              dsimp only at c0 c1' r0 r1 r2
              have hpl : P.length + 1 ≤ k := by simpa using hfl
              have FS2 : Hid (∀ z, y1 = id → z = y2 + x → foldN (S.take (k + 1)) = P ++ [(y1, z)]) := fun z e ez => by subst ez; exact FS.out.trans (add_same Q1.out e)
              have FS3 : Hid (¬ y1 = id → foldN (S.take (k + 1)) = P ++ [(y1, y2)] ++ [(id, x)]) := fun e => FS.out.trans (add_else Q1.out e)
              have i0' : (0 : Int) ≤ (P.length : Int) := Int.natCast_nonneg _
              have i1' : (P.length : Int) < (P.length : Int) + 1 := by omega
              have i2' : (k : Int) < (m : Int) := by omega
              have w1' : IntKind.i64.wrap ((P.length : Int) + 1 - 1) = (P.length : Int) := by rw [IntWalk.i64_in _ (by omega)]; omega
              clear hown FR FS hfl
              by_cases q2 : y1 = id
              · have FZ := Lib.hid (FS2.out _ q2 rfl)
                have q2' : (y1 == id) = true := by simpa using q2
                clear q2 FS2 FS3
                go_wp2_with fail
                go_quiet (fail)
                go_wp2_with fail
                have HO2 : Hid ((wr.drewN nq).ownsRow w2.heap.size 74 2 (.slice (some ⟨g, 0, none⟩) (P.length + 1) cap) (P.length + 1) (nods (P ++ [(y1, y2)]))) := HO.out
                have k1 : (wr.drewN nq).cell? ⟨g, P.length * 2 + 1, none⟩ = some (.int .i64 y2) := c1'
                have k2 : (wr.drewN nq).cell? ⟨b, o + k * 2 + 1, none⟩ = some (.int .i64 x) := e1
                have k3 := World.ownsRow.frozenAt HO2.out (P.length * 2 + 1)
                have HB2 : Hid (Below w2.heap.size w2 (wr.drewN nq)) := drewN_below hb _
                generalize (wr.drewN nq) = W0 at *
                have hd : ∀ a, ({ heap := W0.heap, tape := W0.tape, drawn := W0.drawn + 1, os := W0.os, output := W0.output } : World).cell? a = W0.cell? a := fun _ => rfl
                have w3' : IntKind.i64.wrap (P.length : Int) = (P.length : Int) := IntWalk.i64_in _ (by omega)
                clear e0 e1 c0 c1' cf
                go_still_tail 17, (by kernel_rfl)
                change wpList _ _ _ _ _ (World.drew W0)
                clear hd w1' w3'
                have k4 : (World.drew W0).frozen? ⟨g, P.length * 2 + 1, none⟩ = false := k3
                have k5 : (World.drew W0).cell? ⟨g, P.length * 2 + 1, none⟩ = some (.int .i64 y2) := k1
                go_wp2_with fail
                have HS2 := Lib.hid (own_add (w := W0.drew) HO2.out rfl (y2 + x))
                clear k1 k2 k3 k4 k5
                go_roundw
                case rel => exact ⟨k + 1, by omega, by go_num, by rw [FZ.out]; exact HS2.out.1, ID2.out, HB2.out.drew.grown HS2.out.2 (by have := HB2.out.size; simp; omega) (fun j hj => by simp at hj; omega)⟩
                case measure => simp [intOf]; omega
              · have FZ := Lib.hid (FS3.out q2)
                have q2' : (y1 == id) = false := by simpa using q2
                clear q2 FS2 FS3
                go_wp2_with fail
                go_quiet (fail)
                go_wp2_with (at_builtin; refine wpList_append_own _ rfl _ _ 32 rfl w2.heap.size 74 i0 (.agg #[.int .i64 0, .int .i64 0]) 2 16 Tryz.underlying32 hi hz0 hz1 hz2 rfl (by decide) _ (P.length + 1) (nods (P ++ [(y1, y2)])) rfl (World.ownsRow.alloc HO.out _) ⟨wr.heap.size, 0, none⟩ 1 1 [.int .i64 id, .int .i64 x] rfl rfl (two_new _ _ _ _ _ (by simp)) (two_cell _ _) (by unfold maxLen; omega) (by omega) (by simp; omega) ?_)
                intro v' w3 hown2 hgrow _
                have hb3 : Below w2.heap.size w2 w3 := ((drewN_below hb _).alloc (by simp; omega) _).grown hgrow (by simp; omega) (fun g hg => (World.ownsRow.lt HO.out g hg).1)
                have HO2 := Lib.hid (ownNd_snoc (L := P ++ [(y1, y2)]) (by have q := hown2; rw [List.length_append]; exact q))
                clear hown2 hgrow
                go_wp2_with fail
                go_roundw
                case rel => exact ⟨k + 1, by omega, by go_num, by rw [FZ.out]; exact HO2.out, ID2.out, hb3⟩
                case measure => simp [intOf]; omega
      · have hkm : k = m := by omega
        subst hkm
        have TK : Hid (k = S.length) := HM
        go_wp2_with fail
        go_ret2
        refine foldO_done HS.out TT.out (by have q := ID.out; have e : k = S.length := TK; rwa [← e]) (by have q := hown; have e : k = S.length := TK; rwa [← e]) hb12.size (hb12.trans (hb.mono hz12))
theorem rFold_any (A : Option Addr) (n c : Nat) (L : List Nd) (w : World) (h : NodesAt w (.slice A n c) L) (hB : NBds L) (hn : n ≤ 1000000) :
    Calls Tryz.prog 105 #[.slice A n c] w (FoldPost L w) := (rFold_own A n c L w h hB hn).mono fun _ _ q => q.post

end Go.Proofs.YtfilmblpikcpnaaGreat
