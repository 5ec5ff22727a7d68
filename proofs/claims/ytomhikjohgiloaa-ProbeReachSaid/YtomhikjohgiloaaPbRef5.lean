/- The document's answers of package dewpondref08: Take. -/
import Derived.Test.YtomhikjohgiloaaPbRef4
import Derived.Test.YtomhikjohgiloaaPbQ
namespace Go.Proofs.Ytomhikjohgiloaa
set_option linter.unusedVariables false
set_option maxRecDepth 100000
open Go.RowKit

set_option maxHeartbeats 6400000 in
theorem rtTake_any {b g c : Nat} {l : Int} {S L : List Nd} (id : Int) (w : World) (d : OwnNd 42 w 0 (.slice (some ⟨g, 0, none⟩) (2 ^ b) c) S) (T : Tb l b S L) (hb : b ≤ 39) (A0 : -9223372036854775808 ≤ id) (A1 : id ≤ 9223372036854775807) :
    Calls Try.prog 56 #[.agg #[.int .i64 l, .int .i64 (b : Int), .slice (some ⟨g, 0, none⟩) (2 ^ b) c], .int .i64 id] w
      (RdPost l b (takeS l b S id) (sumAt id L) (.slice (some ⟨g, 0, none⟩) (2 ^ b) c) w) := by
  have hu : 1 ≤ l ∧ l ≤ 48 := of_decide_eq_true T.roll.1
  have TB := two_boxes w 33 33 (.int .i64 l) (.int .i64 (b : Int)) (.slice (some ⟨g, 0, none⟩) (2 ^ b) c) (.int .i64 0) (.int .i64 0) (.slice none 0 0)
  have OD := Lib.hid (own_below d TB.1)
  have TT := Lib.hid T
  have GW : Hid (g < w.heap.size) := (d.lt g rfl).2
  have hpN := pow_40 (b := b) (by omega)
  obtain ⟨N, hN⟩ : ∃ N, N = 2 ^ b := ⟨_, rfl⟩
  have HN := Lib.hid hN
  obtain ⟨S2, hS2⟩ : ∃ x, x = takeS l b S id := ⟨_, rfl⟩
  have HS2 := Lib.hid hS2
  rw [← hS2]
  rw [← hN] at TB OD hpN ⊢
  have hgb : (Value.slice (some ⟨g, 0, none⟩) N c).ownBlock ≠ some (w.heap.size + 1) := by have := GW.out; simp [Value.ownBlock]; omega
  have HGB := Lib.hid hgb
  clear hgb
  cases hq : rightB l id
  · have H := Lib.hid (rem_wrong T.roll hq)
    have HS : Hid (S2 = S) := by show _ = _; rw [hS2]; exact if_neg (by rw [hq]; simp)
    clear d T hN hS2
    go_enter Try.func56, Try.ntmps56
    go_wp2_with fail
    generalize (w.alloc (.cells #[.int .i64 l, .int .i64 (b : Int), .slice (some ⟨g, 0, none⟩) N c] 33)).alloc (.cells #[.int .i64 0, .int .i64 0, .slice none 0 0] 33) = W at *
    obtain ⟨BW0, T1, T2, hz⟩ := TB
    obtain ⟨c0, c1, c2, _, _, _, _⟩ := T1
    obtain ⟨q0, q1, q2⟩ := T2.steps
    obtain ⟨u0, u1, u2, f0, f1, f2, _⟩ := T2
    have FIN := fun a1 a2 a3 => own_set3 OD.out HGB.out a1 a2 a3
    have FB := fun a1 a2 a3 => below_set3 BW0 (show w.heap.size ≤ w.heap.size + 1 by omega) a1 a2 a3
    clear hz
    go_wp2_with (go_at_call 60; refine (rright_any _ _ _ (by omega) (by omega) A0 A1).mono ?_; rintro e w1 ⟨rfl, rfl⟩)
    exact bodyPost_ret (v := .tuple #[.agg #[.int .i64 l, .int .i64 (b : Int), .slice (some ⟨g, 0, none⟩) N c], .int .i64 0]) (by simp [results, Try.results56, go_sem, q0, q1, q2]) rfl ⟨g, c, by rw [H.out.2.2, HN.out], by rw [HS.out, ← HN.out]; exact FIN _ _ _, FB _ _ _, .inl (by rw [HN.out])⟩
  · obtain ⟨p0, p1⟩ := right_mx hq
    have HG := T.get (show id ≠ 0 by omega)
    have HS : Hid (S2 = takeT b S id) := by show _ = _; rw [hS2]; exact if_pos hq
    have HT : Hid (takeT b S id = if (tAt S (posOf b S id)).2 = 0 then S else closeF b (2 ^ b) (S.set (posOf b S id) nz) (posOf b S id) (tNx (2 ^ b) (posOf b S id))) := rfl
    obtain ⟨q, hq1, hq2⟩ := T.empty
    have HNW := Lib.hid (fun (p : Nat) hp h0 => hole_new T.tab (p := p) hp h0 hq1 hq2)
    have ZS := Lib.hid (fun i => zero_slot T.tab (i := i))
    have AB := Lib.hid (fun i => (tAt_bds T i).2.1.2)
    have SX := (sum_le T.roll.2.2.2.1 id)
    obtain ⟨p, k, hp, hk, hps, lk⟩ := rfind_has T.tab (by omega) p0 p1 (T.ends id)
    rw [hp.out] at HG HT
    have HG2 := Lib.hid HG
    have hlen := Lib.hid T.tab.len
    have h3 := T.tab.b3
    have hpsN : p < N := by rw [hN]; exact hps
    clear d T hN hS2 hp hk
    by_cases hx0 : sumAt id L = 0
    · have RS : Hid (S2 = S) := by show _ = _; rw [HS.out, HT.out, if_pos (by rw [HG2.out]; exact hx0)]
      have HX := Lib.hid hx0
      rw [hx0] at HG
      have HG3 := Lib.hid HG
      clear hx0 HG HNW ZS AB SX
      go_enter Try.func56, Try.ntmps56
      go_wp2_with fail
      generalize (w.alloc (.cells #[.int .i64 l, .int .i64 (b : Int), .slice (some ⟨g, 0, none⟩) N c] 33)).alloc (.cells #[.int .i64 0, .int .i64 0, .slice none 0 0] 33) = W at *
      obtain ⟨BW0, T1, T2, hz⟩ := TB
      have BW := Lib.hid BW0
      have TA := Lib.hid T1
      have TR := Lib.hid T2
      have HZ := Lib.hid hz
      have SD : Hid (SlAt W g (2 ^ b) S) := sl_own (by rw [← HN.out]; exact OD.out)
      have LK := Lib.hid (lk W l g c SD.out)
      rw [← HN.out] at LK
      obtain ⟨c0, c1, c2, _, _, _, _⟩ := T1
      clear BW0 T2 hz lk
      go_wp2_with (first | (go_at_call 60; refine (rright_any _ _ _ (by omega) (by omega) A0 A1).mono ?_; rintro e w1 ⟨rfl, rfl⟩) | (go_at_call 61; refine LK.out.mono ?_; rintro e w2 ⟨rfl, hb2⟩; have T12 := TA.out.to hb2 TA.out.lt; obtain ⟨j0, j1, j2, _, _, _, _⟩ := T12; have hsl := ((SD.out.below hb2).2 p hps).2; rw [HG3.out] at hsl; have T22 := TR.out.to hb2 TR.out.lt; obtain ⟨q0, q1, q2⟩ := T22.steps; obtain ⟨u0, u1, u2, f0, f1, f2, _⟩ := T22))
      have FIN := fun a1 a2 a3 => own_set3 (own_below OD.out hb2) HGB.out a1 a2 a3
      have FB := fun a1 a2 a3 => below_set3 (BW.out.trans (hb2.mono BW.out.size)) (show w.heap.size ≤ w.heap.size + 1 by omega) a1 a2 a3
      exact bodyPost_ret (v := .tuple #[.agg #[.int .i64 l, .int .i64 (b : Int), .slice (some ⟨g, 0, none⟩) N c], .int .i64 0]) (by simp [results, Try.results56, go_sem, q0, q1, q2]) rfl ⟨g, c, by rw [HX.out, HN.out], by rw [RS.out, ← HN.out]; exact FIN _ _ _, FB _ _ _, .inl (by rw [HN.out])⟩
    · have hx0' : (sumAt id L == 0) = false := by simpa using hx0
      have h0 : (tAt S p).1 ≠ 0 := fun e => hx0 (by rw [← HG]; exact ((ZS.out p).1 e))
      have HO := Lib.hid (HNW.out p hps h0)
      obtain ⟨R, hR⟩ : ∃ R, R = closeF b N (S.set p nz) p (tNx N p) := ⟨_, rfl⟩
      have HR := Lib.hid hR
      have RS : Hid (S2 = R) := by
        show _ = _
        rw [HS.out, HT.out, if_neg (by rw [HG2.out]; exact hx0), hR, HN.out]
      have ABS := Lib.hid (set_bds AB.out p)
      have HX := Lib.hid hx0
      have hl := hlen.out
      obtain ⟨x, hxx⟩ : ∃ x, x = sumAt id L := ⟨_, rfl⟩
      rw [← hxx] at hx0' HG2 SX
      have HXX := Lib.hid hxx
      have RW := Lib.hid (nodes_cells (ownNd_nodes OD.out))
      have hNc : N ≤ c := by have := RW.out.2.1; have := HN.out; omega
      have hcm := RW.out.2.2.1
      have NL := Lib.hid (show (nods S).length = N * 2 by rw [nods_len, hlen.out, HN.out])
      obtain ⟨i0, hi, hzz0, hzz1, hzz2⟩ := info_parts node_info
      clear hx0 HG HNW ZS AB h0 hR hxx hl
      go_enter Try.func56, Try.ntmps56
      go_wp2_with fail
      generalize (w.alloc (.cells #[.int .i64 l, .int .i64 (b : Int), .slice (some ⟨g, 0, none⟩) N c] 33)).alloc (.cells #[.int .i64 0, .int .i64 0, .slice none 0 0] 33) = W at *
      obtain ⟨BW0, T1, T2, hz⟩ := TB
      have BW := Lib.hid BW0
      have TA := Lib.hid T1
      have TR := Lib.hid T2
      have HZ := Lib.hid hz
      have SD : Hid (SlAt W g (2 ^ b) S) := sl_own (by rw [← HN.out]; exact OD.out)
      have LK := Lib.hid (lk W l g c SD.out)
      rw [← HN.out] at LK
      obtain ⟨c0, c1, c2, _, _, _, _⟩ := T1
      clear BW0 T2 hz lk
      go_wp2_with (first | (go_at_call 60; refine (rright_any _ _ _ (by omega) (by omega) A0 A1).mono ?_; rintro e w1 ⟨rfl, rfl⟩) | (go_at_call 61; refine LK.out.mono ?_; rintro e w2 ⟨rfl, hb2⟩; have T12 := TA.out.to hb2 TA.out.lt; obtain ⟨j0, j1, j2, _, _, _, _⟩ := T12; have hsl := ((SD.out.below hb2).2 p hps).2; rw [HG2.out] at hsl; have own0 := ownNd_nil 42 w2 (w.heap.size + 2); have hz2 := hb2.size; have hzz := HZ.out) | (at_builtin; refine wpList_append_own _ rfl (.tmp 33) (.tmp 35) 31 rfl (w.heap.size + 2) 42 i0 (.agg #[.int .i64 0, .int .i64 0]) 2 16 Try.underlying31 hi hzz0 hzz1 hzz2 rfl (by decide) _ 0 [] rfl own0 ⟨g, 0, none⟩ N c (nods S) rfl NL.out (RW.out.2.2.2.news hb2) (nods_one S) (by unfold maxLen; omega) (by omega) (by omega) ?_))
      intro v3 w3 hown3 hgrow3 _
      have hb3 : Below (w.heap.size + 2) w2 w3 := (Below.refl _ _).grown hgrow3 (by omega) (fun g hg => by simp [Value.ownBlock] at hg)
      have OW3 : Hid (OwnNd 42 w3 (w.heap.size + 2) v3 S) := by
        show World.ownsRow _ _ _ _ _ _ _
        rw [show S.length = N by rw [hlen.out, HN.out]]
        simpa using hown3
      have OWR : w3.ownsRow (w.heap.size + 2) 42 2 v3 N (nods S) := by simpa using hown3
      have T13 := (TA.out.to hb2 TA.out.lt).to hb3 (by omega)
      have T23 := (TR.out.to hb2 TR.out.lt).to hb3 (by omega)
      have BW3 : Hid (Below w.heap.size w w3) := (BW.out.trans (hb2.mono BW.out.size)).trans (hb3.mono (by omega))
      rcases ownNd_form OW3.out with ⟨_, e⟩ | ⟨g3, cap, rfl, hbg, hgl, _, _, hin⟩
      · exfalso; have := hlen.out; rw [e] at this; have := HN.out; simp only [List.length_nil] at *; omega
      have hSN : S.length = N := by rw [hlen.out, HN.out]
      rw [hSN] at OWR ⊢
      obtain ⟨s0, s1⟩ := hin.2 p (by omega)
      rw [Nat.zero_add] at s0 s1
      have fr := OWR.frozenAt
      have f0 := fr (p * 2)
      have f1 := fr (p * 2 + 1)
      have P1 := World.ownsRow.stored OWR (p * 2) (.int .i64 0)
      have P2 := World.ownsRow.stored P1.1 (p * 2 + 1) (.int .i64 0)
      have n1 : g3 ≠ w.heap.size := by omega
      have n5 : g3 ≠ w.heap.size + 1 := by omega
      have ROW : Hid (OwnNd 42 ((w3.setCell ⟨g3, p * 2, none⟩ (.int .i64 0)).setCell ⟨g3, p * 2 + 1, none⟩ (.int .i64 0)) (w.heap.size + 2) (.slice (some ⟨g3, 0, none⟩) N cap) (S.set p nz)) := by
        show World.ownsRow _ _ _ _ _ _ _
        rw [nods_put, List.length_set, hSN]
        exact P2.1
      have T1b := Lib.hid ((T13.far (k := p * 2) n1 (.int .i64 0)).far (k := p * 2 + 1) n1 (.int .i64 0))
      have T2b := Lib.hid ((T23.far (k := p * 2) n5 (.int .i64 0)).far (k := p * 2 + 1) n5 (.int .i64 0))
      have BW4 : Hid (Below w.heap.size w ((w3.setCell ⟨g3, p * 2, none⟩ (.int .i64 0)).setCell ⟨g3, p * 2 + 1, none⟩ (.int .i64 0))) := (BW3.out.setCell (p := ⟨g3, p * 2, none⟩) (by show w.heap.size ≤ g3; omega) _).setCell (p := ⟨g3, p * 2 + 1, none⟩) (by show w.heap.size ≤ g3; omega) _
      have nx := nx_is hpsN
      have MD : Hid (∀ a : Nat, a < N → ((a : Int) + 1) % (N : Int) = (tNx N a : Nat)) := fun a ha => by
        have nx := nx_is ha
        rcases nx.2 with q | ⟨q, q2⟩
        · rw [q, Int.emod_eq_of_lt (by omega) (by omega)]; omega
        · rw [q, show (a : Int) + 1 = (N : Int) by omega, Int.emod_self]; rfl
      have MD1 := Lib.hid (MD.out p hpsN)
      have hN0 : (N : Int) ≠ 0 := by omega
      clear OW3 OWR hown3 hgrow3 T13 T23 P1 P2 hin fr own0 hb3 BW3
      go_wp2_with fail
      generalize (w3.setCell ⟨g3, p * 2, none⟩ (.int .i64 0)).setCell ⟨g3, p * 2 + 1, none⟩ (.int .i64 0) = W4 at *
      clear j0 j1 j2 hsl s0 s1 f0 f1 c0 c1 c2
      go_loopw [10, 6] (fun av zv wr => ∃ (S3 : List Nd) (z2 a2 f : Nat), av = .int .i64 (a2 : Int) ∧ zv = .int .i64 (z2 : Int) ∧ Hole b S3 z2 a2 q ∧ closeF b f S3 z2 a2 = R ∧ tDs N a2 q ≤ f ∧ (∀ i, (tAt S3 i).1 ≤ 9223372036854775807) ∧ OwnNd 42 wr (w.heap.size + 2) (.slice (some ⟨g3, 0, none⟩) N cap) S3 ∧ TBx wr w.heap.size (.int .i64 l) (.int .i64 (b : Int)) (.slice (some ⟨g, 0, none⟩) N c) ∧ TBx wr (w.heap.size + 1) (.int .i64 0) (.int .i64 0) (.slice none 0 0) ∧ Below w.heap.size w wr) (fun av _ _ => tDs N (intOf av).toNat q)
      case atStart =>
        have HO2 := HO.out
        rw [← HN.out] at HO2
        have d1 := ds_is (N := N) nx.1 (by rw [HN.out]; exact HO2.ql)
        exact ⟨S.set p nz, p, tNx N p, N, by rw [← MD1.out], rfl, HO2, HR.out.symm, by omega, ABS.out, ROW.out, T1b.out, T2b.out, BW4.out⟩
      case round =>
        rename_i wr
        obtain ⟨S3, z2, a2, f, rfl, rfl, hole, hcl, hf, hab, ho, t1, t2, bl⟩ := hrel
        have HH := Lib.hid hole
        have CL := Lib.hid hcl
        have X1 := Lib.hid t1
        have X2 := Lib.hid t2
        have XR := Lib.hid ho
        have XB := Lib.hid bl
        have HAB := Lib.hid hab
        have al : a2 < N := by rw [HN.out]; exact hole.al
        have zl2 : z2 < N := by rw [HN.out]; exact hole.zl
        have hl3 : S3.length = N := by rw [HN.out]; exact hole.len
        have CF : Hid (∀ w', OwnNd 42 w' (w.heap.size + 2) (.slice (some ⟨g3, 0, none⟩) N cap) S3 → (∀ i, i < N → w'.cell? ⟨g3, i * 2, none⟩ = some (.int .i64 (tAt S3 i).1) ∧ w'.cell? ⟨g3, i * 2 + 1, none⟩ = some (.int .i64 (tAt S3 i).2)) ∧ ∀ i, w'.frozen? ⟨g3, i, none⟩ = false) := fun w' o => by
          have o2 : w'.ownsRow (w.heap.size + 2) 42 2 (.slice (some ⟨g3, 0, none⟩) N cap) N (nods S3) := by rw [← hl3]; rw [← hl3] at o; exact o
          refine ⟨fun i hi => ?_, fun i => o2.frozenAt i⟩
          rw [o2.cellAt (i * 2) (by omega), o2.cellAt (i * 2 + 1) (by omega)]
          exact nods_get S3 i (by omega)
        obtain ⟨s0, s1⟩ := (CF.out wr ho).1 a2 al
        have hsl := hole.slot a2
        have hx1 := hab a2
        have SZ : Hid (tAt S3 z2 = nz) := by
          rcases hole.slot z2 with q | q
          · exact q
          · have := hole.ez; omega
        obtain ⟨c0, c1, c2, _, _, _, _⟩ := t1
        obtain ⟨⟨x1, x2⟩, hx⟩ : ∃ x, x = tAt S3 a2 := ⟨_, rfl⟩
        rw [← hx] at s0 s1 hsl hx1
        simp only [nz, Prod.mk.injEq] at s0 s1 hsl hx1
        have HXA := Lib.hid hx
        have HGL := Lib.hid hl3
        clear hole hcl hab ho t2 bl hx hl3
        by_cases h0 : x1 = 0
        · have hx2 : x2 = 0 := by omega
          have RES : Hid (R = S3) := by
            show _ = _
            rw [← CL.out]
            exact close_end (by rw [← HXA.out]; exact h0) f
          subst hx2
          have T1D := Lib.hid (X1.out.set2 (.slice (some ⟨g3, 0, none⟩) N cap))
          have T2D := X2.out.far (r := w.heap.size) (k := 2) (by omega) (.slice (some ⟨g3, 0, none⟩) N cap)
          obtain ⟨q0, q1, q2⟩ := T2D.steps
          obtain ⟨j0, j1, j2, _, _, _, _⟩ := T1D.out
          have r2 := X1.out.f2
          obtain ⟨u0, u1, u2, f0, f1, f2, _⟩ := T2D
          have hgb3 : Hid ((Value.slice (some ⟨g3, 0, none⟩) N cap).ownBlock ≠ some (w.heap.size + 1)) := by show _ ≠ _; simp [Value.ownBlock]; omega
          have hgb4 : Hid ((Value.slice (some ⟨g3, 0, none⟩) N cap).ownBlock ≠ some w.heap.size) := by show _ ≠ _; simp [Value.ownBlock]; omega
          have G3 : Hid (w.heap.size ≤ g3) := by show _ ≤ _; omega
          go_wp2_with fail
          have FIN := fun a1 a2 a3 => own_low (own_set3 (own_set XR.out hgb4.out 2 (.slice (some ⟨g3, 0, none⟩) N cap)) hgb3.out a1 a2 a3) (Nat.zero_le (w.heap.size + 2))
          have FB := fun a1 a2 a3 => below_set3 (XB.out.setCell (p := ⟨w.heap.size, 2, none⟩) (Nat.le_refl _) (.slice (some ⟨g3, 0, none⟩) N cap)) (show w.heap.size ≤ w.heap.size + 1 by omega) a1 a2 a3
          exact bodyPost_ret (v := .tuple #[.agg #[.int .i64 l, .int .i64 (b : Int), .slice (some ⟨g3, 0, none⟩) N cap], .int .i64 x]) (by simp [results, Try.results56, go_sem, q0, q1, q2]) rfl ⟨g3, cap, by rw [HXX.out, HN.out], by rw [RS.out, RES.out, ← HN.out]; exact FIN _ _ _, FB _ _ _, .inr G3.out⟩
        · have hx2 : 0 < x2 := by omega
          have hx3 : 1 ≤ x1 := by omega
          obtain ⟨hm, HM⟩ : ∃ hm : Nat, Hid (hm = homeN b x1) := ⟨_, rfl⟩
          have hml : hm < N := by rw [HN.out, HM.out]; exact home_lt (by omega) _
          have HQ : Hid (∀ w, Calls Try.prog 15 #[.int .i64 (b : Int), .int .i64 x1] w fun e w' => e = .returned (.int .i64 (hm : Int)) ∧ w' = w) := fun w => (rHome_any _ _ w (by omega) (by omega) (by omega) hx1).mono fun e w' q => ⟨by rw [q.1, homeV_yes (by omega) (by omega) hx3, Int.toNat_natCast, HM.out], q.2.symm⟩
          obtain ⟨d1, D1⟩ : ∃ d, Hid (tDs N hm z2 = d) := ⟨_, rfl⟩
          obtain ⟨d2, D2⟩ : ∃ d, Hid (tDs N hm a2 = d) := ⟨_, rfl⟩
          have WY1 := Lib.hid (fun w => rtWay_any (g := g) (c := c) (l := l) (bi := (b : Int)) hm z2 w hml zl2 hpN)
          have WY2 := Lib.hid (fun w => rtWay_any (g := g) (c := c) (l := l) (bi := (b : Int)) hm a2 w hml al hpN)
          rw [D1.out] at WY1
          rw [D2.out] at WY2
          have H0 := Lib.hid h0
          clear h0 hsl
          go_wp2_with fail
          go_quiet ((go_at_call 15; exact Calls.quiet_of_same (HQ.out _)))
          go_wp2_with fail
          have DNb : Below wr.heap.size wr (wr.drewN nq) := drewN_below (Below.refl _ _) nq
          have T1V := X1.out.to DNb X1.out.lt
          have TV1 := Lib.hid T1V
          have TV2 := Lib.hid (X2.out.to DNb X2.out.lt)
          have RV : Hid (OwnNd 42 (wr.drewN nq) (w.heap.size + 2) (.slice (some ⟨g3, 0, none⟩) N cap) S3) := own_below XR.out DNb
          have BV := Lib.hid (XB.out.trans (DNb.mono XB.out.size))
          clear DNb c0 c1 c2 s0 s1
          generalize wr.drewN nq = V at *
          obtain ⟨x0, x1', x2', _, _, _, hltv⟩ := T1V
          have HLV := Lib.hid hltv
          have KW : Hid (∀ w', Below V.heap.size V w' → w'.cell? ⟨w.heap.size, 0, none⟩ = some (.int .i64 l) ∧ w'.cell? ⟨w.heap.size, 1, none⟩ = some (.int .i64 (b : Int)) ∧ w'.cell? ⟨w.heap.size, 2, none⟩ = some (.slice (some ⟨g, 0, none⟩) N c)) := fun w' h => ⟨(h.cell (p := ⟨w.heap.size, 0, none⟩) hltv).trans x0, (h.cell (p := ⟨w.heap.size, 1, none⟩) hltv).trans x1', (h.cell (p := ⟨w.heap.size, 2, none⟩) hltv).trans x2'⟩
          clear hltv x0 x1' x2'
          go_region_held3 (fun w' => w'.cell? ⟨w.heap.size, 0, none⟩ = some (.int .i64 l) ∧ w'.cell? ⟨w.heap.size, 1, none⟩ = some (.int .i64 (b : Int)) ∧ w'.cell? ⟨w.heap.size, 2, none⟩ = some (.slice (some ⟨g, 0, none⟩) N c))
            (first | assumption | (exact KW.out _ (below_drew _)) | (with_reducible exact KW.out _ hwb) | (with_reducible exact KW.out _ hwa))
            (first
              | (go_at_call 89; (with_reducible refine (WY1.out _).mono ?_); rintro e wa ⟨rfl, hba⟩; have hwa : Below V.heap.size V wa := (below_drew V).trans hba)
              | (go_at_call 89; (with_reducible refine (WY2.out _).mono ?_); rintro e wb ⟨rfl, hbb⟩; have hwb : Below V.heap.size V wb := hwa.trans (hbb.mono hwa.size)))
          have T1B := Lib.hid (TV1.out.to hwb TV1.out.lt)
          have T2B := Lib.hid (TV2.out.to hwb TV2.out.lt)
          have RB : Hid (OwnNd 42 wb (w.heap.size + 2) (.slice (some ⟨g3, 0, none⟩) N cap) S3) := own_below RV.out hwb
          have BB := Lib.hid (BV.out.trans (hwb.mono BV.out.size))
          have hza : ¬ z2 = a2 := HH.out.za
          have haz : ¬ a2 = z2 := fun e => hza e.symm
          have hne : (tAt S3 a2).1 ≠ 0 := by rw [← HXA.out]; exact H0.out
          have hqe : HM.out = HM.out := rfl
          have hcond : (tDs (2 ^ b) (homeN b (tAt S3 a2).1) z2 ≤ tDs (2 ^ b) (homeN b (tAt S3 a2).1) a2) ↔ d1 ≤ d2 := by
            rw [← HXA.out]
            show tDs (2 ^ b) (homeN b x1) z2 ≤ tDs (2 ^ b) (homeN b x1) a2 ↔ _
            rw [← HM.out, ← HN.out, D1.out, D2.out]
          clear hwa hba hwb hbb hqe
          by_cases hle : d1 ≤ d2
          · have HM2 := Lib.hid (hole_move HH.out hne (hcond.2 hle))
            have hf1 : ∃ f2, f = f2 + 1 := ⟨f - 1, by have := HM2.out.2.1; rw [← HN.out] at this; omega⟩
            obtain ⟨f2, rfl⟩ := hf1
            have MV := Lib.hid (close_move (b := b) (f := f2) (z := z2) hne (hcond.2 hle))
            have hf3 : Hid (tDs N (tNx N a2) q + 1 = tDs N a2 q) := by have := HM2.out.2.1; rw [← HN.out] at this; exact this
            obtain ⟨ks, kf⟩ := CF.out wb RB.out
            obtain ⟨s0, s1⟩ := ks a2 al
            obtain ⟨t0, t1⟩ := ks z2 zl2
            rw [← HXA.out] at s0 s1
            rw [SZ.out] at t0 t1
            simp only at s0 s1
            clear ks
            have e0 : ∀ u v, ((wb.setCell ⟨g3, z2 * 2, none⟩ u).setCell ⟨g3, z2 * 2 + 1, none⟩ v).cell? ⟨g3, a2 * 2, none⟩ = some (.int .i64 x1) := fun u v => by
              rw [World.cell?_setCell_other _ _ _ _ (fun e => by injection e with _ e; omega), World.cell?_setCell_other _ _ _ _ (fun e => by injection e with _ e; omega)]; exact s0
            have e1 : ∀ u v y, (((wb.setCell ⟨g3, z2 * 2, none⟩ u).setCell ⟨g3, z2 * 2 + 1, none⟩ v).setCell ⟨g3, a2 * 2, none⟩ y).cell? ⟨g3, a2 * 2 + 1, none⟩ = some (.int .i64 x2) := fun u v y => by
              rw [World.cell?_setCell_other _ _ _ _ (fun e => by injection e with _ e; omega), World.cell?_setCell_other _ _ _ _ (fun e => by injection e with _ e; omega), World.cell?_setCell_other _ _ _ _ (fun e => by injection e with _ e; omega)]; exact s1
            have OR : wb.ownsRow (w.heap.size + 2) 42 2 (.slice (some ⟨g3, 0, none⟩) N cap) N (nods S3) := by have o := RB.out; rw [← HGL.out]; rw [← HGL.out] at o; exact o
            have P1 := World.ownsRow.stored OR (z2 * 2) (.int .i64 x1)
            have P2 := World.ownsRow.stored P1.1 (z2 * 2 + 1) (.int .i64 x2)
            have P3 := World.ownsRow.stored P2.1 (a2 * 2) (.int .i64 0)
            have P4 := World.ownsRow.stored P3.1 (a2 * 2 + 1) (.int .i64 0)
            have ROW2 : Hid (OwnNd 42 ((((wb.setCell ⟨g3, z2 * 2, none⟩ (.int .i64 x1)).setCell ⟨g3, z2 * 2 + 1, none⟩ (.int .i64 x2)).setCell ⟨g3, a2 * 2, none⟩ (.int .i64 0)).setCell ⟨g3, a2 * 2 + 1, none⟩ (.int .i64 0)) (w.heap.size + 2) (.slice (some ⟨g3, 0, none⟩) N cap) ((S3.set z2 (tAt S3 a2)).set a2 nz)) := by
              show World.ownsRow _ _ _ _ _ _ _
              rw [nods_put, nods_put, ← HXA.out, List.length_set, List.length_set, HGL.out]
              exact P4.1
            have T1E := Lib.hid ((((T1B.out.far (k := z2 * 2) n1 (.int .i64 x1)).far (k := z2 * 2 + 1) n1 (.int .i64 x2)).far (k := a2 * 2) n1 (.int .i64 0)).far (k := a2 * 2 + 1) n1 (.int .i64 0))
            have T2E := Lib.hid ((((T2B.out.far (k := z2 * 2) n5 (.int .i64 x1)).far (k := z2 * 2 + 1) n5 (.int .i64 x2)).far (k := a2 * 2) n5 (.int .i64 0)).far (k := a2 * 2 + 1) n5 (.int .i64 0))
            have hg3w : w.heap.size ≤ g3 := by omega
            have BE := Lib.hid ((((BB.out.setCell (p := ⟨g3, z2 * 2, none⟩) hg3w (.int .i64 x1)).setCell (p := ⟨g3, z2 * 2 + 1, none⟩) hg3w (.int .i64 x2)).setCell (p := ⟨g3, a2 * 2, none⟩) hg3w (.int .i64 0)).setCell (p := ⟨g3, a2 * 2 + 1, none⟩) hg3w (.int .i64 0))
            have HBN : ∀ i, (tAt ((S3.set z2 (tAt S3 a2)).set a2 nz) i).1 ≤ 9223372036854775807 := fun i => by
              rw [tAt_set]; split
              · decide
              · rw [tAt_set]; split
                · exact HAB.out a2
                · exact HAB.out i
            have HBN2 := Lib.hid HBN
            have MDA := Lib.hid (MD.out a2 al)
            clear P1 P2 P3 P4 OR HBN hcond hne
            go_wp2_with fail
            go_roundw
            case rel =>
              have HN2 := HM2.out.1
              rw [← HN.out] at HN2
              have MV2 := MV.out
              rw [← HN.out] at MV2
              have hf4 := hf3.out
              exact ⟨_, a2, tNx N a2, f2, by rw [← MDA.out], rfl, HN2, by rw [← MV2, CL.out], by omega, HBN2.out, ROW2.out, T1E.out, T2E.out, BE.out⟩
            case measure =>
              have := hf3.out
              have e := MDA.out
              show tDs N (((a2 : Int) + 1) % (N : Int)).toNat q < tDs N ((a2 : Nat) : Int).toNat q
              rw [e, Int.toNat_natCast, Int.toNat_natCast]; omega
          · have HS3 := Lib.hid (hole_stay HH.out hne (fun q => hle (hcond.1 q)))
            have hf1 : ∃ f2, f = f2 + 1 := ⟨f - 1, by have := HS3.out.2; rw [← HN.out] at this; omega⟩
            obtain ⟨f2, rfl⟩ := hf1
            have MV := Lib.hid (close_stay (b := b) (f := f2) (z := z2) hne (fun q => hle (hcond.1 q)))
            have hf3 : Hid (tDs N (tNx N a2) q + 1 = tDs N a2 q) := by have := HS3.out.2; rw [← HN.out] at this; exact this
            have MDA := Lib.hid (MD.out a2 al)
            clear hcond hne
            go_wp2_with fail
            go_roundw
            case rel =>
              have HN2 := HS3.out.1
              rw [← HN.out] at HN2
              have MV2 := MV.out
              rw [← HN.out] at MV2
              have hf4 := hf3.out
              exact ⟨S3, z2, tNx N a2, f2, by rw [← MDA.out], rfl, HN2, by rw [← MV2, CL.out], by omega, HAB.out, RB.out, T1B.out, T2B.out, BB.out⟩
            case measure =>
              have := hf3.out
              have e := MDA.out
              show tDs N (((a2 : Int) + 1) % (N : Int)).toNat q < tDs N ((a2 : Nat) : Int).toNat q
              rw [e, Int.toNat_natCast, Int.toNat_natCast]; omega

end Go.Proofs.Ytomhikjohgiloaa
