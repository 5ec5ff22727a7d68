/- The project's package probe: what lies behind a hole is put back. -/
import Derived.Test.YtfilmblpikcpnaaGreatPb2
import Derived.BigRegion
namespace Go.Proofs.YtfilmblpikcpnaaGreat
set_option linter.unusedVariables false
open Go.RowKit
section
variable {B g h b : Nat} {l n t : Int} {S : List Nd}
set_option maxHeartbeats 3200000 in
theorem pbClose_any (w : World) (d : PbA w B g h l n t b S) (z q N : Nat) (HN : Hid (2 ^ b = N)) (hb : b ≤ 40) (H : Hole b S z (tNx N z) q) (AB : ∀ i, (tAt S i).1 ≤ 9223372036854775807) :
    Calls Tryz.prog 156 #[.pointer (some ⟨g, 0, none⟩), .int .i64 (z : Int)] w fun e w' => e = .returned (.tuple #[]) ∧ PbA w' B g h l n t b (closeF b N S z (tNx N z)) ∧ Chg g h w w' := by
  have D : Hid (PbA w B g h l n t b S) := d
  have hp := pow_40 hb
  have zl := H.zl
  have BH := Lib.hid (fun (w : World) (S : List Nd) (d : PbA w B g h l n t b S) (a : Nat) (ha : a < 2 ^ b) => pbBehind_any w d a ha hb)
  have ST := Lib.hid (fun (w : World) (S : List Nd) (d : PbA w B g h l n t b S) (a c : Nat) (ha : a < 2 ^ b) (hc : c < 2 ^ b) => pbSteps_any w d a c ha hc hb)
  have CF : Hid (∀ (w : World) (S : List Nd), PbA w B g h l n t b S → w.cell? ⟨g, 3, none⟩ = some (.int .i64 (b : Int)) ∧ w.cell? ⟨g, 4, none⟩ = some (.slice (some ⟨h, 0, none⟩) (2 ^ b) (2 ^ b)) ∧ (∀ i, i < 2 ^ b → w.cell? ⟨h, i * 2, none⟩ = some (.int .i64 (tAt S i).1) ∧ w.cell? ⟨h, i * 2 + 1, none⟩ = some (.int .i64 (tAt S i).2)) ∧ ∀ i, w.frozen? ⟨h, i, none⟩ = false) := fun w S d => ⟨d.cells.2.2.2.1, d.cells.2.2.2.2, fun i hi => d.slot hi, fun i => (d.free i).2⟩
  have HV := Lib.hid (fun (x : Int) (hx : 1 ≤ x) => (homeV_yes (bits := (b : Int)) (by have := H.b3; omega) (by omega) hx))
  have HH := Lib.hid H
  have AB2 := Lib.hid AB
  have hne : ¬ g = h := d.ne
  clear d H AB
  rw [HN.out] at hp zl BH ST CF
  go_enter Tryz.func156, Tryz.ntmps156
  go_wp2_with (go_at_call 140; refine (BH.out w S D.out z zl).mono ?_; rintro e w1 ⟨rfl, rfl⟩)
  go_loopw [4, 1] (fun av zv wr => ∃ (S2 : List Nd) (z2 a2 f : Nat), av = .int .i64 (a2 : Int) ∧ zv = .int .i64 (z2 : Int) ∧ Hole b S2 z2 a2 q ∧ closeF b f S2 z2 a2 = closeF b N S z (tNx N z) ∧ tDs N a2 q ≤ f ∧ (∀ i, (tAt S2 i).1 ≤ 9223372036854775807) ∧ PbA wr B g h l n t b S2 ∧ Chg g h w wr) (fun av _ _ => tDs N (intOf av).toNat q)
  case atStart =>
    have d1 := ds_is (N := N) (nx_is zl).1 (by rw [← HN.out]; exact HH.out.ql)
    exact ⟨S, z, tNx N z, N, rfl, rfl, HH.out, rfl, by omega, AB2.out, D.out, Chg.refl ..⟩
  case round =>
    rename_i wr
    obtain ⟨S2, z2, a2, f, rfl, rfl, hole, hcl, hf, hab, hd, hc⟩ := hrel
    have HO := Lib.hid hole
    have CL := Lib.hid hcl
    have DD : Hid (PbA wr B g h l n t b S2) := hd
    have HC := Lib.hid hc
    have al : a2 < N := by rw [← HN.out]; exact hole.al
    have zl2 : z2 < N := by rw [← HN.out]; exact hole.zl
    obtain ⟨k3, k4, ks, kf⟩ := CF.out _ _ hd
    obtain ⟨s0, s1⟩ := ks a2 al
    have hx1 := hab a2
    have hx0 := hole.slot a2
    have NXL := (nx_is al).1
    have HAB := Lib.hid hab
    clear hole hcl hd hc hab ks
    by_cases h0 : (tAt S2 a2).1 = 0
    · have RES := Lib.hid (close_end (b := b) (z := z2) h0 f)
      rw [h0] at s0
      go_wp2_with fail
      go_end0
      exact ⟨rfl, by rw [← CL.out, RES.out]; exact DD.out, HC.out⟩
    · have hx2 : 1 ≤ (tAt S2 a2).1 := by
        rcases hx0 with q | q
        · rw [q] at h0; exact absurd rfl h0
        · exact q.1
      have h0' : ((tAt S2 a2).1 != 0) = true := by simpa using h0
      obtain ⟨hm, HM⟩ : ∃ hm : Nat, Hid (hm = homeN b (tAt S2 a2).1) := ⟨_, rfl⟩
      have hml : hm < N := by rw [← HN.out, HM.out]; exact home_lt (by omega) _
      have HV2 : Hid (homeV (b : Int) (tAt S2 a2).1 = (hm : Nat)) := by
        show _ = _
        rw [HV.out _ hx2, Int.toNat_natCast, HM.out]
      clear hx0
      have XX : Hid (∃ x, x = tAt S2 a2) := ⟨_, rfl⟩
      obtain ⟨x, hx⟩ := XX.out
      rw [← hx] at s0 s1 hx1 hx2 h0' HV2
      have HX := Lib.hid hx
      have H0 := Lib.hid h0
      obtain ⟨x1, x2⟩ := x
      simp only at s0 s1 hx1 hx2 h0' HV2
      have HQ : Hid (∀ w, Calls Tryz.prog 139 #[.int .i64 (b : Int), .int .i64 x1] w fun e w' => e = .returned (.int .i64 (hm : Int)) ∧ w' = w) := fun w => (pbHome_any _ _ w (by omega) (by omega) (by omega) hx1).mono fun e w' q => ⟨by rw [q.1, HV2.out], q.2.symm⟩
      clear hx h0 HV2
      go_wp2_with fail
      go_quiet ((go_at_call 139; exact Calls.quiet_of_same (HQ.out _)))
      have DN : Hid (∀ k, PbA (wr.drewN k) B g h l n t b S2) := fun k => DD.out.below (drewN_below (Below.refl _ _) k)
      obtain ⟨d1, D1⟩ : ∃ d, Hid (tDs N hm z2 = d) := ⟨_, rfl⟩
      obtain ⟨d2, D2⟩ : ∃ d, Hid (tDs N hm a2 = d) := ⟨_, rfl⟩
      have ST1 : Hid (∀ k, Calls Tryz.prog 157 #[.pointer (some ⟨g, 0, none⟩), .int .i64 (hm : Int), .int .i64 (z2 : Int)] (wr.drewN k) fun e w' => e = .returned (.int .i64 (d1 : Int)) ∧ ∃ q, w' = wr.drewN q) := fun k => (ST.out _ S2 (DN.out k) hm z2 hml zl2).mono fun e w' q => ⟨by rw [q.1, D1.out], by obtain ⟨_, m, rfl⟩ := q; exact ⟨_, World.drewN_drewN _ _ _⟩⟩
      have ST2 : Hid (∀ k, Calls Tryz.prog 157 #[.pointer (some ⟨g, 0, none⟩), .int .i64 (hm : Int), .int .i64 (a2 : Int)] (wr.drewN k) fun e w' => e = .returned (.int .i64 (d2 : Int)) ∧ ∃ q, w' = wr.drewN q) := fun k => (ST.out _ S2 (DN.out k) hm a2 hml al).mono fun e w' q => ⟨by rw [q.1, D2.out], by obtain ⟨_, m, rfl⟩ := q; exact ⟨_, World.drewN_drewN _ _ _⟩⟩
      have hza : ¬ z2 = a2 := HO.out.za
      have haz : ¬ a2 = z2 := fun e => hza e.symm
      have SZ : Hid (tAt S2 z2 = nz) := by
        rcases HO.out.slot z2 with q | q
        · exact q
        · have := HO.out.ez; omega
      by_cases hle : d1 ≤ d2
      · have HM2 := Lib.hid (hole_move HO.out H0.out (by rw [← HM.out, HN.out, D1.out, D2.out]; exact hle))
        have hf1 : ∃ f2, f = f2 + 1 := ⟨f - 1, by have := HM2.out.2.1; rw [HN.out] at this; omega⟩
        obtain ⟨f2, rfl⟩ := hf1
        have MV := Lib.hid (close_move (b := b) (f := f2) (z := z2) H0.out (by rw [← HM.out, HN.out, D1.out, D2.out]; exact hle))
        have hf3 : Hid (tDs N (tNx N a2) q + 1 = tDs N a2 q) := by have := HM2.out.2.1; rw [HN.out] at this; exact this
        go_wp2_with (first | (go_at_call 157; with_reducible refine (ST1.out _).mono ?_; rintro e w1 ⟨rfl, q1, rfl⟩) | (go_at_call 157; with_reducible refine (ST2.out _).mono ?_; rintro e w1 ⟨rfl, q2, rfl⟩))
        have DW := Lib.hid (DN.out q2)
        have CW : Hid (Chg g h w (wr.drewN q2)) := HC.out.trans (Chg.of (drewN_below (Below.refl _ _) q2))
        generalize wr.drewN q2 = W at *
        clear k3 k4 kf s0 s1
        obtain ⟨k3, k4, ks, kf⟩ := CF.out _ _ DW.out
        obtain ⟨s0, s1⟩ := ks a2 al
        obtain ⟨t0, t1⟩ := ks z2 zl2
        rw [← HX.out] at s0 s1
        rw [SZ.out] at t0 t1
        clear ks
        simp only at s0 s1
        have e0 : ∀ u v, ((W.setCell ⟨h, z2 * 2, none⟩ u).setCell ⟨h, z2 * 2 + 1, none⟩ v).cell? ⟨h, a2 * 2, none⟩ = some (.int .i64 x1) := fun u v => by
          rw [World.cell?_setCell_other _ _ _ _ (fun e => by injection e with _ e; omega), World.cell?_setCell_other _ _ _ _ (fun e => by injection e with _ e; omega)]; exact s0
        have e1 : ∀ u v y, (((W.setCell ⟨h, z2 * 2, none⟩ u).setCell ⟨h, z2 * 2 + 1, none⟩ v).setCell ⟨h, a2 * 2, none⟩ y).cell? ⟨h, a2 * 2 + 1, none⟩ = some (.int .i64 x2) := fun u v y => by
          rw [World.cell?_setCell_other _ _ _ _ (fun e => by injection e with _ e; omega), World.cell?_setCell_other _ _ _ _ (fun e => by injection e with _ e; omega), World.cell?_setCell_other _ _ _ _ (fun e => by injection e with _ e; omega)]; exact s1
        have P1 := DW.out.setRow (z2 * 2) (.int .i64 x1)
        have P2 := P1.1.setRow (z2 * 2 + 1) (.int .i64 x2)
        have P3 := P2.1.setRow (a2 * 2) (.int .i64 0)
        have P4 := P3.1.setRow (a2 * 2 + 1) (.int .i64 0)
        have HPB : Hid (PbA ((((W.setCell ⟨h, z2 * 2, none⟩ (.int .i64 x1)).setCell ⟨h, z2 * 2 + 1, none⟩ (.int .i64 x2)).setCell ⟨h, a2 * 2, none⟩ (.int .i64 0)).setCell ⟨h, a2 * 2 + 1, none⟩ (.int .i64 0)) B g h l n t b ((S2.set z2 (tAt S2 a2)).set a2 nz)) := by
          have q := P4.1
          show PbM ..
          unfold PbM
          rw [nods_put, nods_put, ← HX.out]
          exact q
        have HCG := Lib.hid (((P1.2.trans P2.2).trans P3.2).trans P4.2)
        clear P1 P2 P3 P4
        have HPD := Lib.hid (PbM.drew HPB.out)
        have HBN : ∀ i, (tAt ((S2.set z2 (tAt S2 a2)).set a2 nz) i).1 ≤ 9223372036854775807 := fun i => by
          rw [tAt_set]; split
          · decide
          · rw [tAt_set]; split
            · exact HAB.out a2
            · exact HAB.out i
        have HBN2 := Lib.hid HBN
        clear HBN
        go_region
        go_wp2_with (go_at_call 140; refine (BH.out _ _ HPD.out a2 al).mono ?_; rintro e w1 ⟨rfl, rfl⟩)
        go_roundw
        case rel =>
          have HN2 := HM2.out.1
          rw [HN.out] at HN2
          have MV2 := MV.out
          rw [HN.out] at MV2
          have hf4 := hf3.out
          exact ⟨_, a2, tNx N a2, f2, rfl, rfl, HN2, by rw [← MV2, CL.out], by omega, HBN2.out, HPD.out, (CW.out.trans HCG.out).trans (Chg.of (below_drew _))⟩
        case measure => have := hf3.out; simp [intOf]; omega
      · have HS := Lib.hid (hole_stay HO.out H0.out (by rw [← HM.out, HN.out, D1.out, D2.out]; exact hle))
        have hf1 : ∃ f2, f = f2 + 1 := ⟨f - 1, by have := HS.out.2; rw [HN.out] at this; omega⟩
        obtain ⟨f2, rfl⟩ := hf1
        have MV := Lib.hid (close_stay (b := b) (f := f2) (z := z2) H0.out (by rw [← HM.out, HN.out, D1.out, D2.out]; exact hle))
        have hf3 : Hid (tDs N (tNx N a2) q + 1 = tDs N a2 q) := by have := HS.out.2; rw [HN.out] at this; exact this
        go_wp2_with (first | (go_at_call 157; with_reducible refine (ST1.out _).mono ?_; rintro e w1 ⟨rfl, q1, rfl⟩) | (go_at_call 157; with_reducible refine (ST2.out _).mono ?_; rintro e w1 ⟨rfl, q2, rfl⟩) | (go_at_call 140; refine (BH.out _ _ (DN.out _) a2 al).mono ?_; rintro e w1 ⟨rfl, rfl⟩))
        go_roundw
        case rel =>
          have HN2 := HS.out.1
          rw [HN.out] at HN2
          have MV2 := MV.out
          rw [HN.out] at MV2
          have hf4 := hf3.out
          exact ⟨S2, z2, tNx N a2, f2, rfl, rfl, HN2, by rw [← MV2, CL.out], by omega, HAB.out, DN.out _, HC.out.trans (Chg.of (drewN_below (Below.refl _ _) _))⟩
        case measure => have := hf3.out; simp [intOf]; omega
end

end Go.Proofs.YtfilmblpikcpnaaGreat
