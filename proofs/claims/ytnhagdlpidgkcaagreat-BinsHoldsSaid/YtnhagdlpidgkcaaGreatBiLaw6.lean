/- The walk of the statement BinsHolds of layer bins, over the project's contracts: for every input it returns true, and nothing that was there before is changed. -/
import Derived.Test.YtnhagdlpidgkcaaGreatBiLaw
import Derived.Test.YtnhagdlpidgkcaaGreatBiLaw3
import Derived.Test.YtnhagdlpidgkcaaGreatBiR
import Derived.Test.YtnhagdlpidgkcaaGreatDgQ
import Derived.Test.YtnhagdlpidgkcaaGreatDgS
import Derived.Test.YtnhagdlpidgkcaaGreatDgR
import Derived.Deep.RegionWith
import Derived.Test.YtnhagdlpidgkcaaGreatBlN
import Derived.Deep.Cut
import Derived.BigQuiet
import Derived.Test.YtnhagdlpidgkcaaGreatBgR
import Derived.Test.YtnhagdlpidgkcaaGreatOpQ
import Derived.Deep.RegionHeld3
import Derived.Deep.DeepCutAuto
namespace Go.Proofs.YtnhagdlpidgkcaaGreat
set_option linter.unusedVariables false
set_option maxRecDepth 100000
open Go.RowKit
theorem smI_bd {l : Int} {L : List Nd} (h : RollC l L) (E : List Int) : ∀ j, j ≤ E.length + 1 → 0 ≤ smI ((binsN l L E).take j) ∧ smI ((binsN l L E).take j) ≤ 72057594037927935
  | 0, _ => by simp [smI]
  | j + 1, hj => by rw [bins_sum l L E j (by omega)]; exact lw_bd h E j
theorem smI_next (l : Int) (L : List Nd) (E : List Int) {j : Nat} (hj : j < E.length + 1) : smI ((binsN l L E).take (j + 1)) = smI ((binsN l L E).take j) + binW l L E j := by
  rw [take_at (by rw [bins_len]; exact hj), smI_snoc, bins_at l L E hj]
set_option maxHeartbeats 25600000 in
theorem walk_binsHoldsK (KO : BiO) (KR : BiBr) (KB : BiB) (KL : RnkLq) (s : SideX) (A1 : Option Addr) (n1 c1 : Nat) (U : List Int) (UB : Bds U) (m2' : n1 ≤ 9223372036854775807) (w : World) (hs : SideG w s) (hu : IntsAt w (.slice A1 n1 c1) U) :
    Calls Tryz.prog 7 #[.agg #[.int .i64 s.l, .int .i64 s.k, .int .i64 s.kd, .slice s.A s.n s.c], .slice A1 n1 c1] w fun e w' => e = .returned (.bool true) ∧ Below w.heap.size w w' := by
  obtain ⟨l, k, kd, A, n, c, O⟩ := s
  obtain ⟨⟨L0, L1⟩, ⟨K0, K1⟩, _, hp, hob, _⟩ := hs
  simp only at hp hob L0 L1 K0 K1 ⊢
  have HB0 : Hid (Below w.heap.size w (w.alloc (.cells #[.int .i64 l, .int .i64 k, .int .i64 kd, .slice A n c] 61))) := (Below.refl _ _).alloc (Nat.le_refl _) _
  have X0 := Lib.hid (quad_new w 61 (.int .i64 l) (.int .i64 k) (.int .i64 kd) (.slice A n c))
  have P0 := Lib.hid (hp.below HB0.out)
  have U0 := Lib.hid (hu.below HB0.out)
  have OB := Lib.hid hob
  have PO := Lib.hid KO
  have PB := Lib.hid KB
  have PL := Lib.hid KL
  have HUB := Lib.hid UB
  have LL := Lib.hid (And.intro L0 L1)
  have HUL := Lib.hid (ints_cells hu).1
  have AL := Lib.hid (fun v => biAlive_any KO KR v)
  obtain ⟨x0, x1, x2, x3, _, _, _, _, hz⟩ := quad_all X0.out
  clear hp hob KO KB KR KL UB hu
  rcases (show 120 < n ∨ (¬ 120 < n ∧ 30 < n1) ∨ (¬ 120 < n ∧ ¬ 30 < n1 ∧ kd = 1 ∧ 10 < l) ∨ (¬ 120 < n ∧ ¬ 30 < n1 ∧ ¬ (kd = 1 ∧ 10 < l)) by omega) with hn | ⟨hn, hk⟩ | ⟨hn, hk, h1, h2⟩ | ⟨hn, hk, hh⟩
  · have g0 : decide (120 < (n : Int)) = true := decide_eq_true (by omega)
    clear hn
    go_enter Tryz.func7, Tryz.ntmps7
    go_wp2_with (go_at_call 11; refine (AL.out _).mono ?_; rintro e v7 ⟨rfl, hbv7⟩)
    go_ret
    exact ⟨rfl, HB0.out.trans (hbv7.mono HB0.out.size)⟩
  · have g0 : decide (120 < (n : Int)) = false := decide_eq_false (by omega)
    have g1 : decide (30 < (n1 : Int)) = true := decide_eq_true (by omega)
    clear hn hk
    go_enter Tryz.func7, Tryz.ntmps7
    go_wp2_with (go_at_call 11; refine (AL.out _).mono ?_; rintro e v7 ⟨rfl, hbv7⟩)
    go_ret
    exact ⟨rfl, HB0.out.trans (hbv7.mono HB0.out.size)⟩
  · have g0 : decide (120 < (n : Int)) = false := decide_eq_false (by omega)
    have g4 : decide (30 < (n1 : Int)) = false := decide_eq_false (by omega)
    have g1 : (kd == 1) = true := beq_iff_eq.2 h1
    have g2 : decide (10 < l) = true := decide_eq_true h2
    clear hn h1 h2 hk
    go_enter Tryz.func7, Tryz.ntmps7
    go_wp2_with (go_at_call 11; refine (AL.out _).mono ?_; rintro e v7 ⟨rfl, hbv7⟩)
    go_ret
    exact ⟨rfl, HB0.out.trans (hbv7.mono HB0.out.size)⟩
  · have g0 : decide (120 < (n : Int)) = false := decide_eq_false (by omega)
    have g4 : decide (30 < (n1 : Int)) = false := decide_eq_false (by omega)
    have N30 := Lib.hid (show n1 ≤ 30 by omega)
    have N120 := Lib.hid (show n ≤ 120 by omega)
    have HKL := Lib.hid hh
    clear hn hk hh
    go_enter Tryz.func7, Tryz.ntmps7
    go_upto_region 1 with fail
    go_cut [36] (fun s36 wx => s36 = .bool false ∧ wx = w.alloc (.cells #[.int .i64 l, .int .i64 k, .int .i64 kd, .slice A n c] 61))
    case first =>
      by_cases hk1 : kd = 1
      · have g1 : (kd == 1) = true := beq_iff_eq.2 hk1
        have g2 : decide (10 < l) = false := decide_eq_false fun z => HKL.out ⟨hk1, z⟩
        clear hk1
        go_wp2_with fail
        go_meet
        case rel => exact ⟨rfl, rfl⟩
      · have g1 : (kd == 1) = false := beq_eq_false_iff_ne.2 hk1
        clear hk1
        go_wp2_with fail
        go_meet
        case rel => exact ⟨rfl, rfl⟩
    case rest =>
      obtain ⟨rfl, rfl⟩ := hcut
      clear g0
      by_cases hc : kIs k = true ∧ isP kd l = true
      · have MD := Lib.hid (dgMade_any l k kd A n c O _ P0.out OB.out (by have := N120.out; omega) hc)
        have HN := N120
        clear hc
        go_wp2_with fail
        generalize w.alloc (.cells #[.int .i64 l, .int .i64 k, .int .i64 kd, .slice A n c] 61) = W at *
        refine MD.out.mono ?_
        rintro e w1 ⟨q, p, g, h, T, A2, m2, c2, rfl, hd, hv, hlen, hds, hb1⟩
        generalize dgOf l k O = L at *
        have hba : Below w1.heap.size w1 (w1.alloc (.cells #[.int .i64 l, .slice A2 m2 c2] 64)) := (Below.refl _ _).alloc (Nat.le_refl _) _
        have Z2 := Lib.hid (hb1.trans (hba.mono hb1.size))
        have X2 := Lib.hid (own_below X0.out Z2.out)
        have U2 := Lib.hid (U0.out.below Z2.out)
        have B2 := Lib.hid (HB0.out.trans (Z2.out.mono HB0.out.size))
        have D2 := Lib.hid (hd.below hba)
        have V2 := Lib.hid (hv.below hba)
        have Y2 := Lib.hid (box2 w1 64 (.int .i64 l) (.slice A2 m2 c2))
        have ML : Hid (m2 ≤ 400000) := by have := (nodes_cells hv).1; have := HN.out; show _ ≤ _; omega
        have DS := Lib.hid hds
        have PN : ∀ w, (binOp .eql 31 (.pointer (some ⟨q, 0, none⟩)) (.pointer none)).run Tryz.prog w = .ok (.bool false) w := fun _ => by kernel_rfl
        clear hd hv hlen hds hb1 hba MD x0 x1 x2 x3 hz
        go_upto_region 4 with fail
        generalize hg2 : w1.heap.size = g2 at *
        generalize w1.alloc (.cells #[.int .i64 l, .slice A2 m2 c2] 64) = W2 at *
        clear hg2
        have RR := Lib.hid (fun v (hb : Below W2.heap.size W2 v) => rBiRight_any l A1 n1 c1 U v (U2.out.below hb) HUB.out (by have := N30.out; omega) LL.out.1 LL.out.2)
        have RL := Lib.hid D2.out.v.roll
        cases he : egB l U
        · have P1 := Lib.hid (fun v (hb : Below W2.heap.size W2 v) => PO.out.bof_no v (D2.out.below hb) (by have := HN.out; omega) (U2.out.below hb) HUB.out (by have := N30.out; omega) he)
          have P2 := Lib.hid (fun v (hb : Below W2.heap.size W2 v) => PB.out.bounds_no v (D2.out.below hb) (by have := HN.out; omega) (U2.out.below hb) HUB.out (by have := N30.out; omega) he)
          rw [he] at RR
          clear he
          go_wp2_with fail
          refine (P1.out _ (Below.refl _ _)).mono ?_
          rintro e u3 ⟨⟨A3, c3, rfl⟩, hu3⟩
          have G3 := Lib.hid hu3
          clear hu3
          go_wp2_with fail
          refine (P2.out _ G3.out).mono ?_
          rintro e u4 ⟨⟨A4, c4, rfl⟩, hu4⟩
          have G4 := Lib.hid (bi_next G3.out hu4)
          obtain ⟨x0, x1, x2, x3, _, _, _, _, hz⟩ := quad_all (own_below X2.out G4.out)
          clear hu4
          go_wp2_with fail
          refine (RR.out _ G4.out).mono ?_
          rintro e u5 ⟨rfl, hu5⟩
          have G5 := Lib.hid (B2.out.trans ((bi_next G4.out hu5).mono B2.out.size))
          clear hu5 x0 x1 x2 x3 hz
          go_wp2_with (go_at_call 11; refine (AL.out _).mono ?_; rintro e v7 ⟨rfl, hbv7⟩)
          go_ret
          exact ⟨rfl, G5.out.trans (hbv7.mono G5.out.size)⟩
        · have EC := Lib.hid (eg_yes he)
          have P1 := Lib.hid (fun v (hb : Below W2.heap.size W2 v) => PO.out.bof_yes v (D2.out.below hb) (by have := HN.out; omega) (U2.out.below hb) HUB.out (by have := N30.out; omega) he)
          have P2 := Lib.hid (fun v (hb : Below W2.heap.size W2 v) => PB.out.bounds_yes v (D2.out.below hb) (by have := HN.out; omega) (U2.out.below hb) HUB.out (by have := N30.out; omega) he)
          rw [he] at RR
          clear he
          go_wp2_with fail
          refine (P1.out _ (Below.refl _ _)).mono ?_
          rintro e u3 ⟨⟨A3, n3, c3, rfl, hi3⟩, hu3⟩
          have G3 := Lib.hid hu3
          have I3 := Lib.hid hi3
          have n3e : Hid (n3 = n1 + 1) := by show _ = _; have := (ints_cells hi3).1; rw [bins_len] at this; have := HUL.out; omega
          clear hu3 hi3
          go_wp2_with fail
          refine (P2.out _ G3.out).mono ?_
          rintro e u4 ⟨⟨A4, n4, c4, rfl, hi4⟩, hu4⟩
          have n4e : n4 = n1 + 1 := by have := (runs_cells hi4).1; rw [bnd_len] at this; have := HUL.out; omega
          have e34 : n4 = n3 := by have := n3e.out; omega
          subst e34
          have N4 := Lib.hid n4e
          have n4i : ((n1 : Int) + 1) = (n4 : Int) := by omega
          have hw1 : wrap64 ((n1 : Int) + 1) = (n4 : Int) := by have := N30.out; rw [IntWalk.wrap64_in _ (by omega)]; omega
          have G4 := Lib.hid (bi_next G3.out hu4)
          have I34 := Lib.hid (I3.out.below hu4)
          have I44 := Lib.hid hi4
          obtain ⟨x0, x1, x2, x3, _, _, _, _, hz⟩ := quad_all (own_below X2.out G4.out)
          clear hu4 hi4 I3 n3e n4e n4i
          go_wp2_with fail
          refine (RR.out _ G4.out).mono ?_
          rintro e u5 ⟨rfl, hu5⟩
          have G5 := Lib.hid (bi_next G4.out hu5)
          have I35 := Lib.hid (I34.out.below hu5)
          have I45 := Lib.hid (I44.out.below hu5)
          have U5 := Lib.hid (U2.out.below G5.out)
          have Q5 := Lib.hid (B2.out.trans (G5.out.mono B2.out.size))
          clear hu5 x0 x1 x2 x3 hz I34 I44 RR P1 P2
          have cn : ((n4 : Int) != (n4 : Int)) = false := by simp
          have cn2 : ((n4 : Int) != (n1 : Int) + 1) = false := by have := N4.out; simp; omega
          have cn4 : n4 ≤ 31 := by have := N30.out; have := N4.out; omega
          go_wp2_with fail
          have D5 := Lib.hid (D2.out.below G5.out)
          have V5 := Lib.hid (V2.out.below G5.out)
          have X5 := Lib.hid (own_below X2.out G5.out)
          have Y5 := Lib.hid (own_below Y2.out G5.out)
          have NN := Lib.hid (good_nonneg DS.out.bag.good)
          clear X0 X2 Y2 V2 D2 U0 U2 P0 OB G3 G4 G5 Z2 B2 HB0 hw1 cn cn2
          go_loopw [11, 102] (fun s i wr => ∃ j : Nat, j ≤ n4 ∧ i = .int .i64 j ∧ s = .int .i64 (smI ((binsN l L U).take j)) ∧ Below u5.heap.size u5 wr) (fun _ i _ => n4 - (intOf i).toNat)
          case atStart => exact ⟨0, by omega, rfl, by simp [smI], Below.refl _ _⟩
          case round =>
            obtain ⟨j, hj, rfl, rfl, hb⟩ := hrel
            have BW := Lib.hid hb
            clear hb
            by_cases hlt : j < n4
            · have hju : j ≤ U.length := by have := N4.out; have := HUL.out; omega
              obtain ⟨b1, o1, rfl, hz1, f0⟩ := bi_at (I35.out.below BW.out) hlt
              obtain ⟨b2, o2, rfl, hz2, g0', g1'⟩ := runs_two (I45.out.below BW.out) hlt
              rw [bins_at l L U (by omega)] at f0
              rw [bnd_at l L U (by omega)] at g0' g1'
              have sn := smI_next l L U (j := j) (by omega)
              have sb := smI_bd RL.out U j (by omega)
              have sb2 := smI_bd RL.out U (j + 1) (by omega)
              have bb := bin_bd RL.out EC.out j
              have bh := bnd_holds EC.out DS.out.std RL.out DS.out.bag hju
              have hws : wrap64 (smI ((binsN l L U).take j) + binW l L U j) = smI ((binsN l L U).take (j + 1)) := by rw [IntWalk.wrap64_in _ (by omega)]; omega
              have RN := Lib.hid (fun v (hb : Below u5.heap.size u5 v) => rBiRun_any l A1 n1 c1 U j v (U5.out.below hb) EC.out (by have := N30.out; omega) (by have := HUL.out; omega))
              have BT := Lib.hid (fun v (hb : Below u5.heap.size u5 v) => rgBetween_any l (frE U j) (toE l U j) A2 m2 c2 T v (V5.out.below hb) NN.out DS.out.bag.tot (by have := ML.out; omega))
              have d1 : ¬ betN T (frE U j) (toE l U j) < (bndW l L U j).1 := by omega
              have d2 : ¬ (bndW l L U j).2 < betN T (frE U j) (toE l U j) := by omega
              have j0 : (0 : Int) ≤ (j : Int) := Int.natCast_nonneg _
              have j1 : (j : Int) < (n4 : Int) := by omega
              have nb : j ≤ 31 := by omega
              have BS := Lib.hid (bins_sum l L U j hju)
              obtain ⟨S', hS'⟩ : ∃ S', S' = smI ((binsN l L U).take (j + 1)) := ⟨_, rfl⟩
              rw [← hS'] at hws BS sn
              have hsum := sn.symm
              have HS' := Lib.hid hS'
              clear hS' sn bh
              generalize betN T (frE U j) (toE l U j) = bn at *
              generalize (bndW l L U j).1 = x at *
              generalize (bndW l L U j).2 = y at *
              generalize binW l L U j = bw at *
              generalize smI ((binsN l L U).take j) = S at *
              generalize frE U j = fr at *
              generalize toE l U j = tt at *
              obtain ⟨x0, x1, x2, x3, _, _, _, _, hz⟩ := quad_all (own_below X5.out BW.out)
              by_cases q1 : j < n1
              · obtain ⟨b3, o3, rfl, hz3, e0⟩ := bi_at (U5.out.below BW.out) q1
                have bd := bds_at HUB.out (show j < U.length by have := HUL.out; omega)
                have LW := Lib.hid (fun v (hb : Below u5.heap.size u5 v) => PL.out.low (U.getD j 0) v (D5.out.below hb) (by have := HN.out; omega) bd.1 bd.2)
                have el : lowR l L (U.getD j 0) = S' := by
                  rw [BS.out]; unfold lwE; rw [if_pos (by have := HUL.out; omega)]
                rw [el] at LW
                have j2 : (j : Int) < (n1 : Int) := by omega
                have sc : (S' != S') = false := by simp
                clear bd el
                generalize U.getD j 0 = ex at *
                go_wp2_with fail
                refine (LW.out _ BW.out).mono ?_
                rintro e v1 ⟨rfl, hv1⟩
                have BW1 := Lib.hid (BW.out.trans (hv1.mono BW.out.size))
                have C1 := Lib.hid (hv1)
                (try clear x0 x1 x2 x3 hz)
                obtain ⟨x0, x1, x2, x3, _, _, _, _, hz⟩ := quad_all (own_below X5.out BW1.out)
                go_wp2_with fail
                refine (RN.out _ BW1.out).mono ?_
                rintro e v2 ⟨rfl, hv2⟩
                have BW2 := Lib.hid (bi_next BW1.out hv2)
                have C2 := Lib.hid (bi_next C1.out hv2)
                clear hv2 x0 x1 x2 x3 hz
                obtain ⟨y0, y1, _, _, hy⟩ := box_cells (own_below Y5.out BW2.out)
                go_wp2_with fail
                refine (BT.out _ BW2.out).mono ?_
                rintro e v3 ⟨rfl, hv3⟩
                have BW3 := Lib.hid (bi_next BW2.out hv3)
                have C3 := Lib.hid (bi_next C2.out hv3)
                have k0 := (C3.out.cell (p := ⟨b2, o2 + j * 2, none⟩) hz2).trans g0'
                have k1 := (C3.out.cell (p := ⟨b2, o2 + j * 2 + 1, none⟩) hz2).trans g1'
                have hz3' := Nat.lt_of_lt_of_le hz2 C3.out.size
                clear hv3 y0 y1 hy
                go_wp2_with fail
                go_roundw
                case rel => exact ⟨j + 1, by omega, by go_num, by rw [← HS'.out], BW3.out⟩
                case measure => simp [intOf]; omega
              · have j2 : ¬ (j : Int) < (n1 : Int) := by omega
                have BW1 := Lib.hid (BW.out.trans ((Below.refl wr.heap.size wr).mono BW.out.size))
                have C1 := Lib.hid ((Below.refl wr.heap.size wr))
                (try clear x0 x1 x2 x3 hz)
                obtain ⟨x0, x1, x2, x3, _, _, _, _, hz⟩ := quad_all (own_below X5.out BW1.out)
                go_wp2_with fail
                refine (RN.out _ BW1.out).mono ?_
                rintro e v2 ⟨rfl, hv2⟩
                have BW2 := Lib.hid (bi_next BW1.out hv2)
                have C2 := Lib.hid (bi_next C1.out hv2)
                clear hv2 x0 x1 x2 x3 hz
                obtain ⟨y0, y1, _, _, hy⟩ := box_cells (own_below Y5.out BW2.out)
                go_wp2_with fail
                refine (BT.out _ BW2.out).mono ?_
                rintro e v3 ⟨rfl, hv3⟩
                have BW3 := Lib.hid (bi_next BW2.out hv3)
                have C3 := Lib.hid (bi_next C2.out hv3)
                have k0 := (C3.out.cell (p := ⟨b2, o2 + j * 2, none⟩) hz2).trans g0'
                have k1 := (C3.out.cell (p := ⟨b2, o2 + j * 2 + 1, none⟩) hz2).trans g1'
                have hz3' := Nat.lt_of_lt_of_le hz2 C3.out.size
                clear hv3 y0 y1 hy
                go_wp2_with fail
                go_roundw
                case rel => exact ⟨j + 1, by omega, by go_num, by rw [← HS'.out], BW3.out⟩
                case measure => simp [intOf]; omega
            · obtain rfl : j = n4 := by omega
              have es : smI ((binsN l L U).take j) = sumC L := by
                have e1 : j = n1 + 1 := N4.out
                have e2 := HUL.out
                rw [e1, e2, bins_sum l L U U.length (Nat.le_refl _)]
                unfold lwE
                rw [if_neg (by omega)]
              rw [es]
              have DN := Lib.hid (dgN_any wr (D5.out.box.below BW.out) (D5.out.po.below BW.out) (by have := HN.out; omega))
              clear es
              generalize sumC L = su at *
              have sc : (su == su) = true := by simp
              go_wp2_with (first | (go_at_call 28; refine DN.out.mono ?_; rintro e v1 ⟨rfl, hv1⟩) | (go_at_call 11; refine (AL.out _).mono ?_; rintro e v7 ⟨rfl, hbv7⟩))
              go_ret
              have Q6 := Q5.out.trans ((BW.out.trans (hv1.mono BW.out.size)).mono Q5.out.size)
              exact ⟨rfl, Q6.trans (hbv7.mono Q6.size)⟩
      · have MD := Lib.hid (dgMade_no l k kd A n c (w.alloc (.cells #[.int .i64 l, .int .i64 k, .int .i64 kd, .slice A n c] 61)) hc L0 L1)
        clear hc
        go_wp2_with fail
        generalize w.alloc (.cells #[.int .i64 l, .int .i64 k, .int .i64 kd, .slice A n c] 61) = W at *
        refine MD.out.mono ?_
        rintro e w1 ⟨rfl, hb1⟩
        have B1 := Lib.hid (HB0.out.trans (hb1.mono HB0.out.size))
        have B2 := Lib.hid (B1.out.alloc B1.out.size (.cells #[.int .i64 0, .slice none 0 0] 64))
        clear hb1 MD x0 x1 x2 x3 hz
        go_wp2_with (go_at_call 11; refine (AL.out _).mono ?_; rintro e v7 ⟨rfl, hbv7⟩)
        go_ret
        exact ⟨rfl, B2.out.trans (hbv7.mono B2.out.size)⟩
end Go.Proofs.YtnhagdlpidgkcaaGreat
