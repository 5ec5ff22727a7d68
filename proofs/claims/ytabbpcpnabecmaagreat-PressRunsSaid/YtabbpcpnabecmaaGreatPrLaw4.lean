/- The walk of the statement PressRuns of layer press: for every input it returns true, and nothing that was there before is changed. -/
import Derived.Test.YtabbpcpnabecmaaGreatPrLaw
import Derived.Test.YtabbpcpnabecmaaGreatPrRef2
import Derived.Test.YtabbpcpnabecmaaGreatTiSame
namespace Go.Proofs.YtabbpcpnabecmaaGreat
set_option linter.unusedVariables false
set_option maxRecDepth 100000
open Go.RowKit

set_option maxHeartbeats 6400000 in
theorem walk_pressRuns (kd l : Int) (A : Option Addr) (n c : Nat) (L : List Nd) (k : Int) (K0 : -9223372036854775808 ≤ kd) (K1 : kd ≤ 9223372036854775807) (L0 : -9223372036854775808 ≤ l) (L1 : l ≤ 9223372036854775807) (NB : NBds L) (m1 : n ≤ 9223372036854775807)
    (A0 : -9223372036854775808 ≤ k) (A1 : k ≤ 9223372036854775807) (w : World) (H1 : NodesAt w (.slice A n c) L) :
    Calls Tryz.prog 3 #[.int .i64 kd, .int .i64 l, .slice A n c, .int .i64 k] w fun e w' => e = .returned (.bool true) ∧ Below w.heap.size w w' := by
  have HV := Lib.hid H1
  have HNB : Hid (NBds L) := NB
  have FW := Lib.hid (prFew_any kd l A n c L w H1 NB L0 L1)
  have IS := Lib.hid (fun w => rPrIs_any k w)
  have hss := same_self L
  clear H1 NB
  by_cases hI : FewP kd l n L
  · rw [show decide (FewP kd l n L) = true from decide_eq_true hI] at FW
    obtain ⟨⟨hn, hp, _, hr⟩, _⟩ := hI
    have hRC : RollC l L := of_decide_eq_true hr
    have HRC := Lib.hid hRC
    have HNL := Lib.hid (nodes_cells HV.out).1
    have hlen : L.length ≤ 60 := by have := HNL.out; omega
    have MD := Lib.hid (fun w1 (hb : Below w.heap.size w w1) => prMade_any kd l A n c L w1 (HV.out.below hb) HNB.out (by omega) L0 L1 hp hr)
    clear hp hr hRC
    go_enter Tryz.func3, Tryz.ntmps3
    go_wp2_with fail
    refine FW.out.mono ?_
    rintro e w1 ⟨rfl, hb1⟩
    have B1 := Lib.hid hb1
    clear hb1 FW
    go_wp2_with fail
    refine (MD.out _ B1.out).mono ?_
    rintro e w2 ⟨p, g, h, rfl, hd, hb2⟩
    have hba : Below w2.heap.size w2 (w2.alloc (.cells #[.int .i64 l, .slice A n c] 27)) := (Below.refl _ _).alloc (Nat.le_refl _) _
    have SB3 := Lib.hid (own_low (foBx2 w2 27 (.int .i64 l) (.slice A n c)) (Nat.le_trans B1.out.size hb2.size))
    have D3 := Lib.hid ((hd.low B1.out.size).below hba)
    have B2 := Lib.hid (B1.out.trans (hb2.mono B1.out.size))
    have B3 := Lib.hid (B2.out.trans (hba.mono B2.out.size))
    clear hba hd hb2 MD B1 B2
    cases hk : kIs k
    · have TR := Lib.hid (prTrace_no k _ D3.out (by omega) hk)
      rw [hk] at IS
      have RN := Lib.hid (fun w => prRun_no p k w hk)
      clear hk
      go_wp2_with fail
      generalize w2.alloc (.cells #[.int .i64 l, .slice A n c] 27) = W3 at *
      refine TR.out.mono ?_
      rintro e w4 ⟨rfl, hb4⟩
      have D4 := Lib.hid (D3.out.below hb4)
      have B4 := Lib.hid (B3.out.trans (hb4.mono B3.out.size))
      have V4 := Lib.hid (HV.out.below B4.out)
      clear hb4 TR
      have SNP := Lib.hid (fun w5 (hb : Below w4.heap.size w4 w5) => (poSnap_any w5 (D4.out.below hb) (by omega)).mono (R' := fun e w' => ∃ A3 m3 c3, e = .returned (.slice A3 m3 c3) ∧ NodesAt w' (.slice A3 m3 c3) L ∧ m3 ≤ 1000 ∧ Below w5.heap.size w5 w') fun e w' ⟨A3, m3, c3, he, ho, hb⟩ => ⟨A3, m3, c3, he, ownNd_nodes ho, by have a1 := (nodes_cells (ownNd_nodes ho)).1; omega, hb⟩)
      have SAM := Lib.hid (fun (w5 : World) (A3 : Option Addr) (m3 c3 : Nat) (hb : Below w4.heap.size w4 w5) (ho : NodesAt w5 (.slice A3 m3 c3) L) (hm : m3 ≤ 1000) => prSame_below (rSame_any _ _ m3 c3 n c L L w5 ho (V4.out.below hb) (by omega) (by omega)))
      rw [hss] at SAM
      clear hss
      go_wp2_with fail
      refine (SNP.out _ (Below.refl _ _)).mono ?_
      rintro e w5 ⟨A3, m3, c3, rfl, ho3, hm3, hb5⟩
      go_wp2_with fail
      refine (SAM.out _ _ _ _ hb5 ho3 hm3).mono ?_
      rintro e w6 ⟨rfl, hb6⟩
      have B6 := Lib.hid (hb5.trans (hb6.mono hb5.size))
      clear ho3 hm3 hb5 hb6
      go_wp2_with fail
      refine (RN.out _).mono ?_
      rintro e w7 ⟨rfl, hb7⟩
      have B7 := Lib.hid (B6.out.trans (hb7.mono B6.out.size))
      clear hb7
      go_wp2_with (go_at_call 13; refine (IS.out _).mono ?_; rintro e w8 ⟨rfl, rfl⟩)
      refine (SNP.out _ B7.out).mono ?_
      rintro e w9 ⟨A4, m4, c4, rfl, ho4, hm4, hb9⟩
      have B9 := Lib.hid (B7.out.trans (hb9.mono B7.out.size))
      clear hb9
      go_wp2_with fail
      refine (SAM.out _ _ _ _ B9.out ho4 hm4).mono ?_
      rintro e w10 ⟨rfl, hb10⟩
      have B10 := Lib.hid (B4.out.trans ((B9.out.trans (hb10.mono B9.out.size)).mono B4.out.size))
      clear hb10 ho4 hm4
      go_wp2_with (go_at_call 7; refine (prAlive_any _).mono ?_; rintro e v7 ⟨rfl, hbv7⟩)
      go_ret
      exact ⟨rfl, B10.out.trans (hbv7.mono B10.out.size)⟩
    · have TR := Lib.hid (prTrace_any k _ D3.out (by omega) hk)
      have RR := Lib.hid (fun w1 (hb : Below w.heap.size w w1) => rPrRun_any l k A n c L w1 (HV.out.below hb) HRC.out (by omega) hk)
      have PRI := Lib.hid (fun j hl => pre_inv (cap := capW L k) (j := j) HRC.out hl)
      have LLE := Lib.hid (fun (j : Nat) hl => live_le (cap := capW L k) (j := j) HRC.out hl)
      rw [hk] at IS
      have HK := Lib.hid hk
      clear hk
      generalize hcap : capW L k = cap at *
      have HCAP := Lib.hid hcap
      clear hcap
      go_wp2_with fail
      generalize w2.alloc (.cells #[.int .i64 l, .slice A n c] 27) = W3 at *
      refine TR.out.mono ?_
      rintro e w4 ⟨j, A4, m4, c4, rfl, hl4, ho4, hb4⟩
      have D4 := Lib.hid (D3.out.below hb4)
      have B4 := Lib.hid (B3.out.trans (hb4.mono B3.out.size))
      have SB4 := Lib.hid (own_below SB3.out hb4)
      have V4 := Lib.hid (HV.out.below B4.out)
      have HL4 := Lib.hid hl4
      have O4 : Hid (OwnI 3 w4 W3.heap.size (.slice A4 m4 c4) (preS l cap L j)) := ho4
      clear hb4 TR hl4 ho4
      have SNP := Lib.hid (fun w5 (hb : Below w4.heap.size w4 w5) => (poSnap_any w5 (D4.out.below hb) (by omega)).mono (R' := fun e w' => ∃ A3 m3 c3, e = .returned (.slice A3 m3 c3) ∧ NodesAt w' (.slice A3 m3 c3) L ∧ m3 ≤ 1000 ∧ Below w5.heap.size w5 w') fun e w' ⟨A3, m3, c3, he, ho, hb⟩ => ⟨A3, m3, c3, he, ownNd_nodes ho, by have a1 := (nodes_cells (ownNd_nodes ho)).1; omega, hb⟩)
      have SAM := Lib.hid (fun (w5 : World) (A3 : Option Addr) (m3 c3 : Nat) (hb : Below w4.heap.size w4 w5) (ho : NodesAt w5 (.slice A3 m3 c3) L) (hm : m3 ≤ 1000) => prSame_below (rSame_any _ _ m3 c3 n c L L w5 ho (V4.out.below hb) (by omega) (by omega)))
      rw [hss] at SAM
      clear hss
      go_wp2_with fail
      refine (SNP.out _ (Below.refl _ _)).mono ?_
      rintro e w5 ⟨A3, m3, c3, rfl, ho3, hm3, hb5⟩
      go_wp2_with fail
      refine (SAM.out _ _ _ _ hb5 ho3 hm3).mono ?_
      rintro e w6 ⟨rfl, hb6⟩
      have B6 := Lib.hid (hb5.trans (hb6.mono hb5.size))
      have D6 := Lib.hid (D4.out.below B6.out)
      have SB6 := Lib.hid (own_below SB4.out B6.out)
      have O6 := Lib.hid (own_below O4.out B6.out)
      have BW6 := Lib.hid (B4.out.trans (B6.out.mono B4.out.size))
      clear ho3 hm3 hb5 hb6
      have RN := Lib.hid (prRun_any k w6 D6.out (by omega) HK.out)
      rw [HCAP.out] at RN
      go_wp2_with fail
      refine RN.out.mono ?_
      rintro e w7 ⟨j7, h7, rfl, hl7, hd7, hc7, hh7⟩
      obtain rfl : j = j7 := live_uniq HL4.out.1 hl7.1 HL4.out.2 hl7.2
      have D7 := Lib.hid hd7
      have lt7 := D6.out.lt
      have BW7 := Lib.hid (BW6.out.trans (hc7.below lt7.2.1 lt7.2.2.2.1 BW6.out.size))
      have SB7 := Lib.hid (D6.out.other SB6.out hc7 (by decide) (by decide) (by decide) (by decide))
      have KP7 := Lib.hid hc7.kp
      have O7 : Hid (OwnI 3 w7 W3.heap.size (.slice A4 m4 c4) (preS l cap L j)) := by
        refine own_kp O6.out hc7.kp fun i e f => ?_
        have a1 := (World.ownsRow.lt O4.out i e).1
        have a2 := D3.out.lt
        omega
      clear hl7 hd7 hc7 hh7 lt7 RN
      obtain ⟨s0, s1, _, _, _⟩ := box_cells SB7.out
      go_wp2_with (go_at_call 13; refine (IS.out _).mono ?_; rintro e w8 ⟨rfl, rfl⟩)
      have PI := Lib.hid (PRI.out j HL4.out.1)
      have JL := LLE.out j HL4.out.1
      have JL2 : j ≤ 4800 := by
        have u := D7.out.uni
        have a1 := HNL.out
        have a2 : l * (L.length : Int) ≤ 48 * (L.length : Int) := Int.mul_le_mul_of_nonneg_right u.2 (by omega)
        omega
      have PLN := preS_len l cap L j
      refine (RR.out _ BW7.out).mono ?_
      rintro e w8 ⟨j8, A8, m8, c8, A9, m9, c9, rfl, hl8, hn8, ho9, hb8⟩
      obtain rfl : j = j8 := live_uniq HL4.out.1 hl8.1 HL4.out.2 hl8.2
      have D8 := D7.out.below hb8
      have BW8 := BW7.out.trans (hb8.mono BW7.out.size)
      have O8 := ownI_ints (own_below O7.out hb8)
      have hm8 : m8 ≤ 1000 := by
        have a1 := (nodes_cells hn8).1
        have a2 := PI.out.len
        omega
      have hm4 : m4 ≤ 5000 := by
        have a1 := (ints_cells O8).1
        omega
      have hi9 := ownI_ints ho9
      obtain rfl : j = m9 := by
        have a1 := (ints_cells hi9).1
        omega
      have HPL : (preA l cap L j).length ≤ 60 := by have := PI.out.len; omega
      generalize preA l cap L j = M at *
      generalize preS l cap L j = T at *
      have hba : Below w8.heap.size w8 (w8.alloc (.cells #[.int .i64 l, .slice A8 m8 c8] 27)) := (Below.refl _ _).alloc (Nat.le_refl _) _
      have D9 := Lib.hid (D8.below hba)
      have BW9 := Lib.hid (BW8.trans (hba.mono BW8.size))
      have O9 := Lib.hid (O8.below hba)
      have I9 := Lib.hid (hi9.below hba)
      have N9 := Lib.hid (hn8.below hba)
      obtain ⟨t0, t1, _, _, hz⟩ := box_cells (foBx2 w8 27 (.int .i64 l) (.slice A8 m8 c8))
      have HZ9 := Lib.hid hz
      clear hba hz D8 BW8 O8 hi9 hn8 ho9 hb8 hl8 RR s0 s1 PLN JL
      go_wp2_with fail
      generalize w8.alloc (.cells #[.int .i64 l, .slice A8 m8 c8] 27) = W9 at *
      have SN9 := Lib.hid (fun w5 (hb : Below W9.heap.size W9 w5) => (poSnap_any w5 (D9.out.below hb) (by omega)).mono (R' := fun e w' => ∃ A3 m3 c3, e = .returned (.slice A3 m3 c3) ∧ NodesAt w' (.slice A3 m3 c3) M ∧ m3 ≤ 1000 ∧ Below w5.heap.size w5 w') fun e w' ⟨A3, m3, c3, he, ho, hb⟩ => ⟨A3, m3, c3, he, ownNd_nodes ho, by have a1 := (nodes_cells (ownNd_nodes ho)).1; omega, hb⟩)
      have SA9 := Lib.hid (fun (w6 : World) (A3 : Option Addr) (m3 c3 : Nat) (hb : Below W9.heap.size W9 w6) (ho : NodesAt w6 (.slice A3 m3 c3) M) (hm : m3 ≤ 1000) => prSame_below (rSame_any _ _ m3 c3 m8 c8 M M w6 ho (N9.out.below hb) (by omega) (by omega)))
      rw [same_self] at SA9
      have SI9 := Lib.hid (fun (w5 : World) (hb : Below W9.heap.size W9 w5) => same5_any A4 A9 m4 j c4 c9 T T w5 (O9.out.below hb) (I9.out.below hb) (by omega) (by omega))
      rw [show decide (T = T) = true from decide_eq_true rfl] at SI9
      go_region_held3 (fun w' => w'.cell? ⟨w8.heap.size, 0, none⟩ = some (.int .i64 l) ∧ w'.cell? ⟨w8.heap.size, 1, none⟩ = some (.slice A8 m8 c8) ∧ Below W9.heap.size W9 w')
        (first | assumption | (exact keep_two (by assumption) (by assumption) HZ9.out HZ9.out) | (exact ⟨t0, t1, below_drew _⟩))
        (first
          | ((with_reducible refine (SI9.out _ (below_of (p := ⟨w8.heap.size, 0, none⟩) (x := .int .i64 l) (q := ⟨w8.heap.size, 1, none⟩) (y := .slice A8 m8 c8) (by assumption))).mono ?_); rintro e v1 ⟨rfl, hbv1⟩)
          | ((with_reducible refine (SN9.out _ (below_of (p := ⟨w8.heap.size, 0, none⟩) (x := .int .i64 l) (q := ⟨w8.heap.size, 1, none⟩) (y := .slice A8 m8 c8) (by assumption))).mono ?_); rintro e v2 ⟨A3', m3', c3', rfl, ho3', hm3', hbv2⟩)
          | ((with_reducible refine (SA9.out _ _ _ _ (below_of (p := ⟨w8.heap.size, 0, none⟩) (x := .int .i64 l) (q := ⟨w8.heap.size, 1, none⟩) (y := .slice A8 m8 c8) (by assumption)) ho3' hm3').mono ?_); rintro e v3 ⟨rfl, hbv3⟩)
          | (go_at_call 7; refine (prAlive_any _).mono ?_; rintro e v7 ⟨rfl, hbv7⟩))
      rename_i hH
      have hbb := hH.2.2
      go_wp2_with fail
      go_ret
      exact ⟨rfl, BW9.out.trans (hbb.mono BW9.out.size)⟩
  · rw [show decide (FewP kd l n L) = false from decide_eq_false hI] at FW
    clear hI
    go_enter Tryz.func3, Tryz.ntmps3
    go_wp2_with (first
      | (go_at_call 6; refine FW.out.mono ?_; rintro e w1 ⟨rfl, hb1⟩)
      | (go_at_call 7; refine (prAlive_any _).mono ?_; rintro e u6 ⟨rfl, hbu6⟩))
    go_ret
    exact ⟨rfl, hb1.trans (hbu6.mono hb1.size)⟩

end Go.Proofs.YtabbpcpnabecmaaGreat
