/- The walk of the statement PressAlike of layer press: for every input it returns true, and nothing that was there before is changed. -/
import Derived.Test.YtabbpcpnabecmaaGreatPrLaw
namespace Go.Proofs.YtabbpcpnabecmaaGreat
set_option linter.unusedVariables false
set_option maxRecDepth 100000
open Go.RowKit

set_option maxHeartbeats 6400000 in
theorem walk_pressAlike (l : Int) (A : Option Addr) (n c : Nat) (L : List Nd) (k : Int) (L0 : -9223372036854775808 ≤ l) (L1 : l ≤ 9223372036854775807) (NB : NBds L) (m1 : n ≤ 9223372036854775807)
    (A0 : -9223372036854775808 ≤ k) (A1 : k ≤ 9223372036854775807) (w : World) (H1 : NodesAt w (.slice A n c) L) :
    Calls Tryz.prog 5 #[.int .i64 l, .slice A n c, .int .i64 k] w fun e w' => e = .returned (.bool true) ∧ Below w.heap.size w w' := by
  have HV := Lib.hid H1
  have HNB : Hid (NBds L) := NB
  have IS := Lib.hid (fun w1 (hb : Below w.heap.size w w1) => foIs_any 1 l A n c L w1 (H1.below hb) NB L0 L1)
  clear H1 NB
  by_cases hI : IsFo 1 l n L
  · rw [show decide (IsFo 1 l n L) = true from decide_eq_true hI] at IS
    have u := isFo_uni hI
    obtain ⟨hn, hp, _, hr⟩ := hI
    have hp2 : isP 2 l = true := decide_eq_true (.inr ⟨rfl, u.1, u.2⟩)
    have hRC : RollC l L := of_decide_eq_true hr
    have hlen : L.length ≤ 60 := by have := (nodes_cells HV.out).1; omega
    have MD := Lib.hid (fun w1 (hb : Below w.heap.size w w1) => prMade_any 1 l A n c L w1 (HV.out.below hb) HNB.out (by omega) L0 L1 hp hr)
    have ME := Lib.hid (fun w1 (hb : Below w.heap.size w w1) => prMade_any 2 l A n c L w1 (HV.out.below hb) HNB.out (by omega) L0 L1 hp2 hr)
    have PRI := Lib.hid (fun j hl => pre_inv (cap := capW L k) (j := j) hRC hl)
    clear hp hp2 hr
    go_enter Tryz.func5, Tryz.ntmps5
    go_wp2_with fail
    refine (prRun_nil k w).mono ?_
    rintro e w1 ⟨rfl, hb1⟩
    have B1 := Lib.hid hb1
    clear hb1
    go_wp2_with fail
    refine (prTrace_nil k w1).mono ?_
    rintro e w2 ⟨rfl, hb2⟩
    have B2 := Lib.hid (B1.out.trans (hb2.mono B1.out.size))
    clear hb2
    go_wp2_with (first
      | (go_at_call 18; refine (prTight_nil _ _).mono ?_; rintro e w3 ⟨rfl, rfl⟩)
      | (go_at_call 20; refine (prLight_nil _ _).mono ?_; rintro e w3 ⟨rfl, hb3⟩))
    have B3 := Lib.hid (B2.out.trans (hb3.mono B2.out.size))
    clear hb3
    go_wp2_with fail
    refine (IS.out _ B3.out).mono ?_
    rintro e w4 ⟨rfl, hb4⟩
    have B4 := Lib.hid (B3.out.trans (hb4.mono B3.out.size))
    clear hb4
    go_wp2_with fail
    refine (MD.out _ B4.out).mono ?_
    rintro e w5 ⟨p, g, h, rfl, hd, hb5⟩
    have hba : Below w5.heap.size w5 (w5.alloc (.cells #[.int .i64 l, .slice A n c] 27)) := (Below.refl _ _).alloc (Nat.le_refl _) _
    have D5 := Lib.hid ((hd.low B4.out.size).below hba)
    have B5' := Lib.hid (B4.out.trans (hb5.mono B4.out.size))
    have B5 := Lib.hid (B5'.out.trans (hba.mono B5'.out.size))
    clear hd hb5 hba
    go_wp2_with fail
    generalize w5.alloc (.cells #[.int .i64 l, .slice A n c] 27) = W5 at *
    refine (ME.out _ B5.out).mono ?_
    rintro e w6 ⟨p2, g2, h2, rfl, hd, hb6⟩
    have hba : Below w6.heap.size w6 (w6.alloc (.cells #[.int .i64 l, .slice A n c] 27)) := (Below.refl _ _).alloc (Nat.le_refl _) _
    have D6 := Lib.hid ((D5.out.below hb6).below hba)
    have E6 := Lib.hid ((hd.low B5.out.size).below hba)
    have GG : Hid (g2 ≠ g) := by have := hd.lt; have := D5.out.lt; show _ ≠ _; omega
    have HH : Hid (h2 ≠ h) := by have := hd.lt; have := D5.out.lt; show _ ≠ _; omega
    have B6' := Lib.hid (B5.out.trans (hb6.mono B5.out.size))
    have B6 := Lib.hid (B6'.out.trans (hba.mono B6'.out.size))
    clear hd hb6 MD ME IS hba
    cases hk : kIs k
    · go_wp2_with fail
      generalize w6.alloc (.cells #[.int .i64 l, .slice A n c] 27) = W6 at *
      refine (prRun_no p k W6 hk).mono ?_
      rintro e w7 ⟨rfl, hb7⟩
      have D7 := Lib.hid (D6.out.below hb7)
      have E7 := Lib.hid (E6.out.below hb7)
      have B7 := Lib.hid (B6.out.trans (hb7.mono B6.out.size))
      clear hb7
      go_wp2_with fail
      refine (prRun_no p2 k w7 hk).mono ?_
      rintro e w8 ⟨rfl, hb8⟩
      have D8 := Lib.hid (D7.out.below hb8)
      have E8 := Lib.hid (E7.out.below hb8)
      have B8 := Lib.hid (B7.out.trans (hb8.mono B7.out.size))
      have PS := Lib.hid (poSame_any w8 D8.out E8.out (by omega) (by omega))
      rw [same_self] at PS
      clear hb8
      go_wp2_with fail
      refine PS.out.mono ?_
      rintro e w9 ⟨rfl, hb9⟩
      go_wp2_with (go_at_call 7; refine (prAlive_any _).mono ?_; rintro e v7 ⟨rfl, hbv7⟩)
      go_ret
      exact ⟨rfl, (B8.out.trans (hb9.mono B8.out.size)).trans (hbv7.mono (B8.out.trans (hb9.mono B8.out.size)).size)⟩
    · go_wp2_with fail
      generalize w6.alloc (.cells #[.int .i64 l, .slice A n c] 27) = W6 at *
      refine (prRun_any k W6 D6.out (by omega) hk).mono ?_
      rintro e w7 ⟨j, h3, rfl, hl1, hd, hc, hh⟩
      have E7 := Lib.hid (E6.out.chg D6.out hc GG.out HH.out)
      have HH7 : Hid (h3 ≠ h2) := by
        have a := E6.out.lt
        have b := HH.out
        show _ ≠ _
        rcases hh with q | q <;> omega
      have D7 := Lib.hid hd
      have lt3 := D6.out.lt
      have B7 := Lib.hid (B6.out.trans (hc.below lt3.2.1 lt3.2.2.2.1 B6.out.size))
      have HL1 := Lib.hid hl1
      clear hd hc hh hl1 lt3
      go_wp2_with fail
      refine (prRun_any k w7 E7.out (by omega) hk).mono ?_
      rintro e w8 ⟨j2, h4, rfl, hl2, hd, hc, hh⟩
      obtain rfl : j = j2 := live_uniq HL1.out.1 hl2.1 HL1.out.2 hl2.2
      have D8 := Lib.hid (D7.out.chg E7.out hc (fun q => GG.out q.symm) HH7.out)
      have E8 := Lib.hid hd
      have lt4 := E7.out.lt
      have B8 := Lib.hid (B7.out.trans (hc.below lt4.2.1 lt4.2.2.2.1 B7.out.size))
      have PS := Lib.hid (poSame_any w8 D8.out E8.out (by omega) (by omega))
      rw [same_self] at PS
      clear hd hc hh hl2 lt4
      go_wp2_with fail
      refine PS.out.mono ?_
      rintro e w9 ⟨rfl, hb9⟩
      go_wp2_with (go_at_call 7; refine (prAlive_any _).mono ?_; rintro e v7 ⟨rfl, hbv7⟩)
      go_ret
      exact ⟨rfl, (B8.out.trans (hb9.mono B8.out.size)).trans (hbv7.mono (B8.out.trans (hb9.mono B8.out.size)).size)⟩
  · rw [show decide (IsFo 1 l n L) = false from decide_eq_false hI] at IS
    clear hI
    go_enter Tryz.func5, Tryz.ntmps5
    go_wp2_with fail
    refine (prRun_nil k w).mono ?_
    rintro e w1 ⟨rfl, hb1⟩
    have B1 := Lib.hid hb1
    clear hb1
    go_wp2_with fail
    refine (prTrace_nil k w1).mono ?_
    rintro e w2 ⟨rfl, hb2⟩
    have B2 := Lib.hid (B1.out.trans (hb2.mono B1.out.size))
    clear hb2
    go_wp2_with (first
      | (go_at_call 18; refine (prTight_nil _ _).mono ?_; rintro e w3 ⟨rfl, rfl⟩)
      | (go_at_call 20; refine (prLight_nil _ _).mono ?_; rintro e w3 ⟨rfl, hb3⟩))
    have B3 := Lib.hid (B2.out.trans (hb3.mono B2.out.size))
    clear hb3
    go_wp2_with fail
    refine (IS.out _ B3.out).mono ?_
    rintro e w4 ⟨rfl, hb4⟩
    have B4 := Lib.hid (B3.out.trans (hb4.mono B3.out.size))
    clear hb4
    go_wp2_with (go_at_call 7; refine (prAlive_any _).mono ?_; rintro e v7 ⟨rfl, hbv7⟩)
    go_ret
    exact ⟨rfl, B4.out.trans (hbv7.mono B4.out.size)⟩

end Go.Proofs.YtabbpcpnabecmaaGreat
