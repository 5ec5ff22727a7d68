/- The walk of the statement PressTells of layer press: for every input it returns true, and nothing that was there before is changed. -/
import Derived.Test.YtabbpcpnabecmaaGreatPrLaw
namespace Go.Proofs.YtabbpcpnabecmaaGreat
set_option linter.unusedVariables false
set_option maxRecDepth 100000
open Go.RowKit

set_option maxHeartbeats 3200000 in
theorem walk_pressTells (kd l : Int) (A : Option Addr) (n c : Nat) (L : List Nd) (k : Int) (K0 : -9223372036854775808 ≤ kd) (K1 : kd ≤ 9223372036854775807) (L0 : -9223372036854775808 ≤ l) (L1 : l ≤ 9223372036854775807) (NB : NBds L) (m1 : n ≤ 9223372036854775807)
    (A0 : -9223372036854775808 ≤ k) (A1 : k ≤ 9223372036854775807) (w : World) (H1 : NodesAt w (.slice A n c) L) :
    Calls Tryz.prog 4 #[.int .i64 kd, .int .i64 l, .slice A n c, .int .i64 k] w fun e w' => e = .returned (.bool true) ∧ Below w.heap.size w w' := by
  have HV := Lib.hid H1
  have HNB : Hid (NBds L) := NB
  have FW := Lib.hid (prFew_any kd l A n c L w H1 NB L0 L1)
  have BD := Lib.hid (fun w => prBound_any k w A0 A1)
  have RB := Lib.hid (fun w => rPrBound_any k w A0 A1)
  generalize bndN k = bn at *
  clear H1 NB
  by_cases hI : FewP kd l n L
  · rw [show decide (FewP kd l n L) = true from decide_eq_true hI] at FW
    obtain ⟨⟨hn, hp, _, hr⟩, _⟩ := hI
    have hRC : RollC l L := of_decide_eq_true hr
    have HRC := Lib.hid hRC
    have hlen : L.length ≤ 60 := by have := (nodes_cells HV.out).1; omega
    have MD := Lib.hid (fun w1 (hb : Below w.heap.size w w1) => prMade_any kd l A n c L w1 (HV.out.below hb) HNB.out (by omega) L0 L1 hp hr)
    have RT := Lib.hid (fun w1 (hb : Below w.heap.size w w1) => rPrTight_any l k A n c L w1 (HV.out.below hb) hRC (by omega) A0 A1)
    have RL := Lib.hid (fun w1 (hb : Below w.heap.size w w1) => rPrLight_any l k A n c L w1 (HV.out.below hb) hRC (by omega) A0 A1)
    clear hp hr hRC
    go_enter Tryz.func4, Tryz.ntmps4
    go_wp2_with fail
    refine FW.out.mono ?_
    rintro e w1 ⟨rfl, hb1⟩
    have B1 := Lib.hid hb1
    clear hb1 FW
    go_wp2_with fail
    refine (MD.out _ B1.out).mono ?_
    rintro e w2 ⟨p, g, h, rfl, hd, hb2⟩
    have D2 := Lib.hid hd
    have B2 := Lib.hid (B1.out.trans (hb2.mono B1.out.size))
    clear hd hb2 MD
    have hba : Below w2.heap.size w2 (w2.alloc (.cells #[.int .i64 l, .slice A n c] 27)) := (Below.refl _ _).alloc (Nat.le_refl _) _
    have SB3 := Lib.hid (foBx2 w2 27 (.int .i64 l) (.slice A n c))
    have D3 := Lib.hid (D2.out.below hba)
    have B3 := Lib.hid (B2.out.trans (hba.mono B2.out.size))
    obtain ⟨s0, s1, _, _, hz⟩ := box_cells SB3.out
    have HZ3 := Lib.hid hz
    clear hba hz
    go_wp2_with fail
    generalize w2.alloc (.cells #[.int .i64 l, .slice A n c] 27) = W3 at *
    have PT := Lib.hid (fun w6 (hb : Below W3.heap.size W3 w6) => prTight_any k w6 (D3.out.below hb) (by omega) A0 A1)
    have PL := Lib.hid (fun w6 (hb : Below W3.heap.size W3 w6) => prLight_any k w6 (D3.out.below hb) (by omega))
    have RTX := Lib.hid (fun w6 (hb : Below W3.heap.size W3 w6) => RT.out w6 (B3.out.trans (hb.mono B3.out.size)))
    have RLX := Lib.hid (fun w6 (hb : Below W3.heap.size W3 w6) => RL.out w6 (B3.out.trans (hb.mono B3.out.size)))
    generalize tightB l L k = tb at *
    generalize lightB l L k = lb at *
    have e1 : (tb == tb) = true := by cases tb <;> rfl
    have e2 : (lb == lb) = true := by cases lb <;> rfl
    clear RT RL
    go_region_held3 (fun w' => w'.cell? ⟨w2.heap.size, 0, none⟩ = some (.int .i64 l) ∧ w'.cell? ⟨w2.heap.size, 1, none⟩ = some (.slice A n c) ∧ Below W3.heap.size W3 w')
      (first | assumption | (exact keep_two (by assumption) (by assumption) HZ3.out HZ3.out) | (exact ⟨s0, s1, below_drew _⟩))
      (first
        | ((with_reducible refine (PT.out _ (below_of (p := ⟨w2.heap.size, 0, none⟩) (x := .int .i64 l) (q := ⟨w2.heap.size, 1, none⟩) (y := .slice A n c) (by assumption))).mono ?_); rintro e v1 ⟨rfl, hbv1⟩)
        | ((with_reducible refine (PL.out _ (below_of (p := ⟨w2.heap.size, 0, none⟩) (x := .int .i64 l) (q := ⟨w2.heap.size, 1, none⟩) (y := .slice A n c) (by assumption))).mono ?_); rintro e v2 ⟨rfl, hbv2⟩)
        | ((with_reducible refine (RTX.out _ (below_of (p := ⟨w2.heap.size, 0, none⟩) (x := .int .i64 l) (q := ⟨w2.heap.size, 1, none⟩) (y := .slice A n c) (by assumption))).mono ?_); rintro e v3 ⟨rfl, hbv3⟩)
        | ((with_reducible refine (RLX.out _ (below_of (p := ⟨w2.heap.size, 0, none⟩) (x := .int .i64 l) (q := ⟨w2.heap.size, 1, none⟩) (y := .slice A n c) (by assumption))).mono ?_); rintro e v4 ⟨rfl, hbv4⟩)
        | (go_at_call 16; refine (BD.out _).mono ?_; rintro e v5 ⟨rfl, rfl⟩)
        | (go_at_call 17; refine (RB.out _).mono ?_; rintro e v6 ⟨rfl, rfl⟩)
        | (go_at_call 7; refine (prAlive_any _).mono ?_; rintro e v7 ⟨rfl, hbv7⟩))
    rename_i hH
    have hbb := hH.2.2
    go_wp2_with fail
    go_ret
    exact ⟨rfl, B3.out.trans (hbb.mono B3.out.size)⟩
  · rw [show decide (FewP kd l n L) = false from decide_eq_false hI] at FW
    clear hI
    go_enter Tryz.func4, Tryz.ntmps4
    go_wp2_with (first
      | (go_at_call 6; refine FW.out.mono ?_; rintro e w1 ⟨rfl, hb1⟩)
      | (go_at_call 16; refine (BD.out _).mono ?_; rintro e w2 ⟨rfl, rfl⟩)
      | (go_at_call 17; refine (RB.out _).mono ?_; rintro e w3 ⟨rfl, rfl⟩)
      | (go_at_call 7; refine (prAlive_any _).mono ?_; rintro e u6 ⟨rfl, hbu6⟩))
    go_ret
    exact ⟨rfl, hb1.trans (hbu6.mono hb1.size)⟩

end Go.Proofs.YtabbpcpnabecmaaGreat
