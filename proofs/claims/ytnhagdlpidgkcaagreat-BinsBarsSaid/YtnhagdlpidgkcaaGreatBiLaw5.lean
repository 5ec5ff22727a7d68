/- The walk of the statement BinsBars of layer bins, over the project's contracts: for every input it returns true, and nothing that was there before is changed. -/
import Derived.Test.YtnhagdlpidgkcaaGreatBiLaw
import Derived.Test.YtnhagdlpidgkcaaGreatBiR
import Derived.Deep.Cut
namespace Go.Proofs.YtnhagdlpidgkcaaGreat
set_option linter.unusedVariables false
set_option maxRecDepth 100000
open Go.RowKit
set_option maxHeartbeats 12800000 in
theorem walk_binsBarsK (KO : BiO) (KR : BiBr) (KH : BiH) (A1 : Option Addr) (n1 c1 : Nat) (U : List Int) (wd : Int) (UB : Bds U) (m2 : n1 ≤ 9223372036854775807) (W0 : -9223372036854775808 ≤ wd) (W1 : wd ≤ 9223372036854775807) (w : World) (hu : IntsAt w (.slice A1 n1 c1) U) :
    Calls Tryz.prog 6 #[.slice A1 n1 c1, .int .i64 wd] w fun e w' => e = .returned (.bool true) ∧ Below w.heap.size w w' := by
  have AL := Lib.hid (fun v => biAlive_any KO KR v)
  by_cases h100 : 100 < n1
  · have h100' : (100 : Int) < (n1 : Int) := by omega
    clear KO KR KH hu UB
    go_enter Tryz.func6, Tryz.ntmps6
    go_wp2_with (go_at_call 11; refine (AL.out _).mono ?_; rintro e v7 ⟨rfl, hbv7⟩)
    go_ret
    exact ⟨rfl, hbv7⟩
  · have h100' : ¬ (100 : Int) < (n1 : Int) := by omega
    have el := (ints_cells hu).1
    have HV := Lib.hid (fun v (hb : Below w.heap.size w v) => KH.heav v (hu.below hb) UB (by omega))
    have RV := Lib.hid (fun v (hb : Below w.heap.size w v) => rBiHeav_any A1 n1 c1 U v (hu.below hb) (by omega))
    have PF := Lib.hid (fun v (hb : Below w.heap.size w v) => KR.bars wd v (hu.below hb) UB (by omega) W0 W1)
    have RF := Lib.hid (fun v (hb : Below w.heap.size w v) => rBiBars_any A1 n1 c1 U wd v (hu.below hb) UB (by omega) W0 W1)
    have TLn : (if barB U wd = true then barsN U wd else []).length ≤ 100 := by
      split
      · rw [bars_len]; omega
      · simp
    generalize (if barB U wd = true then barsN U wd else []) = T at *
    generalize barB U wd = bb at *
    generalize ((hvA U U.length : Nat) : Int) = hv at *
    generalize decide (0 < U.length) = hb0 at *
    have c1' : (hv == hv) = true := by simp
    have c2' : (hb0 == hb0) = true := by simp
    have c3' : (bb == bb) = true := by simp
    have HTL := Lib.hid TLn
    clear KO KR KH hu UB TLn el
    go_enter Tryz.func6, Tryz.ntmps6
    go_wp2_with fail
    refine (HV.out _ (Below.refl _ _)).mono ?_
    rintro e w1 ⟨rfl, hb1⟩
    have B1 := Lib.hid hb1
    clear hb1
    go_wp2_with fail
    refine (RV.out _ B1.out).mono ?_
    rintro e w2 ⟨rfl, hb2⟩
    have B2 := Lib.hid (bi_next B1.out hb2)
    clear hb2
    go_wp2_with fail
    refine (PF.out _ B2.out).mono ?_
    rintro e u3 ⟨⟨A3, n3, c3, rfl, hi3⟩, hu3⟩
    have B3 := Lib.hid (bi_next B2.out hu3)
    have I3 := Lib.hid hi3
    have n3e := (ints_cells hi3).1
    have N3 : Hid (n3 ≤ 100) := by show _ ≤ _; have := HTL.out; omega
    clear hu3 hi3 n3e
    go_wp2_with fail
    refine (RF.out _ B3.out).mono ?_
    rintro e u4 ⟨⟨A4, n4, c4, rfl, hi4⟩, hu4⟩
    have n4e := (ints_cells hi4).1
    have N4 : Hid (n4 ≤ 100) := by show _ ≤ _; have := HTL.out; omega
    have B4 := Lib.hid (bi_next B3.out hu4)
    have SM := Lib.hid (same5_any A3 A4 n3 n4 c3 c4 T T u4 (I3.out.below hu4) hi4 (by have := N3.out; omega) (by have := N4.out; omega))
    rw [show decide (T = T) = true from decide_eq_true rfl] at SM
    clear hi4 hu4 n4e I3
    go_wp2_with fail
    refine SM.out.mono ?_
    rintro e u5 ⟨rfl, hu5⟩
    have B5 := Lib.hid (bi_next B4.out hu5)
    clear hu5
    go_wp2_with (go_at_call 11; refine (AL.out _).mono ?_; rintro e v7 ⟨rfl, hbv7⟩)
    go_ret
    exact ⟨rfl, B5.out.trans (hbv7.mono B5.out.size)⟩
end Go.Proofs.YtnhagdlpidgkcaaGreat
