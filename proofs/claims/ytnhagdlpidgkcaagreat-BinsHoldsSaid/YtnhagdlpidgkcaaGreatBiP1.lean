/- The project's package bins: Right, Heaviest, what is refused; rows gone over within a loop over a function. -/
import Derived.Test.YtnhagdlpidgkcaaGreatBiK
import Derived.Test.YtnhagdlpidgkcaaGreatRkT
import Derived.Deep.Cut
import Derived.Deep.DeepCutAuto
namespace Go.Proofs.YtnhagdlpidgkcaaGreat
set_option linter.unusedVariables false
set_option maxRecDepth 100000
open Go.RowKit
theorem biLog_one : logN 1 = 0 := (dep_is (id := 1) (k := 0) ⟨by decide, by decide⟩ (by omega)).1
theorem biRoot {l : Int} : rightB l 1 = uniB l := by
  unfold rightB uniB
  exact decide_eq_decide.2 ⟨fun h => ⟨h.1, h.2.1⟩, fun h => ⟨h.1, h.2, by omega, by rw [biLog_one]; omega⟩⟩
theorem biRoot_end {l : Int} (h : 1 ≤ l ∧ l ≤ 48) : hiN l 1 = 2 ^ l.toNat - 1 := by
  have r : RightC l 1 := ⟨h.1, h.2, by omega, by rw [biLog_one]; omega⟩
  obtain ⟨k, j, e1, e2, _, _, d, e3⟩ := right_dep r (by omega)
  rw [(end_yes r).2.1, e3]
  rw [biLog_one] at e1
  have k0 : k = 0 := by omega
  subst k0
  have : l.toNat = j := by omega
  rw [this]; omega
theorem biInts_at {w : World} {A : Option Addr} {n c i : Nat} {S : List Int} (h : IntsAt w (.slice A n c) S) (hi : i < n) : ∃ b o, A = some ⟨b, o, none⟩ ∧ b < w.heap.size ∧ w.cell? ⟨b, o + i, none⟩ = some (.int .i64 (S.getD i 0)) := by
  obtain ⟨e, hc⟩ := ints_cells h
  obtain ⟨b, o, h1, h2, h3⟩ := hc (by omega)
  exact ⟨b, o, h1, h2, h3 i (by omega)⟩
/-- the edge ahead of one's place -/
def biPr (E : List Int) (j : Nat) : Int := if j = 0 then -1 else E.getD (j - 1) 0
theorem biPr_next (E : List Int) (j : Nat) : biPr E (j + 1) = E.getD j 0 := by unfold biPr; rw [if_neg (by omega), Nat.add_sub_cancel]
theorem biPr_at {l : Int} {E : List Int} {j : Nat} (h : leafB l (E.getD j 0) = true) : EgP l E j ↔ biPr E j < E.getD j 0 := by
  have v := biLeaf.1 h
  unfold EgP biPr
  by_cases z : j = 0
  · subst z; rw [if_pos rfl]; exact ⟨fun _ => by have := v.2.2.1; omega, fun _ => ⟨h, fun q => absurd q (by omega)⟩⟩
  · rw [if_neg z]; exact ⟨fun q => q.2 (by omega), fun q => ⟨h, fun _ => q⟩⟩
theorem biPr_bd {E : List Int} (h : Bds E) {j : Nat} (hj : j ≤ E.length) : -9223372036854775808 ≤ biPr E j ∧ biPr E j ≤ 9223372036854775807 := by
  unfold biPr
  split
  · omega
  · exact bds_at h (by omega)
set_option maxHeartbeats 3200000 in
theorem biRight_any {A : Option Addr} {n c : Nat} {E : List Int} (l : Int) (w : World) (h : IntsAt w (.slice A n c) E) (UB : Bds E) (hn : n ≤ 1000) (L0 : -9223372036854775808 ≤ l) (L1 : l ≤ 9223372036854775807) :
    Calls Tryz.prog 14 #[.int .i64 l, .slice A n c] w fun e w' => e = .returned (.bool (egB l E)) ∧ Below w.heap.size w w' := by
  have HL := Lib.hid (ints_cells h).1
  have HA := Lib.hid h
  have HB := Lib.hid UB
  have LF := Lib.hid (fun x v a b => leaf_any l x v L0 L1 a b)
  have RT := Lib.hid (fun v => right_any l 1 v L0 L1 (by omega) (by omega))
  rw [biRoot] at RT
  obtain ⟨Z, hZ⟩ : ∃ Z, Z = egB l E := ⟨_, rfl⟩
  rw [← hZ]
  have ZZ := Lib.hid hZ
  clear h UB hZ
  cases hu : uniB l
  · have NO : Z = false := by
      rw [ZZ.out]; unfold egB; rw [hu]; rfl
    rw [hu] at RT
    subst NO
    clear hu ZZ
    go_enter Tryz.func14, Tryz.ntmps14
    go_wp2_with (go_at_call 37; refine (RT.out _).mono ?_; rintro e w1 ⟨rfl, rfl⟩)
    go_ret
    exact ⟨rfl, Below.refl _ _⟩
  · rw [hu] at RT
    have HU := Lib.hid hu
    clear hu
    go_enter Tryz.func14, Tryz.ntmps14
    go_wp2_with (go_at_call 37; refine (RT.out _).mono ?_; rintro e w1 ⟨rfl, rfl⟩)
    go_loopw [5, 15] (fun p i wr => ∃ j : Nat, j ≤ n ∧ p = .int .i64 (biPr E j) ∧ i = .int .i64 j ∧ Hid (∀ i, i < j → EgP l E i) ∧ Below w.heap.size w wr) (fun _ i _ => n - (intOf i).toNat)
    case atStart => exact ⟨0, by omega, rfl, rfl, Lib.hid (fun i hi => absurd hi (by omega)), Below.refl _ _⟩
    case round =>
      obtain ⟨j, hj, rfl, rfl, hz, hbw⟩ := hrel
      have BW := Lib.hid hbw
      have EP := Lib.hid hz.out
      clear hz hbw
      by_cases hlt : j < n
      · have hjl : j < E.length := by have := HL.out; omega
        obtain ⟨b, o, rfl, hbz, e0⟩ := biInts_at (HA.out.below BW.out) hlt
        have bd := bds_at HB.out hjl
        have pb := biPr_bd HB.out (j := j) (by omega)
        have PN := Lib.hid (biPr_next E j)
        have j0 : (0 : Int) ≤ (j : Int) := Int.natCast_nonneg _
        have j1 : (j : Int) < (n : Int) := by omega
        have LFx := Lib.hid (LF.out (E.getD j 0) wr bd.1 bd.2)
        cases hlf : leafB l (E.getD j 0)
        · have NO : Z = false := ZZ.out.trans (eg_no hjl (fun q => by rw [q.1] at hlf; cases hlf))
          rw [hlf] at LFx
          subst NO
          clear hlf ZZ
          generalize leafN l (E.getD j 0) = lf at *
          generalize E.getD j 0 = x at *
          generalize biPr E j = p at *
          go_wp2_with (go_at_call 38; refine LFx.out.mono ?_; rintro e w4 ⟨rfl, rfl⟩)
          go_ret
          exact ⟨rfl, BW.out⟩
        · rw [hlf] at LFx
          have EA := biPr_at hlf
          by_cases hx : E.getD j 0 ≤ biPr E j
          · have NO : Z = false := ZZ.out.trans (eg_no hjl (fun q => by have := EA.1 q; omega))
            subst NO
            clear hlf ZZ EA
            generalize leafN l (E.getD j 0) = lf at *
            generalize E.getD j 0 = x at *
            generalize biPr E j = p at *
            go_wp2_with (go_at_call 38; refine LFx.out.mono ?_; rintro e w4 ⟨rfl, rfl⟩)
            go_ret
            exact ⟨rfl, BW.out⟩
          · have EN : ∀ i, i < j + 1 → EgP l E i := fun i hi => by
              rcases Nat.lt_or_ge i j with q | q
              · exact EP.out i q
              · have : i = j := by omega
                subst this
                exact EA.2 (by omega)
            have EN1 := Lib.hid EN
            clear hlf EA EN EP
            generalize leafN l (E.getD j 0) = lf at *
            generalize E.getD j 0 = x at *
            generalize biPr E j = p at *
            go_wp2_with (go_at_call 38; refine LFx.out.mono ?_; rintro e w4 ⟨rfl, rfl⟩)
            go_roundw
            case rel => exact ⟨j + 1, by omega, by rw [PN.out], by go_num, EN1, BW.out⟩
            case measure => simp [intOf]; omega
      · obtain rfl : j = n := by omega
        have YES : Z = true := ZZ.out.trans (eg_iff.2 ⟨HU.out, fun i hi => EP.out i (by have := HL.out; omega)⟩)
        subst YES
        clear ZZ
        go_wp2_with fail
        go_ret
        exact ⟨rfl, BW.out⟩
theorem biRt : BiRt := ⟨fun l w h u hn a b => biRight_any l w h u hn a b⟩
set_option maxHeartbeats 3200000 in
theorem biHeav_any {A : Option Addr} {n c : Nat} {T : List Int} (w : World) (h : IntsAt w (.slice A n c) T) (UB : Bds T) (hn : n ≤ 1000) :
    Calls Tryz.prog 20 #[.slice A n c] w fun e w' => e = .returned (.tuple #[.int .i64 (hvA T T.length : Nat), .bool (decide (0 < T.length))]) ∧ Below w.heap.size w w' := by
  have HL := Lib.hid (ints_cells h).1
  have HA := Lib.hid h
  have HB := Lib.hid UB
  rw [← HL.out]
  obtain ⟨Z, hZ⟩ : ∃ Z, Z = hvA T n := ⟨_, rfl⟩
  rw [← hZ]
  have ZZ := Lib.hid hZ
  clear h UB hZ
  go_enter Tryz.func20, Tryz.ntmps20
  go_wp2_with fail
  go_loopw [4, 9] (fun p i wr => ∃ j : Nat, j ≤ n ∧ p = .int .i64 (hvA T j : Nat) ∧ i = .int .i64 j ∧ Below w.heap.size w wr) (fun _ i _ => n - (intOf i).toNat)
  case atStart => exact ⟨0, by omega, rfl, rfl, Below.refl _ _⟩
  case round =>
    obtain ⟨j, hj, rfl, rfl, hbw⟩ := hrel
    have BW := Lib.hid hbw
    clear hbw
    by_cases hlt : j < n
    · have hjl : j < T.length := by have := HL.out; omega
      obtain ⟨b, o, rfl, hbz, e0⟩ := biInts_at (HA.out.below BW.out) hlt
      have hk : hvA T j < n := by have := hv_le T j; omega
      obtain ⟨b', o', hbo, _, e1⟩ := biInts_at (HA.out.below BW.out) hk
      injection hbo with hbo
      injection hbo with hb1 hb2
      subst hb1 hb2
      have bd := bds_at HB.out hjl
      have HV : Hid (hvA T (j + 1) = if T.getD (hvA T j) 0 < T.getD j 0 then j else hvA T j) := rfl
      generalize T.getD j 0 = x at *
      generalize T.getD (hvA T j) 0 = y at *
      generalize hvA T j = k at *
      have j0 : (0 : Int) ≤ (j : Int) := Int.natCast_nonneg _
      have j1 : (j : Int) < (n : Int) := by omega
      have k0 : (0 : Int) ≤ (k : Int) := Int.natCast_nonneg _
      have k1 : (k : Int) < (n : Int) := by omega
      by_cases hx : y < x
      · have E2 : Hid (hvA T (j + 1) = j) := by have := HV.out; rw [if_pos hx] at this; exact this
        clear HV
        go_wp2_with fail
        go_roundw
        case rel => exact ⟨j + 1, by omega, by rw [E2.out], by go_num, BW.out⟩
        case measure => simp [intOf]; omega
      · have E2 : Hid (hvA T (j + 1) = k) := by have := HV.out; rw [if_neg hx] at this; exact this
        clear HV
        go_wp2_with fail
        go_roundw
        case rel => exact ⟨j + 1, by omega, by rw [E2.out], by go_num, BW.out⟩
        case measure => simp [intOf]; omega
    · obtain rfl : j = n := by omega
      go_wp2_with fail
      go_ret2
      exact ⟨congrArg (fun z : Nat => Ending.returned (.tuple #[.int .i64 (z : Int), .bool (decide (0 < j))])) ZZ.out.symm, BW.out⟩
theorem biH : BiH := ⟨fun w h u hn => biHeav_any w h u hn⟩
end Go.Proofs.YtnhagdlpidgkcaaGreat
