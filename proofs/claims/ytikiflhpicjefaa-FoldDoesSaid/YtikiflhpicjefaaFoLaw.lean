/- What the statements of layer fold call: may a pool be tried with a list (Is), and the chapter's example (alive). -/
import Derived.Test.YtikiflhpicjefaaFoR
import Derived.Test.YtikiflhpicjefaaRoRef
namespace Go.Proofs.Ytikiflhpicjefaa
set_option linter.unusedVariables false
set_option maxRecDepth 100000
open Go.RowKit

/-- may a pool of that kind be tried with that list? -/
def IsFo (kd l : Int) (n : Nat) (L : List Nd) : Prop := n ≤ 60 ∧ isP kd l = true ∧ (kd = 2 ∨ l ≤ 10) ∧ rollB l L = true
instance (kd l : Int) (n : Nat) (L : List Nd) : Decidable (IsFo kd l n L) := by unfold IsFo; exact inferInstance
set_option maxHeartbeats 1600000 in
theorem foIs_any (kd l : Int) (A : Option Addr) (n c : Nat) (L : List Nd) (w : World) (h : NodesAt w (.slice A n c) L) (hB : NBds L) (L0 : -9223372036854775808 ≤ l) (L1 : l ≤ 9223372036854775807) :
    Calls Try.prog 7 #[.int .i64 kd, .int .i64 l, .slice A n c] w fun e w' => e = .returned (.bool (decide (IsFo kd l n L))) ∧ Below w.heap.size w w' := by
  have IS := Lib.hid (fun w => poIs_any kd l w)
  by_cases h1 : n ≤ 60
  · have RR := Lib.hid (rRight_any l A n c L w h hB (by omega) L0 L1)
    have c1 : decide ((n : Int) ≤ 60) = true := decide_eq_true (by omega)
    clear h hB
    cases h2 : isP kd l
    · have F : Hid (decide (IsFo kd l n L) = false) := decide_eq_false fun q => by have z := q.2.1; rw [h2] at z; exact absurd z (by decide)
      rw [h2] at IS
      clear h2
      go_enter Try.func7, Try.ntmps7
      go_wp2_with (go_at_call 35; refine (IS.out _).mono ?_; rintro e w1 ⟨rfl, rfl⟩)
      go_ret
      exact ⟨by rw [F.out]; rfl, Below.refl _ _⟩
    · rw [h2] at IS
      by_cases h3 : kd = 2
      · have F : Hid (decide (IsFo kd l n L) = rollB l L) := by
          cases q : rollB l L
          · exact decide_eq_false fun z => by have y := z.2.2.2; rw [q] at y; exact absurd y (by decide)
          · exact decide_eq_true ⟨h1, h2, .inl h3, q⟩
        have c3 : (kd == 2) = true := beq_iff_eq.2 h3
        clear h2 h3
        go_enter Try.func7, Try.ntmps7
        go_wp2_with (first | (go_at_call 35; refine (IS.out _).mono ?_; rintro e w1 ⟨rfl, rfl⟩) | (go_at_call 36; refine RR.out.mono ?_; rintro e w2 ⟨rfl, hb2⟩))
        go_ret
        exact ⟨by rw [F.out]; rfl, hb2⟩
      · have c3 : (kd == 2) = false := beq_eq_false_iff_ne.2 h3
        by_cases h4 : l ≤ 10
        · have F : Hid (decide (IsFo kd l n L) = rollB l L) := by
            cases q : rollB l L
            · exact decide_eq_false fun z => by have y := z.2.2.2; rw [q] at y; exact absurd y (by decide)
            · exact decide_eq_true ⟨h1, h2, .inr h4, q⟩
          have c4 : decide (l ≤ 10) = true := decide_eq_true h4
          clear h2 h3 h4
          go_enter Try.func7, Try.ntmps7
          go_wp2_with (first | (go_at_call 35; refine (IS.out _).mono ?_; rintro e w1 ⟨rfl, rfl⟩) | (go_at_call 36; refine RR.out.mono ?_; rintro e w2 ⟨rfl, hb2⟩))
          go_ret
          exact ⟨by rw [F.out]; rfl, hb2⟩
        · have F : Hid (decide (IsFo kd l n L) = false) := decide_eq_false fun q => by rcases q.2.2.1 with z | z <;> omega
          have c4 : decide (l ≤ 10) = false := decide_eq_false h4
          clear h2 h3 h4
          go_enter Try.func7, Try.ntmps7
          go_wp2_with (go_at_call 35; refine (IS.out _).mono ?_; rintro e w1 ⟨rfl, rfl⟩)
          go_ret
          exact ⟨by rw [F.out]; rfl, Below.refl _ _⟩
  · have F : Hid (decide (IsFo kd l n L) = false) := decide_eq_false fun q => h1 q.1
    have c1 : decide ((n : Int) ≤ 60) = false := decide_eq_false (by omega)
    clear h hB h1
    go_enter Try.func7, Try.ntmps7
    go_wp2_with fail
    go_ret
    exact ⟨by rw [F.out]; rfl, Below.refl _ _⟩
theorem foex : isP 2 2 = true ∧ rollB 2 [(2, 1), (4, 1), (5, 2)] = true ∧ pairW 2 [(2, 1), (4, 1), (5, 2)] 2 = 3 ∧ allW 2 [(2, 1), (4, 1), (5, 2)] 2 = 4 ∧ readyB 2 [(2, 1), (4, 1), (5, 2)] 2 4 = true ∧ readyB 2 [(2, 1), (4, 1), (5, 2)] 2 3 = false := by decide
set_option maxHeartbeats 3200000 in
theorem foAlive_any (w : World) : Calls Try.prog 10 #[] w fun e w' => e = .returned (.bool true) ∧ Below w.heap.size w w' := by
  obtain ⟨x1, x2, x3, x4, x5, x6⟩ := foex
  have HB0 : Hid (Below w.heap.size w (w.alloc (.cells #[.int .i64 2, .int .i64 1, .int .i64 4, .int .i64 1, .int .i64 5, .int .i64 2] 66))) := (Below.refl _ _).alloc (Nat.le_refl _) _
  have NV : Hid (NodesAt (w.alloc (.cells #[.int .i64 2, .int .i64 1, .int .i64 4, .int .i64 1, .int .i64 5, .int .i64 2] 66)) (.slice (some ⟨w.heap.size, 0, none⟩) 3 3) [(2, 1), (4, 1), (5, 2)]) :=
    ownNd_nodes (World.ownsRow_lit (base := w.heap.size) (e := 66) (size := 2) w #[.int .i64 2, .int .i64 1, .int .i64 4, .int .i64 1, .int .i64 5, .int .i64 2] 3 (Nat.le_refl _) (by unfold maxLen; omega) rfl)
  have NB : Hid (NBds [(2, 1), (4, 1), (5, 2)]) := nbds_roll (of_decide_eq_true x2)
  have LD := Lib.hid (poLoad_any 2 2 (some ⟨w.heap.size, 0, none⟩) 3 3 [(2, 1), (4, 1), (5, 2)] _ NV.out NB.out (by omega) (by omega) (by omega))
  go_enter Try.func10, Try.ntmps10
  go_wp2_with fail
  generalize w.alloc (.cells #[.int .i64 2, .int .i64 1, .int .i64 4, .int .i64 1, .int .i64 5, .int .i64 2] 66) = W at *
  refine LD.out.mono ?_
  rintro e w1 ⟨hb1, ⟨hi, _⟩ | ⟨_, hr, _⟩ | ⟨_, _, p, g, h, rfl, hd⟩⟩
  · rw [x1] at hi; cases hi
  · rw [x2] at hr; cases hr
  · have B1 := Lib.hid (HB0.out.trans (hb1.mono HB0.out.size))
    have D1 := Lib.hid hd
    have MS := Lib.hid (fun w2 (hb : Below w1.heap.size w1 w2) => foMass_any 2 w2 (hd.below hb) (by decide) (by omega) (by omega))
    have R4 := Lib.hid (fun w2 (hb : Below w1.heap.size w1 w2) => foReady_any 2 4 w2 (hd.below hb) (by decide) (by omega) (by omega))
    have R3 := Lib.hid (fun w2 (hb : Below w1.heap.size w1 w2) => foReady_any 2 3 w2 (hd.below hb) (by decide) (by omega) (by omega))
    rw [x3, x4] at MS
    rw [x5] at R4
    rw [x6] at R3
    clear hb1 hd x1 x2 x3 x4 x5 x6
    go_wp2_with fail
    refine (MS.out _ (Below.refl _ _)).mono ?_
    rintro e w2 ⟨rfl, hb2⟩
    have C2 := Lib.hid hb2
    clear hb2
    go_wp2_with fail
    refine (R4.out _ C2.out).mono ?_
    rintro e w3 ⟨rfl, hb3⟩
    have C3 := Lib.hid (C2.out.trans (hb3.mono C2.out.size))
    clear hb3
    go_wp2_with fail
    refine (R3.out _ C3.out).mono ?_
    rintro e w4 ⟨rfl, hb4⟩
    have C4 := Lib.hid (C3.out.trans (hb4.mono C3.out.size))
    clear hb4
    go_wp2_with fail
    go_ret
    exact ⟨rfl, B1.out.trans (C4.out.mono B1.out.size)⟩

end Go.Proofs.Ytikiflhpicjefaa
