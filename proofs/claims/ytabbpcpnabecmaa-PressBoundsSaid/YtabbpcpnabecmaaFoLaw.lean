/- What the statements of layer fold call: may a pool be tried with a list (Is), and the chapter's example (alive). -/
import Derived.Test.YtabbpcpnabecmaaFoR
import Derived.Test.YtabbpcpnabecmaaRoRef
namespace Go.Proofs.Ytabbpcpnabecmaa
set_option linter.unusedVariables false
set_option maxRecDepth 100000
open Go.RowKit

/-- may a pool of that kind be tried with that list? -/
def IsFo (kd l : Int) (n : Nat) (L : List Nd) : Prop := n ≤ 60 ∧ isP kd l = true ∧ (kd = 2 ∨ l ≤ 10) ∧ rollB l L = true
instance (kd l : Int) (n : Nat) (L : List Nd) : Decidable (IsFo kd l n L) := by unfold IsFo; exact inferInstance
set_option maxHeartbeats 1600000 in
theorem foIs_any (kd l : Int) (A : Option Addr) (n c : Nat) (L : List Nd) (w : World) (h : NodesAt w (.slice A n c) L) (hB : NBds L) (L0 : -9223372036854775808 ≤ l) (L1 : l ≤ 9223372036854775807) :
    Calls Try.prog 5 #[.int .i64 kd, .int .i64 l, .slice A n c] w fun e w' => e = .returned (.bool (decide (IsFo kd l n L))) ∧ Below w.heap.size w w' := by
  have IS := Lib.hid (fun w => poIs_any kd l w)
  by_cases h1 : n ≤ 60
  · have RR := Lib.hid (rRight_any l A n c L w h hB (by omega) L0 L1)
    have c1 : decide ((n : Int) ≤ 60) = true := decide_eq_true (by omega)
    clear h hB
    cases h2 : isP kd l
    · have F : Hid (decide (IsFo kd l n L) = false) := decide_eq_false fun q => by have z := q.2.1; rw [h2] at z; exact absurd z (by decide)
      rw [h2] at IS
      clear h2
      go_enter Try.func5, Try.ntmps5
      go_wp2_with (go_at_call 19; refine (IS.out _).mono ?_; rintro e w1 ⟨rfl, rfl⟩)
      go_ret
      exact ⟨by rw [F.out]; rfl, Below.refl _ _⟩
    · rw [h2] at IS
      by_cases h3 : kd = 2
      · have F : Hid (decide (IsFo kd l n L) = rollB l L) := by
          cases q : rollB l L
          · exact decide_eq_false fun z => by have y := z.2.2.2; rw [q] at y; exact absurd y (by decide)
          · exact decide_eq_true ⟨h1, h2, .inl h3, q⟩
        have c3 : (kd == 2) = true := beq_iff_eq.2 h3
        clear h2 h3
        go_enter Try.func5, Try.ntmps5
        go_wp2_with (first | (go_at_call 19; refine (IS.out _).mono ?_; rintro e w1 ⟨rfl, rfl⟩) | (go_at_call 18; refine RR.out.mono ?_; rintro e w2 ⟨rfl, hb2⟩))
        go_ret
        exact ⟨by rw [F.out]; rfl, hb2⟩
      · have c3 : (kd == 2) = false := beq_eq_false_iff_ne.2 h3
        by_cases h4 : l ≤ 10
        · have F : Hid (decide (IsFo kd l n L) = rollB l L) := by
            cases q : rollB l L
            · exact decide_eq_false fun z => by have y := z.2.2.2; rw [q] at y; exact absurd y (by decide)
            · exact decide_eq_true ⟨h1, h2, .inr h4, q⟩
          have c4 : decide (l ≤ 10) = true := decide_eq_true h4
          clear h2 h3 h4
          go_enter Try.func5, Try.ntmps5
          go_wp2_with (first | (go_at_call 19; refine (IS.out _).mono ?_; rintro e w1 ⟨rfl, rfl⟩) | (go_at_call 18; refine RR.out.mono ?_; rintro e w2 ⟨rfl, hb2⟩))
          go_ret
          exact ⟨by rw [F.out]; rfl, hb2⟩
        · have F : Hid (decide (IsFo kd l n L) = false) := decide_eq_false fun q => by rcases q.2.2.1 with z | z <;> omega
          have c4 : decide (l ≤ 10) = false := decide_eq_false h4
          clear h2 h3 h4
          go_enter Try.func5, Try.ntmps5
          go_wp2_with (go_at_call 19; refine (IS.out _).mono ?_; rintro e w1 ⟨rfl, rfl⟩)
          go_ret
          exact ⟨by rw [F.out]; rfl, Below.refl _ _⟩
  · have F : Hid (decide (IsFo kd l n L) = false) := decide_eq_false fun q => h1 q.1
    have c1 : decide ((n : Int) ≤ 60) = false := decide_eq_false (by omega)
    clear h hB h1
    go_enter Try.func5, Try.ntmps5
    go_wp2_with fail
    go_ret
    exact ⟨by rw [F.out]; rfl, Below.refl _ _⟩
end Go.Proofs.Ytabbpcpnabecmaa
