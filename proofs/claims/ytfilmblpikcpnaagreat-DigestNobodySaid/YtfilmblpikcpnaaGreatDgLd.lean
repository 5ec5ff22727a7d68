/- Why there is no digest of some nodes, as a function. No walk is made here. -/
import Derived.Test.YtfilmblpikcpnaaGreatDgNum2
import Derived.Test.YtfilmblpikcpnaaGreatPrP
import Derived.Test.YtfilmblpikcpnaaGreatPo2
namespace Go.Proofs.YtfilmblpikcpnaaGreat
set_option linter.unusedVariables false
set_option maxRecDepth 100000
open Go.RowKit

/-- why there is no digest of these nodes: 0 where there is one -/
def dgLdE (kd l k : Int) (L : List Nd) : Int := if kIs k = true ∧ isP kd l = true then (if rollB l L = true then (if (L.length : Int) ≤ 8 * k ∧ lightB l L k = true then 0 else 13) else 10) else 2
theorem dgLdE_conf {kd l k : Int} {L : List Nd} (h : ¬ (kIs k = true ∧ isP kd l = true)) : dgLdE kd l k L = 2 := if_neg h
theorem dgLdE_form {kd l k : Int} {L : List Nd} (h1 : kIs k = true) (h2 : isP kd l = true) (h3 : rollB l L = false) : dgLdE kd l k L = 10 := by
  unfold dgLdE; rw [if_pos ⟨h1, h2⟩, if_neg (by rw [h3]; simp)]
theorem dgLdE_cap {kd l k : Int} {L : List Nd} (h1 : kIs k = true) (h2 : isP kd l = true) (h3 : rollB l L = true) (h4 : ¬ ((L.length : Int) ≤ 8 * k ∧ lightB l L k = true)) : dgLdE kd l k L = 13 := by
  unfold dgLdE; rw [if_pos ⟨h1, h2⟩, if_pos h3, if_neg h4]
theorem dgLdE_ok {kd l k : Int} {L : List Nd} (h1 : kIs k = true) (h2 : isP kd l = true) (h3 : rollB l L = true) (h4 : (L.length : Int) ≤ 8 * k) (h5 : lightB l L k = true) : dgLdE kd l k L = 0 := by
  unfold dgLdE; rw [if_pos ⟨h1, h2⟩, if_pos h3, if_pos ⟨h4, h5⟩]
theorem light_c {l k : Int} {L : List Nd} (h : lightB l L k = true) : LightC l (sumC L / k) L := by
  unfold lightB at h
  rw [Bool.and_eq_true] at h
  exact of_decide_eq_true h.2
theorem dgLdE_nil {kd l k : Int} : dgLdE kd l k [] = if kIs k = true ∧ isP kd l = true then 0 else 2 := by
  unfold dgLdE
  by_cases h : kIs k = true ∧ isP kd l = true
  · rw [if_pos h, if_pos h]
    have u : 1 ≤ l ∧ l ≤ 48 := by rcases of_decide_eq_true h.2 with q | q <;> omega
    have kb : 1 ≤ k ∧ k ≤ 1048576 := of_decide_eq_true h.1
    have hr : rollB l [] = true := roll_iff.2 (roll_nil (uni_yes u))
    have hl : lightB l [] k = true := by
      unfold lightB
      rw [h.1]
      have z : LightC l (capW [] k) [] := fun m hm => by simp at hm
      simp [z]
    rw [if_pos hr, if_pos ⟨by simp; omega, hl⟩]
  · rw [if_neg h, if_neg h]

end Go.Proofs.YtfilmblpikcpnaaGreat
