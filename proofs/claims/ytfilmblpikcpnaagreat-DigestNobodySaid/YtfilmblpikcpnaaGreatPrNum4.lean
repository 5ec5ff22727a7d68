/- Plain facts of layer press: what a node weighs with all below it. No program is spoken of here. -/
import Derived.Test.YtfilmblpikcpnaaGreatPrP
namespace Go.Proofs.YtfilmblpikcpnaaGreat
set_option linter.unusedVariables false

theorem above_le {a y : Int} (h : aboveB a y = true) (hy : y ≤ 9223372036854775807) : 1 ≤ a ∧ 1 ≤ y ∧ a ≤ y := by
  have q := of_decide_eq_true h
  refine ⟨q.1, q.2.1, Classical.byContradiction fun c => ?_⟩
  by_cases ha : a ≤ 9223372036854775807
  · have e := above_end q.1 (show y ≤ a by omega) ha
    rw [h] at e
    have := beq_iff_eq.1 e.symm
    omega
  · have e := q.2.2
    have : y / 2 ^ (logN y - logN a).toNat ≤ y := Int.ediv_le_self _ (by omega)
    omega
theorem above_down {a y : Int} (h : aboveB a y = true) (hy : 2 * y + 1 ≤ 9223372036854775807) : aboveB a (2 * y) = true ∧ aboveB a (2 * y + 1) = true := by
  have q := above_le h (by omega)
  have e1 := above_step (a := a) (y := 2 * y) q.1 (by omega) (by omega)
  have e2 := above_step (a := a) (y := 2 * y + 1) q.1 (by omega) (by omega)
  rw [show 2 * y / 2 = y by omega] at e1
  rw [show (2 * y + 1) / 2 = y by omega] at e2
  rw [e1, e2]
  exact ⟨h, h⟩
theorem above_one : ∀ (n : Nat) (y : Int), y.toNat ≤ n → 1 ≤ y → y ≤ 9223372036854775807 → aboveB 1 y = true := by
  intro n
  induction n with
  | zero => intro y h1 h2; omega
  | succ n ih =>
    intro y h1 h2 h3
    by_cases q : y = 1
    · subst q
      rw [above_end (by omega) (by omega) (by omega)]
      rfl
    · rw [above_step (by omega) (by omega) h3]
      exact ih _ (by omega) (by omega) (by omega)
theorem wtF_app (P : Int → Bool) (L M : List Nd) : wtF P (L ++ M) = wtF P L + wtF P M := by
  induction L with
  | nil => simp [wtF]
  | cons n L ih => simp only [List.cons_append, wtF, ih]; omega
theorem wtF_take (P : Int → Bool) {L : List Nd} {k : Nat} (hk : k < L.length) : wtF P (L.take (k + 1)) = wtF P (L.take k) + (if P (L.getD k nz).1 = true then (L.getD k nz).2 else 0) := by
  rw [nd_take hk, wtF_app]
  simp only [wtF]
  omega
theorem wtF_bd (P : Int → Bool) {L : List Nd} (h : ∀ n ∈ L, 0 ≤ n.2) : 0 ≤ wtF P L ∧ wtF P L ≤ sumC L := by
  induction L with
  | nil => exact ⟨Int.le_refl _, Int.le_refl _⟩
  | cons n L ih =>
    have a := h n (by simp)
    have b := ih fun m hm => h m (by simp [hm])
    simp only [wtF, sumC]
    split <;> omega
theorem wtF_congr {P Q : Int → Bool} {L : List Nd} (h : ∀ n ∈ L, P n.1 = Q n.1) : wtF P L = wtF Q L := by
  induction L with
  | nil => rfl
  | cons n L ih => simp only [wtF, h n (by simp), ih fun m hm => h m (by simp [hm])]
/-- what a node weighs, with all below it -/
def belN (a : Int) (L : List Nd) : Int := wtF (aboveB a) L
theorem bel_one {l : Int} {L : List Nd} (h : RollC l L) : belN 1 L = sumC L := by
  unfold belN
  rw [← wtF_all L]
  refine wtF_congr fun n hn => ?_
  have b := (nbds_roll h n hn)
  have r : RightC l n.1 := of_decide_eq_true (h.2.2.1 n hn).1
  exact above_one _ n.1 (Nat.le_refl _) r.2.2.1 (right_max (h.2.2.1 n hn).1)
theorem bel_pre {l cap a : Int} {L : List Nd} (h : RollC l L) {j : Nat} (hl : Live l cap L j) : belN a (preA l cap L j) ≤ belN a L :=
  wt_pre h hl _ fun id h1 h2 h3 => above_down h3 (by omega)
theorem bel_bd {l : Int} {L : List Nd} (h : RollC l L) (a : Int) : 0 ≤ belN a L ∧ belN a L ≤ 72057594037927935 := by
  have b := wtF_bd (aboveB a) (good_nonneg (roll_good h))
  exact ⟨b.1, Int.le_trans b.2 h.2.2.2.2⟩

end Go.Proofs.YtfilmblpikcpnaaGreat
