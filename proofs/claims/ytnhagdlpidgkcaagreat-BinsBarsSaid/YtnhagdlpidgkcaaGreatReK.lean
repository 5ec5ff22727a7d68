/- Texts laid together: ReNum, ReNum2, ReK. -/
import Derived.Test.YtnhagdlpidgkcaaGreatDgQ
import Derived.Test.YtnhagdlpidgkcaaGreatDgN
import Derived.Test.YtnhagdlpidgkcaaGreatTiQ
import Derived.Test.YtnhagdlpidgkcaaGreatMmy
import Derived.Test.YtnhagdlpidgkcaaGreatPln
namespace Go.Proofs.YtnhagdlpidgkcaaGreat
set_option linter.unusedVariables false
/-- all of whose values are from a to b; one of whose is -/
def inP (l a b : Int) : Int → Bool := fun n => decide (a ≤ loN l n ∧ hiN l n ≤ b)
def meP (l a b : Int) : Int → Bool := fun n => decide (loN l n ≤ b ∧ a ≤ hiN l n)
def btwL (l : Int) (L : List Nd) (a b : Int) : Int := wtF (inP l a b) L
def btwH (l : Int) (L : List Nd) (a b : Int) : Int := wtF (meP l a b) L
theorem down_and {P Q : Int → Bool} (p : Down P) (q : Down Q) : Down (fun n => P n && Q n) := fun n a b h => by
  simp only [Bool.and_eq_true] at h ⊢
  exact ⟨⟨(p n a b h.1).1, (q n a b h.2).1⟩, (p n a b h.1).2, (q n a b h.2).2⟩
theorem down_or {P Q : Int → Bool} (p : Down P) (q : Down Q) : Down (fun n => P n || Q n) := fun n a b h => by
  simp only [Bool.or_eq_true] at h ⊢
  rcases h with h | h
  · exact ⟨.inl (p n a b h).1, .inl (p n a b h).2⟩
  · exact ⟨.inr (q n a b h).1, .inr (q n a b h).2⟩
theorem wt_bet (T : List Nd) (a b : Int) : wtF (fun v => decide (a ≤ v ∧ v ≤ b)) T = betN T a b := by
  induction T with
  | nil => rfl
  | cons n T ih => simp only [wtF, betN, decide_eq_true_eq, ih]
/-- what weighs from a to b, among the values -/
theorem std_bet {l a b : Int} {L T : List Nd} (h : Std l L T) (hr : RollC l L) (hT : BagC l T) : btwL l L a b ≤ betN T a b ∧ (a ≤ b → betN T a b ≤ btwH l L a b) := by
  have x := h.low _ (down_and (down_up l b) (down_dn l (a - 1)))
  have y := h.low _ (down_or (down_up l (a - 1)) (down_dn l b))
  have v1 : ∀ n ∈ T, (upP l b (leafN l n.1) && dnP l (a - 1) (leafN l n.1)) = decide (a ≤ n.1 ∧ n.1 ≤ b) := fun n hn => by
    have v := hT.val n hn
    have lf := leaf_right v
    have e := leaf_ends v
    unfold upP dnP
    rw [e.1, e.2, Bool.eq_iff_iff]
    simp [lf.1] <;> omega
  have v2 : ∀ n ∈ T, (upP l (a - 1) (leafN l n.1) || dnP l b (leafN l n.1)) = decide (n.1 < a ∨ b < n.1) := fun n hn => by
    have v := hT.val n hn
    have lf := leaf_right v
    have e := leaf_ends v
    unfold upP dnP
    rw [e.1, e.2, Bool.eq_iff_iff]
    simp [lf.1] <;> omega
  have e1 : wtF (fun v => upP l b (leafN l v) && dnP l (a - 1) (leafN l v)) T = betN T a b := by
    rw [← wt_bet]
    exact wtF_eq fun n hn => v1 n hn
  have e2 : a ≤ b → wtF (fun v => upP l (a - 1) (leafN l v) || dnP l b (leafN l v)) T = sumC T - betN T a b := fun hab => by
    have c := wtF_not (fun v => decide (a ≤ v ∧ v ≤ b)) T
    rw [wt_bet] at c
    have d : wtF (fun v => upP l (a - 1) (leafN l v) || dnP l b (leafN l v)) T = wtF (fun v => !(decide (a ≤ v ∧ v ≤ b))) T := wtF_eq fun n hn => by
      rw [v2 n hn, Bool.eq_iff_iff]; simp <;> omega
    omega
  have e3 : wtF (fun n => upP l b n && dnP l (a - 1) n) L = btwL l L a b := wtF_eq fun n hn => by
    have r : RightC l n.1 := of_decide_eq_true (hr.2.2.1 n hn).1
    unfold upP dnP inP
    rw [Bool.eq_iff_iff]; simp [r] <;> omega
  have e4 : wtF (fun n => upP l (a - 1) n || dnP l b n) L = sumC L - btwH l L a b := by
    have c := wtF_not (meP l a b) L
    have d : wtF (fun n => upP l (a - 1) n || dnP l b n) L = wtF (fun n => !(meP l a b n)) L := wtF_eq fun n hn => by
      have r : RightC l n.1 := of_decide_eq_true (hr.2.2.1 n hn).1
      unfold upP dnP meP
      rw [Bool.eq_iff_iff]; simp [r] <;> omega
    unfold btwH
    omega
  have t := h.tot
  rw [e1, e3] at x
  rw [e4] at y
  exact ⟨x, fun hab => by have := e2 hab; omega⟩
end Go.Proofs.YtnhagdlpidgkcaaGreat
namespace Go.Proofs.YtnhagdlpidgkcaaGreat
set_option linter.unusedVariables false
end Go.Proofs.YtnhagdlpidgkcaaGreat
namespace Go.Proofs.YtnhagdlpidgkcaaGreat
set_option linter.unusedVariables false
set_option maxRecDepth 100000
open Go.RowKit
/-- Between: why not, and both sums -/
def beE (a b : Int) : Int := if b < a then 2 else 0
def beL (l : Int) (L : List Nd) (a b : Int) : Int := if b < a then 0 else btwL l L a b
def beH (l : Int) (L : List Nd) (a b : Int) : Int := if b < a then 0 else btwH l L a b
theorem be_yes {l a b : Int} {L : List Nd} (h : a ≤ b) : beE a b = 0 ∧ beL l L a b = btwL l L a b ∧ beH l L a b = btwH l L a b := ⟨if_neg (by omega), if_neg (by omega), if_neg (by omega)⟩
theorem be_no {l a b : Int} {L : List Nd} (h : b < a) : beE a b = 2 ∧ beL l L a b = 0 ∧ beH l L a b = 0 := ⟨if_pos h, if_pos h, if_pos h⟩
end Go.Proofs.YtnhagdlpidgkcaaGreat
