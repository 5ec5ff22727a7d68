/- Texts laid together: RnkK, QuK. -/
import Derived.Test.YtkhacpapkalkiaaGreatDgQ
import Derived.Test.YtkhacpapkalkiaaGreatRnN
import Derived.Test.YtkhacpapkalkiaaGreatMmy
import Derived.Test.YtkhacpapkalkiaaGreatPln
import Derived.Test.YtkhacpapkalkiaaGreatSpQ
/- What the statements of layer rank ask of the project's package: its contracts, laid as one premise; a table's place in memory is TB. -/
namespace Go.Proofs.YtkhacpapkalkiaaGreat
set_option linter.unusedVariables false
set_option maxRecDepth 100000
open Go.RowKit

end Go.Proofs.YtkhacpapkalkiaaGreat

/- What the statements of layer quant ask of the project's package: its contracts, laid as premises. -/
namespace Go.Proofs.YtkhacpapkalkiaaGreat
set_option linter.unusedVariables false
set_option maxRecDepth 100000
open Go.RowKit

/-- why there is no value of a rank -/
def wrE (L : List Nd) (r : Int) : Int := if sumC L = 0 then 7 else if r < 1 ∨ sumC L < r then 2 else 0
theorem wrE_yes {L : List Nd} {r : Int} (h1 : 1 ≤ r) (h2 : r ≤ sumC L) : wrE L r = 0 := by unfold wrE; rw [if_neg (by omega), if_neg (by omega)]
theorem wrE_zero {L : List Nd} {r : Int} (h : wrE L r = 0) : ¬ sumC L = 0 ∧ 1 ≤ r ∧ r ≤ sumC L := by
  unfold wrE at h
  split at h
  · omega
  · split at h
    · omega
    · omega
theorem wrE_bd (L : List Nd) (r : Int) : wrE L r = 7 ∨ wrE L r = 2 ∨ wrE L r = 0 := by
  unfold wrE
  split
  · exact .inl rfl
  · split
    · exact .inr (.inl rfl)
    · exact .inr (.inr rfl)
/-- the value of a rank; 0 where there is none -/
def qaA (l : Int) (L : List Nd) (r : Int) : Int := if wrE L r = 0 then atN l L r else 0
/-- the ends of the span, as floats -/
def qsA (l : Int) (L : List Nd) (r : Int) : Nat := if wrE L r = 0 then floatOfInt .f64 (fstQ l L r) else 0
def qsZ (l : Int) (L : List Nd) (r : Int) : Nat := if wrE L r = 0 then floatOfInt .f64 (atN l L r) else 0
theorem qaA_yes {l : Int} {L : List Nd} {r : Int} (h : wrE L r = 0) : qaA l L r = atN l L r := if_pos h
theorem qaA_no {l : Int} {L : List Nd} {r : Int} (h : ¬ wrE L r = 0) : qaA l L r = 0 := if_neg h
def qfA (l : Int) (L : List Nd) (r : Int) : Int := if wrE L r = 0 then fstQ l L r else 0
theorem qfA_yes {l : Int} {L : List Nd} {r : Int} (h : wrE L r = 0) : qfA l L r = fstQ l L r := if_pos h
theorem qfA_no {l : Int} {L : List Nd} {r : Int} (h : ¬ wrE L r = 0) : qfA l L r = 0 := if_neg h
/-- why there is no part of the weight, and its rank -/
def shE (L : List Nd) (num den : Int) : Int := if sumC L = 0 then 7 else if den < 1 ∨ num < 0 ∨ den < num then 2 else 0
def shR (L : List Nd) (num den : Int) : Int := if partUpN (sumC L) num den < 1 then 1 else partUpN (sumC L) num den
def shN (L : List Nd) (num den : Int) : Int := if shE L num den = 0 then shR L num den else 0
def qoA (l : Int) (L : List Nd) (num den : Int) : Int := if shE L num den = 0 then atN l L (shR L num den) else 0
theorem shE_zero {L : List Nd} {num den : Int} (h : shE L num den = 0) : ¬ sumC L = 0 ∧ 1 ≤ den ∧ 0 ≤ num ∧ num ≤ den := by
  unfold shE at h
  split at h
  · omega
  · split at h
    · omega
    · omega
theorem shE_bd (L : List Nd) (num den : Int) : shE L num den = 7 ∨ shE L num den = 2 ∨ shE L num den = 0 := by
  unfold shE
  split
  · exact .inl rfl
  · split
    · exact .inr (.inl rfl)
    · exact .inr (.inr rfl)
theorem sh_in {L : List Nd} {num den : Int} (h : shE L num den = 0) (s0 : 0 ≤ sumC L) (s1 : sumC L ≤ 72057594037927935) : 1 ≤ shR L num den ∧ shR L num den ≤ sumC L := by
  obtain ⟨z, d1, n0, nd⟩ := shE_zero h
  have pc : partC (sumC L) num den := ⟨s0, n0, d1⟩
  have m0 : 0 ≤ sumC L * num := Int.mul_nonneg s0 n0
  have m1 : sumC L * num ≤ sumC L * den := Int.mul_le_mul_of_nonneg_left nd s0
  have m2 : sumC L * den < 9223372036854775808 * den := by
    have := Int.mul_lt_mul_of_pos_right (show sumC L < 9223372036854775808 by omega) (show 0 < den by omega)
    exact this
  have lt : sumC L * num < 9223372036854775808 * den := by omega
  have pn : partN (sumC L) num den = sumC L * num / den := by rw [(part_yes pc).1]; exact if_pos lt
  have q0 : 0 ≤ sumC L * num / den := Int.ediv_nonneg m0 (by omega)
  have q1 : sumC L * num / den ≤ sumC L := Int.ediv_le_of_le_mul (by omega) m1
  have key : partUpN (sumC L) num den ≤ sumC L := by
    cases hr : partR (sumC L) num den
    · rw [(partUp_flat hr).1, pn]; exact q1
    · rw [(partUp_more hr (by rw [pn]; omega)).1, pn]
      have rr := (part_yes pc).2.1
      rw [hr] at rr
      have rn : sumC L * num % den ≠ 0 := by
        unfold quotR at rr
        simp only [Bool.true_eq, Bool.and_eq_true] at rr
        exact of_decide_eq_true rr.2
      rcases Int.lt_or_le (sumC L * num / den) (sumC L) with g | g
      · omega
      · exfalso
        have e : sumC L * num / den = sumC L := by omega
        have dm := Int.mul_ediv_add_emod (sumC L * num) den
        rw [e, Int.mul_comm den] at dm
        have := Int.emod_nonneg (sumC L * num) (show den ≠ 0 by omega)
        omega
  unfold shR
  split <;> omega
/-- of many ranks the first error -/
def mnE (L : List Nd) : List Int → Int
  | [] => 0
  | r :: R => if wrE L r = 0 then mnE L R else wrE L r
/-- the project's At -/
structure QuA : Prop where
  at_nil : ∀ (r : Int) (w : World), Calls Tryz.prog 8 #[.pointer none, .int .i64 r] w fun e w' => e = .returned (.tuple #[.int .i64 0, .int .i64 1]) ∧ Below w.heap.size w w'
  at_any : ∀ {B q p g h : Nat} {kd l k : Int} {n : Nat} {L : List Nd} (r : Int) (w : World), DgA w B q p g h kd l k n L → n ≤ 400 → -9223372036854775808 ≤ r → r ≤ 9223372036854775807 → Calls Tryz.prog 8 #[.pointer (some ⟨q, 0, none⟩), .int .i64 r] w fun e w' => e = .returned (.tuple #[.int .i64 (qaA l L r), .int .i64 (wrE L r)]) ∧ Below w.heap.size w w'
/-- its Span -/
structure QuS : Prop where
  span_nil : ∀ (r : Int) (w : World), Calls Tryz.prog 9 #[.pointer none, .int .i64 r] w fun e w' => e = .returned (.tuple #[.complex .f64 0 0, .int .i64 1]) ∧ Below w.heap.size w w'
  span_any : ∀ {B q p g h : Nat} {kd l k : Int} {n : Nat} {L : List Nd} (r : Int) (w : World), DgA w B q p g h kd l k n L → n ≤ 400 → -9223372036854775808 ≤ r → r ≤ 9223372036854775807 → Calls Tryz.prog 9 #[.pointer (some ⟨q, 0, none⟩), .int .i64 r] w fun e w' => e = .returned (.tuple #[.complex .f64 (qsA l L r) (qsZ l L r), .int .i64 (wrE L r)]) ∧ Below w.heap.size w w'
/-- its Rank, Of, Median -/
structure QuR : Prop where
  rank_nil : ∀ (a b : Int) (w : World), Calls Tryz.prog 14 #[.pointer none, .int .i64 a, .int .i64 b] w fun e w' => e = .returned (.tuple #[.int .i64 0, .int .i64 1]) ∧ Below w.heap.size w w'
  of_nil : ∀ (a b : Int) (w : World), Calls Tryz.prog 15 #[.pointer none, .int .i64 a, .int .i64 b] w fun e w' => e = .returned (.tuple #[.int .i64 0, .int .i64 1]) ∧ Below w.heap.size w w'
  median_nil : ∀ (w : World), Calls Tryz.prog 16 #[.pointer none] w fun e w' => e = .returned (.tuple #[.int .i64 0, .int .i64 1]) ∧ Below w.heap.size w w'
  rank_any : ∀ {B q p g h : Nat} {kd l k : Int} {n : Nat} {L : List Nd} (a b : Int) (w : World), DgA w B q p g h kd l k n L → n ≤ 400 → -9223372036854775808 ≤ a → a ≤ 9223372036854775807 → -9223372036854775808 ≤ b → b ≤ 9223372036854775807 → Calls Tryz.prog 14 #[.pointer (some ⟨q, 0, none⟩), .int .i64 a, .int .i64 b] w fun e w' => e = .returned (.tuple #[.int .i64 (shN L a b), .int .i64 (shE L a b)]) ∧ Below w.heap.size w w'
  of_any : ∀ {B q p g h : Nat} {kd l k : Int} {n : Nat} {L : List Nd} (a b : Int) (w : World), DgA w B q p g h kd l k n L → n ≤ 400 → -9223372036854775808 ≤ a → a ≤ 9223372036854775807 → -9223372036854775808 ≤ b → b ≤ 9223372036854775807 → Calls Tryz.prog 15 #[.pointer (some ⟨q, 0, none⟩), .int .i64 a, .int .i64 b] w fun e w' => e = .returned (.tuple #[.int .i64 (qoA l L a b), .int .i64 (shE L a b)]) ∧ Below w.heap.size w w'
  median_any : ∀ {B q p g h : Nat} {kd l k : Int} {n : Nat} {L : List Nd} (w : World), DgA w B q p g h kd l k n L → n ≤ 400 → Calls Tryz.prog 16 #[.pointer (some ⟨q, 0, none⟩)] w fun e w' => e = .returned (.tuple #[.int .i64 (qoA l L 1 2), .int .i64 (shE L 1 2)]) ∧ Below w.heap.size w w'
/-- its Many -/
structure QuM : Prop where
  many_none : ∀ (w : World), Calls Tryz.prog 18 #[.pointer none, .slice none 0 0] w fun e w' => (∃ A c, e = .returned (.tuple #[.slice A 0 c, .int .i64 0])) ∧ Below w.heap.size w w'
  many_nil : ∀ {A : Option Addr} {n c : Nat} {R : List Int} (w : World), IntsAt w (.slice A n c) R → 0 < n → n ≤ 1000 → Calls Tryz.prog 18 #[.pointer none, .slice A n c] w fun e w' => (∃ A c, e = .returned (.tuple #[.slice A 0 c, .int .i64 1])) ∧ Below w.heap.size w w'
  many : ∀ {B q p g h : Nat} {kd l k : Int} {m : Nat} {L : List Nd} {A : Option Addr} {n c : Nat} {R : List Int} (w : World), DgA w B q p g h kd l k m L → m ≤ 400 → IntsAt w (.slice A n c) R → n ≤ 60 → (∀ r ∈ R, -9223372036854775808 ≤ r ∧ r ≤ 9223372036854775807) → Calls Tryz.prog 18 #[.pointer (some ⟨q, 0, none⟩), .slice A n c] w fun e w' =>
    (∃ A2 n2 c2, e = .returned (.tuple #[.slice A2 n2 c2, .int .i64 (mnE L R)]) ∧ IntsAt w' (.slice A2 n2 c2) (if mnE L R = 0 then R.map (atN l L) else [])) ∧ Below w.heap.size w w'
/-- of rank's Table: Of and Steps alone, in memory as the predicate says -/
structure RnkTq (TB : World → Nat → Nat → Int → List Nd → Prop) : Prop where
  of : ∀ {B q p g h : Nat} {kd l k : Int} {n : Nat} {L : List Nd} (w : World), DgA w B q p g h kd l k n L → n ≤ 400 → Calls Tryz.prog 27 #[.pointer (some ⟨q, 0, none⟩)] w fun e w' => (∃ t, e = .returned (.pointer (some ⟨t, 0, none⟩)) ∧ TB w' w.heap.size t l L) ∧ Below w.heap.size w w'
  steps : ∀ {B t : Nat} {l : Int} {L : List Nd} (w : World), TB w B t l L → Calls Tryz.prog 28 #[.pointer (some ⟨t, 0, none⟩)] w fun e w' => (∃ A n c, e = .returned (.slice A n c) ∧ IntsAt w' (.slice A n c) (stepsN l L) ∧ n ≤ 1000) ∧ Below w.heap.size w w'

end Go.Proofs.YtkhacpapkalkiaaGreat
