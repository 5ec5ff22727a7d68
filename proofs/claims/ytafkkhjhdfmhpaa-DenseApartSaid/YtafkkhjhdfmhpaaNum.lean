/- Plain numbers: what a list of digits to the base 1000 is worth, how such numbers compare, and the arithmetic of the layer reckon. No program is spoken of here. -/
import Derived.WalkKit
namespace Go.Proofs.Ytafkkhjhdfmhpaa
set_option linter.unusedVariables false

/-! ### digits to the base 1000 -/

/-- the digit at place i (0 beyond the end) -/
def dg (l : List Int) (i : Nat) : Int := l.getD i 0
/-- what the first i digits of a list are worth (0 beyond its end) -/
def dt (l : List Int) : Nat → Int
  | 0 => 0
  | i + 1 => dt l i + dg l i * 1000 ^ i
/-- what a list of digits is worth -/
def dv (l : List Int) : Int := dt l l.length
/-- each one is a digit -/
def Dig (l : List Int) : Prop := ∀ j, 0 ≤ dg l j ∧ dg l j ≤ 999

theorem pw_pos (i : Nat) : (0 : Int) < 1000 ^ i := Int.pow_pos (by decide)
theorem pw_succ (i : Nat) : (1000 : Int) ^ (i + 1) = 1000 * 1000 ^ i := by rw [Int.pow_succ, Int.mul_comm]
theorem pw_add (i k : Nat) : (1000 : Int) ^ (i + k) = 1000 ^ i * 1000 ^ k := Int.pow_add ..

theorem getD_app (l : List Int) (x : Int) (j : Nat) (h : j < l.length) : dg (l ++ [x]) j = dg l j := by
  simp [dg, List.getD_eq_getElem?_getD, List.getElem?_append_left h]
theorem getD_last (l : List Int) (x : Int) : dg (l ++ [x]) l.length = x := by
  simp [dg, List.getD_eq_getElem?_getD]
theorem getD_end (l : List Int) (j : Nat) (h : l.length ≤ j) : dg l j = 0 := by
  simp [dg, List.getD_eq_getElem?_getD, List.getElem?_eq_none h]
theorem dt_app (l : List Int) (x : Int) (i : Nat) (h : i ≤ l.length) : dt (l ++ [x]) i = dt l i := by
  induction i with
  | zero => rfl
  | succ i ih => rw [dt, dt, ih (by omega), getD_app l x i (by omega)]
theorem dv_app (l : List Int) (x : Int) : dv (l ++ [x]) = dv l + x * 1000 ^ l.length := by
  unfold dv
  rw [List.length_append, List.length_singleton, dt, dt_app l x _ (Nat.le_refl _), getD_last]
theorem dt_end (l : List Int) (i : Nat) (h : l.length ≤ i) : dt l i = dv l := by
  induction i with
  | zero => have : l.length = 0 := by omega
            unfold dv; rw [this]
  | succ i ih =>
    by_cases e : l.length = i + 1
    · unfold dv; rw [e]
    · rw [dt, ih (by omega), getD_end l i (by omega)]; omega
theorem dig_nil : Dig [] := fun j => by simp [dg]
theorem dig_app {l : List Int} (h : Dig l) {x : Int} (h0 : 0 ≤ x) (h1 : x ≤ 999) : Dig (l ++ [x]) := fun j => by
  by_cases e : j < l.length
  · rw [getD_app l x j e]; exact h j
  · by_cases e' : j = l.length
    · subst e'; rw [getD_last]; exact ⟨h0, h1⟩
    · rw [getD_end _ j (by simp; omega)]; decide
theorem dt_bd {l : List Int} (h : Dig l) (i : Nat) : 0 ≤ dt l i ∧ dt l i < 1000 ^ i := by
  induction i with
  | zero => exact ⟨Int.le_refl 0, by show (0 : Int) < 1; decide⟩
  | succ i ih =>
    have hd := h i
    have hp := pw_pos i
    have h1 := Int.mul_nonneg hd.1 (Int.le_of_lt hp)
    have h2 := Int.mul_le_mul_of_nonneg_right hd.2 (Int.le_of_lt hp)
    rw [dt, pw_succ]; omega
theorem dv_nonneg {l : List Int} (h : Dig l) : 0 ≤ dv l := (dt_bd h _).1
/-- the highest digit that differs decides -/
theorem dt_lt {a b : List Int} (ha : Dig a) (hb : Dig b) (i : Nat) (h : dg a i < dg b i) : dt a (i + 1) < dt b (i + 1) := by
  have p := dt_bd ha i
  have q := dt_bd hb i
  have hp := pw_pos i
  have h2 := Int.mul_le_mul_of_nonneg_right (show dg a i + 1 ≤ dg b i by omega) (Int.le_of_lt hp)
  rw [Int.add_mul] at h2
  rw [dt, dt]; omega

/-- -1, 0, 1: how two numbers compare -/
def cmp3 (x y : Int) : Int := if x < y then -1 else if y < x then 1 else 0
theorem cmp3_lt {x y : Int} (h : x < y) : cmp3 x y = -1 := by unfold cmp3; rw [if_pos h]
theorem cmp3_gt {x y : Int} (h : y < x) : cmp3 x y = 1 := by unfold cmp3; rw [if_neg (by omega), if_pos h]
theorem cmp3_eq {x y : Int} (h : x = y) : cmp3 x y = 0 := by unfold cmp3; rw [if_neg (by omega), if_neg (by omega)]

/-! ### the step of taking a number apart -/
theorem digs_step {l : List Int} {k n : Int} (hd : Dig l) (h0 : 0 ≤ k) (h : dv l + k * 1000 ^ l.length = n) :
    Dig (l ++ [k % 1000]) ∧ dv (l ++ [k % 1000]) + k / 1000 * 1000 ^ (l ++ [k % 1000]).length = n := by
  refine ⟨dig_app hd (by omega) (by omega), ?_⟩
  rw [dv_app, List.length_append, List.length_singleton, pw_succ]
  have e : k % 1000 * 1000 ^ l.length + k / 1000 * (1000 * 1000 ^ l.length) = k * 1000 ^ l.length := by
    rw [← Int.mul_assoc, ← Int.add_mul]; congr 1; omega
  omega
theorem digs_len {l : List Int} {k n : Int} (hd : Dig l) (h0 : 0 < k) (hn : n ≤ 9223372036854775807) (h : dv l + k * 1000 ^ l.length = n) : l.length ≤ 6 := by
  have hv := dv_nonneg hd
  have hm := Int.mul_le_mul_of_nonneg_right (show 1 ≤ k by omega) (Int.le_of_lt (pw_pos l.length))
  by_cases hl : l.length ≤ 6
  · exact hl
  · exfalso
    obtain ⟨j, hj⟩ : ∃ j, l.length = 7 + j := ⟨l.length - 7, by omega⟩
    rw [hj, pw_add] at hm h
    have hp := Int.mul_le_mul_of_nonneg_left (show 1 ≤ (1000 : Int) ^ j by have := pw_pos j; omega) (show (0 : Int) ≤ 1000 ^ 7 by decide)
    have h7 : (1000 : Int) ^ 7 = 1000000000000000000000 := by decide
    rw [h7] at hp hm h
    omega

/-! ### the step of a sum: what was added up to i, and what is carried -/
theorem sum_step {a b o : List Int} {i : Nat} {c : Int} (hl : o.length = i) (ha : Dig a) (hb : Dig b) (ho : Dig o) (hc : 0 ≤ c) (hc1 : c ≤ 1)
    (h : dv o + c * 1000 ^ i = dt a i + dt b i) :
    Dig (o ++ [(c + dg a i + dg b i) % 1000]) ∧ 0 ≤ (c + dg a i + dg b i) / 1000 ∧ (c + dg a i + dg b i) / 1000 ≤ 1 ∧
    dv (o ++ [(c + dg a i + dg b i) % 1000]) + (c + dg a i + dg b i) / 1000 * 1000 ^ (i + 1) = dt a (i + 1) + dt b (i + 1) := by
  have da := ha i
  have db := hb i
  refine ⟨dig_app ho (by omega) (by omega), by omega, by omega, ?_⟩
  rw [dv_app, hl, dt, dt, pw_succ]
  generalize dg a i = x at *
  generalize dg b i = y at *
  have e : (c + x + y) % 1000 * 1000 ^ i + (c + x + y) / 1000 * (1000 * 1000 ^ i) = (c + x + y) * 1000 ^ i := by
    rw [← Int.mul_assoc, ← Int.add_mul]; congr 1; omega
  have e2 : (c + x + y) * 1000 ^ i = c * 1000 ^ i + x * 1000 ^ i + y * 1000 ^ i := by rw [Int.add_mul, Int.add_mul]
  omega

/-! ### the step of a row of a product -/
theorem row_step {a o : List Int} {i k : Nat} {c y : Int} (hl : o.length = i + k) (ha : Dig a) (ho : Dig o) (hy0 : 0 ≤ y) (hy : y ≤ 999) (hc : 0 ≤ c) (hc1 : c ≤ 998)
    (h : dv o + c * 1000 ^ (i + k) = dt a k * y * 1000 ^ i) :
    0 ≤ dg a k * y ∧ dg a k * y ≤ 998001 ∧
    Dig (o ++ [(c + dg a k * y) % 1000]) ∧ 0 ≤ (c + dg a k * y) / 1000 ∧ (c + dg a k * y) / 1000 ≤ 998 ∧
    dv (o ++ [(c + dg a k * y) % 1000]) + (c + dg a k * y) / 1000 * 1000 ^ (i + (k + 1)) = dt a (k + 1) * y * 1000 ^ i := by
  have da := ha k
  rw [dt]
  generalize dg a k = x at *
  have p0 := Int.mul_nonneg da.1 hy0
  have p1 : x * y ≤ 999 * 999 := Int.mul_le_mul da.2 hy hy0 (by decide)
  refine ⟨p0, by omega, dig_app ho (by omega) (by omega), by omega, by omega, ?_⟩
  rw [dv_app, hl, show i + (k + 1) = (i + k) + 1 from rfl, pw_succ]
  have e : (c + x * y) % 1000 * 1000 ^ (i + k) + (c + x * y) / 1000 * (1000 * 1000 ^ (i + k)) = (c + x * y) * 1000 ^ (i + k) := by
    rw [← Int.mul_assoc, ← Int.add_mul]; congr 1; omega
  have e2 : (c + x * y) * 1000 ^ (i + k) = c * 1000 ^ (i + k) + x * y * 1000 ^ (i + k) := by rw [Int.add_mul]
  have e3 : (dt a k + x * 1000 ^ k) * y * 1000 ^ i = dt a k * y * 1000 ^ i + x * y * 1000 ^ (i + k) := by
    rw [pw_add, Int.add_mul, Int.add_mul]
    congr 1
    rw [Int.mul_assoc x, Int.mul_comm (1000 ^ k) y, ← Int.mul_assoc x, Int.mul_assoc (x * y), Int.mul_comm (1000 ^ k)]
  omega

/-! ### quotients found bit by bit -/
/-- one more step of the search: q is what was found, 2 ^ k what may still be added, less one -/
def Seek (x n q : Int) (k : Nat) : Prop := 0 ≤ q ∧ q + 2 ^ k ≤ 9223372036854775808 ∧ q * n ≤ x ∧ (x < (q + 2 ^ k) * n ∨ q + 2 ^ k = 9223372036854775808)
theorem seek_start {x n : Int} (h : 0 ≤ x) : Seek x n 0 63 := ⟨by decide, by decide, by omega, .inr (by decide)⟩
theorem two_pos (k : Nat) : (0 : Int) < 2 ^ k := Int.pow_pos (by decide)
theorem two_succ (k : Nat) : (2 : Int) ^ (k + 1) = 2 * 2 ^ k := by rw [Int.pow_succ, Int.mul_comm]
theorem seek_yes {x n q : Int} {k : Nat} (h : Seek x n q (k + 1)) (hx : (q + 2 ^ k) * n ≤ x) : Seek x n (q + 2 ^ k) k := by
  obtain ⟨a, b, _, d⟩ := h
  rw [two_succ] at b d
  have := two_pos k
  have e : q + 2 ^ k + 2 ^ k = q + 2 * 2 ^ k := by omega
  refine ⟨by omega, by omega, hx, ?_⟩
  rw [e]; exact d
theorem seek_no {x n q : Int} {k : Nat} (h : Seek x n q (k + 1)) (hx : x < (q + 2 ^ k) * n) : Seek x n q k := by
  obtain ⟨a, b, c, _⟩ := h
  rw [two_succ] at b
  have := two_pos k
  exact ⟨a, by omega, c, .inl hx⟩
/-- how often n goes into x, if that is a count; else 0 -/
def quotN (x n : Int) : Int := if x < 9223372036854775808 * n then x / n else 0
/-- is there a rest? -/
def quotR (x n : Int) : Bool := decide (x < 9223372036854775808 * n) && decide (x % n ≠ 0)
/-- is it a count? -/
def quotB (x n : Int) : Bool := decide (x < 9223372036854775808 * n)
theorem seek_end {x n q : Int} (hn : 1 ≤ n) (h : Seek x n q 0) :
    (q * n + n ≤ x → quotN x n = 0 ∧ quotR x n = false ∧ quotB x n = false) ∧
    (x < q * n + n → quotN x n = q ∧ quotR x n = decide (q * n < x) ∧ quotB x n = true) := by
  obtain ⟨a, b, c, d⟩ := h
  simp only [Int.pow_zero] at b d
  have e1 : (q + 1) * n = q * n + n := by rw [Int.add_mul, Int.one_mul]
  rw [e1] at d
  have m1 := Int.mul_le_mul_of_nonneg_right (show q + 1 ≤ 9223372036854775808 by omega) (show 0 ≤ n by omega)
  rw [e1] at m1
  constructor
  · intro h
    have hb : ¬ x < 9223372036854775808 * n := by
      rcases d with d | d
      · omega
      · rw [← d, e1]; omega
    unfold quotN quotR quotB
    rw [if_neg hb, decide_eq_false hb]
    exact ⟨rfl, rfl, rfl⟩
  · intro h
    have hb : x < 9223372036854775808 * n := by omega
    have hd : x / n = q := by
      rw [Int.ediv_eq_iff_of_pos (by omega)]
      refine ⟨?_, ?_⟩
      · exact c
      · exact h
    have hm : x % n = x - q * n := by rw [Int.emod_def, hd, Int.mul_comm]
    unfold quotN quotR quotB
    rw [if_pos hb, decide_eq_true hb, hd, hm]
    refine ⟨rfl, ?_, rfl⟩
    rw [Bool.true_and]
    apply decide_eq_decide.2
    omega
theorem quotN_bd {x n : Int} (hx : 0 ≤ x) (hn : 1 ≤ n) : 0 ≤ quotN x n ∧ quotN x n ≤ 9223372036854775807 := by
  unfold quotN
  by_cases h : x < 9223372036854775808 * n
  · rw [if_pos h]
    refine ⟨Int.ediv_nonneg hx (by omega), ?_⟩
    have := Int.ediv_lt_of_lt_mul (show 0 < n by omega) h
    omega
  · rw [if_neg h]; decide

end Go.Proofs.Ytafkkhjhdfmhpaa
