/- Texts laid together: Num, Spec, TwNum, NdNum, RoNum, StNum, PbNum, PbNum2, PbNum3. -/
import Derived.WalkKit
import Derived.Lib.ItoaNum
import Derived.Lib.Hide
namespace Go.Proofs.YtelekchdbiimiaaGreat
set_option linter.unusedVariables false
/-- the digit at place i (0 beyond the end) -/
def dg (l : List Int) (i : Nat) : Int := l.getD i 0
/-- what the first i digits of a list are worth (0 beyond its end) -/
def dt (l : List Int) : Nat → Int
  | 0 => 0
  | i + 1 => dt l i + dg l i * 1000 ^ i
/-- what a list of digits is worth -/
def dv (l : List Int) : Int := dt l l.length
/-- each one is a digit -/
def Dig (l : List Int) : Prop := ∀ j, 0 ≤ dg l j ∧ dg l j ≤ 999
theorem pw_pos (i : Nat) : (0 : Int) < 1000 ^ i := Int.pow_pos (by decide)
theorem pw_succ (i : Nat) : (1000 : Int) ^ (i + 1) = 1000 * 1000 ^ i := by rw [Int.pow_succ, Int.mul_comm]
theorem pw_add (i k : Nat) : (1000 : Int) ^ (i + k) = 1000 ^ i * 1000 ^ k := Int.pow_add ..
theorem getD_app (l : List Int) (x : Int) (j : Nat) (h : j < l.length) : dg (l ++ [x]) j = dg l j := by
  simp [dg, List.getD_eq_getElem?_getD, List.getElem?_append_left h]
theorem getD_last (l : List Int) (x : Int) : dg (l ++ [x]) l.length = x := by
  simp [dg, List.getD_eq_getElem?_getD]
theorem getD_end (l : List Int) (j : Nat) (h : l.length ≤ j) : dg l j = 0 := by
  simp [dg, List.getD_eq_getElem?_getD, List.getElem?_eq_none h]
theorem dt_app (l : List Int) (x : Int) (i : Nat) (h : i ≤ l.length) : dt (l ++ [x]) i = dt l i := by
  induction i with
  | zero => rfl
  | succ i ih => rw [dt, dt, ih (by omega), getD_app l x i (by omega)]
theorem dv_app (l : List Int) (x : Int) : dv (l ++ [x]) = dv l + x * 1000 ^ l.length := by
  unfold dv
  rw [List.length_append, List.length_singleton, dt, dt_app l x _ (Nat.le_refl _), getD_last]
theorem dt_end (l : List Int) (i : Nat) (h : l.length ≤ i) : dt l i = dv l := by
  induction i with
  | zero => have : l.length = 0 := by omega
            unfold dv; rw [this]
  | succ i ih =>
    by_cases e : l.length = i + 1
    · unfold dv; rw [e]
    · rw [dt, ih (by omega), getD_end l i (by omega)]; omega
theorem dig_nil : Dig [] := fun j => by simp [dg]
theorem dig_app {l : List Int} (h : Dig l) {x : Int} (h0 : 0 ≤ x) (h1 : x ≤ 999) : Dig (l ++ [x]) := fun j => by
  by_cases e : j < l.length
  · rw [getD_app l x j e]; exact h j
  · by_cases e' : j = l.length
    · subst e'; rw [getD_last]; exact ⟨h0, h1⟩
    · rw [getD_end _ j (by simp; omega)]; decide
theorem dt_bd {l : List Int} (h : Dig l) (i : Nat) : 0 ≤ dt l i ∧ dt l i < 1000 ^ i := by
  induction i with
  | zero => exact ⟨Int.le_refl 0, by show (0 : Int) < 1; decide⟩
  | succ i ih =>
    have hd := h i
    have hp := pw_pos i
    have h1 := Int.mul_nonneg hd.1 (Int.le_of_lt hp)
    have h2 := Int.mul_le_mul_of_nonneg_right hd.2 (Int.le_of_lt hp)
    rw [dt, pw_succ]; omega
theorem dv_nonneg {l : List Int} (h : Dig l) : 0 ≤ dv l := (dt_bd h _).1
/-- the highest digit that differs decides -/
theorem dt_lt {a b : List Int} (ha : Dig a) (hb : Dig b) (i : Nat) (h : dg a i < dg b i) : dt a (i + 1) < dt b (i + 1) := by
  have p := dt_bd ha i
  have q := dt_bd hb i
  have hp := pw_pos i
  have h2 := Int.mul_le_mul_of_nonneg_right (show dg a i + 1 ≤ dg b i by omega) (Int.le_of_lt hp)
  rw [Int.add_mul] at h2
  rw [dt, dt]; omega
/-- -1, 0, 1: how two numbers compare -/
def cmp3 (x y : Int) : Int := if x < y then -1 else if y < x then 1 else 0
theorem cmp3_lt {x y : Int} (h : x < y) : cmp3 x y = -1 := by unfold cmp3; rw [if_pos h]
theorem cmp3_gt {x y : Int} (h : y < x) : cmp3 x y = 1 := by unfold cmp3; rw [if_neg (by omega), if_pos h]
theorem cmp3_eq {x y : Int} (h : x = y) : cmp3 x y = 0 := by unfold cmp3; rw [if_neg (by omega), if_neg (by omega)]
theorem digs_step {l : List Int} {k n : Int} (hd : Dig l) (h0 : 0 ≤ k) (h : dv l + k * 1000 ^ l.length = n) :
    Dig (l ++ [k % 1000]) ∧ dv (l ++ [k % 1000]) + k / 1000 * 1000 ^ (l ++ [k % 1000]).length = n := by
  refine ⟨dig_app hd (by omega) (by omega), ?_⟩
  rw [dv_app, List.length_append, List.length_singleton, pw_succ]
  have e : k % 1000 * 1000 ^ l.length + k / 1000 * (1000 * 1000 ^ l.length) = k * 1000 ^ l.length := by
    rw [← Int.mul_assoc, ← Int.add_mul]; congr 1; omega
  omega
theorem digs_len {l : List Int} {k n : Int} (hd : Dig l) (h0 : 0 < k) (hn : n ≤ 9223372036854775807) (h : dv l + k * 1000 ^ l.length = n) : l.length ≤ 6 := by
  have hv := dv_nonneg hd
  have hm := Int.mul_le_mul_of_nonneg_right (show 1 ≤ k by omega) (Int.le_of_lt (pw_pos l.length))
  by_cases hl : l.length ≤ 6
  · exact hl
  · exfalso
    obtain ⟨j, hj⟩ : ∃ j, l.length = 7 + j := ⟨l.length - 7, by omega⟩
    rw [hj, pw_add] at hm h
    have hp := Int.mul_le_mul_of_nonneg_left (show 1 ≤ (1000 : Int) ^ j by have := pw_pos j; omega) (show (0 : Int) ≤ 1000 ^ 7 by decide)
    have h7 : (1000 : Int) ^ 7 = 1000000000000000000000 := by decide
    rw [h7] at hp hm h
    omega
theorem sum_step {a b o : List Int} {i : Nat} {c : Int} (hl : o.length = i) (ha : Dig a) (hb : Dig b) (ho : Dig o) (hc : 0 ≤ c) (hc1 : c ≤ 1)
    (h : dv o + c * 1000 ^ i = dt a i + dt b i) :
    Dig (o ++ [(c + dg a i + dg b i) % 1000]) ∧ 0 ≤ (c + dg a i + dg b i) / 1000 ∧ (c + dg a i + dg b i) / 1000 ≤ 1 ∧
    dv (o ++ [(c + dg a i + dg b i) % 1000]) + (c + dg a i + dg b i) / 1000 * 1000 ^ (i + 1) = dt a (i + 1) + dt b (i + 1) := by
  have da := ha i
  have db := hb i
  refine ⟨dig_app ho (by omega) (by omega), by omega, by omega, ?_⟩
  rw [dv_app, hl, dt, dt, pw_succ]
  generalize dg a i = x at *
  generalize dg b i = y at *
  have e : (c + x + y) % 1000 * 1000 ^ i + (c + x + y) / 1000 * (1000 * 1000 ^ i) = (c + x + y) * 1000 ^ i := by
    rw [← Int.mul_assoc, ← Int.add_mul]; congr 1; omega
  have e2 : (c + x + y) * 1000 ^ i = c * 1000 ^ i + x * 1000 ^ i + y * 1000 ^ i := by rw [Int.add_mul, Int.add_mul]
  omega
theorem row_step {a o : List Int} {i k : Nat} {c y : Int} (hl : o.length = i + k) (ha : Dig a) (ho : Dig o) (hy0 : 0 ≤ y) (hy : y ≤ 999) (hc : 0 ≤ c) (hc1 : c ≤ 998)
    (h : dv o + c * 1000 ^ (i + k) = dt a k * y * 1000 ^ i) :
    0 ≤ dg a k * y ∧ dg a k * y ≤ 998001 ∧
    Dig (o ++ [(c + dg a k * y) % 1000]) ∧ 0 ≤ (c + dg a k * y) / 1000 ∧ (c + dg a k * y) / 1000 ≤ 998 ∧
    dv (o ++ [(c + dg a k * y) % 1000]) + (c + dg a k * y) / 1000 * 1000 ^ (i + (k + 1)) = dt a (k + 1) * y * 1000 ^ i := by
  have da := ha k
  rw [dt]
  generalize dg a k = x at *
  have p0 := Int.mul_nonneg da.1 hy0
  have p1 : x * y ≤ 999 * 999 := Int.mul_le_mul da.2 hy hy0 (by decide)
  refine ⟨p0, by omega, dig_app ho (by omega) (by omega), by omega, by omega, ?_⟩
  rw [dv_app, hl, show i + (k + 1) = (i + k) + 1 from rfl, pw_succ]
  have e : (c + x * y) % 1000 * 1000 ^ (i + k) + (c + x * y) / 1000 * (1000 * 1000 ^ (i + k)) = (c + x * y) * 1000 ^ (i + k) := by
    rw [← Int.mul_assoc, ← Int.add_mul]; congr 1; omega
  have e2 : (c + x * y) * 1000 ^ (i + k) = c * 1000 ^ (i + k) + x * y * 1000 ^ (i + k) := by rw [Int.add_mul]
  have e3 : (dt a k + x * 1000 ^ k) * y * 1000 ^ i = dt a k * y * 1000 ^ i + x * y * 1000 ^ (i + k) := by
    rw [pw_add, Int.add_mul, Int.add_mul]
    congr 1
    rw [Int.mul_assoc x, Int.mul_comm (1000 ^ k) y, ← Int.mul_assoc x, Int.mul_assoc (x * y), Int.mul_comm (1000 ^ k)]
  omega
/-- one more step of the search: q is what was found, 2 ^ k what may still be added, less one -/
def Seek (x n q : Int) (k : Nat) : Prop := 0 ≤ q ∧ q + 2 ^ k ≤ 9223372036854775808 ∧ q * n ≤ x ∧ (x < (q + 2 ^ k) * n ∨ q + 2 ^ k = 9223372036854775808)
theorem seek_start {x n : Int} (h : 0 ≤ x) : Seek x n 0 63 := ⟨by decide, by decide, by omega, .inr (by decide)⟩
theorem two_pos (k : Nat) : (0 : Int) < 2 ^ k := Int.pow_pos (by decide)
theorem two_succ (k : Nat) : (2 : Int) ^ (k + 1) = 2 * 2 ^ k := by rw [Int.pow_succ, Int.mul_comm]
theorem seek_yes {x n q : Int} {k : Nat} (h : Seek x n q (k + 1)) (hx : (q + 2 ^ k) * n ≤ x) : Seek x n (q + 2 ^ k) k := by
  obtain ⟨a, b, _, d⟩ := h
  rw [two_succ] at b d
  have := two_pos k
  have e : q + 2 ^ k + 2 ^ k = q + 2 * 2 ^ k := by omega
  refine ⟨by omega, by omega, hx, ?_⟩
  rw [e]; exact d
theorem seek_no {x n q : Int} {k : Nat} (h : Seek x n q (k + 1)) (hx : x < (q + 2 ^ k) * n) : Seek x n q k := by
  obtain ⟨a, b, c, _⟩ := h
  rw [two_succ] at b
  have := two_pos k
  exact ⟨a, by omega, c, .inl hx⟩
/-- how often n goes into x, if that is a count; else 0 -/
def quotN (x n : Int) : Int := if x < 9223372036854775808 * n then x / n else 0
/-- is there a rest? -/
def quotR (x n : Int) : Bool := decide (x < 9223372036854775808 * n) && decide (x % n ≠ 0)
/-- is it a count? -/
def quotB (x n : Int) : Bool := decide (x < 9223372036854775808 * n)
theorem seek_end {x n q : Int} (hn : 1 ≤ n) (h : Seek x n q 0) :
    (q * n + n ≤ x → quotN x n = 0 ∧ quotR x n = false ∧ quotB x n = false) ∧
    (x < q * n + n → quotN x n = q ∧ quotR x n = decide (q * n < x) ∧ quotB x n = true) := by
  obtain ⟨a, b, c, d⟩ := h
  simp only [Int.pow_zero] at b d
  have e1 : (q + 1) * n = q * n + n := by rw [Int.add_mul, Int.one_mul]
  rw [e1] at d
  have m1 := Int.mul_le_mul_of_nonneg_right (show q + 1 ≤ 9223372036854775808 by omega) (show 0 ≤ n by omega)
  rw [e1] at m1
  constructor
  · intro h
    have hb : ¬ x < 9223372036854775808 * n := by
      rcases d with d | d
      · omega
      · rw [← d, e1]; omega
    unfold quotN quotR quotB
    rw [if_neg hb, decide_eq_false hb]
    exact ⟨rfl, rfl, rfl⟩
  · intro h
    have hb : x < 9223372036854775808 * n := by omega
    have hd : x / n = q := by
      rw [Int.ediv_eq_iff_of_pos (by omega)]
      refine ⟨?_, ?_⟩
      · exact c
      · exact h
    have hm : x % n = x - q * n := by rw [Int.emod_def, hd, Int.mul_comm]
    unfold quotN quotR quotB
    rw [if_pos hb, decide_eq_true hb, hd, hm]
    refine ⟨rfl, ?_, rfl⟩
    rw [Bool.true_and]
    apply decide_eq_decide.2
    omega
theorem quotN_bd {x n : Int} (hx : 0 ≤ x) (hn : 1 ≤ n) : 0 ≤ quotN x n ∧ quotN x n ≤ 9223372036854775807 := by
  unfold quotN
  by_cases h : x < 9223372036854775808 * n
  · rw [if_pos h]
    refine ⟨Int.ediv_nonneg hx (by omega), ?_⟩
    have := Int.ediv_lt_of_lt_mul (show 0 < n by omega) h
    omega
  · rw [if_neg h]; decide
end Go.Proofs.YtelekchdbiimiaaGreat
namespace Go.Proofs.YtelekchdbiimiaaGreat
set_option linter.unusedVariables false
/-- a value, if a condition holds; else 0 -/
def onN (c : Prop) [Decidable c] (v : Int) : Int := if c then v else 0
def onB (c : Prop) [Decidable c] : Bool := decide c
theorem on_yes {c : Prop} [Decidable c] (h : c) (v : Int) : onN c v = v ∧ onB c = true := ⟨if_pos h, decide_eq_true h⟩
theorem on_no {c : Prop} [Decidable c] (h : ¬ c) (v : Int) : onN c v = 0 ∧ onB c = false := ⟨if_neg h, decide_eq_false h⟩
def sumN (a b : Int) : Int := onN (0 ≤ a ∧ 0 ≤ b ∧ a + b ≤ 9223372036854775807) (a + b)
def sumB (a b : Int) : Bool := onB (0 ≤ a ∧ 0 ≤ b ∧ a + b ≤ 9223372036854775807)
theorem sum_yes {a b : Int} (h : 0 ≤ a ∧ 0 ≤ b ∧ a + b ≤ 9223372036854775807) : sumN a b = a + b ∧ sumB a b = true := on_yes h _
theorem sum_no {a b : Int} (h : ¬ (0 ≤ a ∧ 0 ≤ b ∧ a + b ≤ 9223372036854775807)) : sumN a b = 0 ∧ sumB a b = false := on_no h _
def quoN (a b : Int) : Int := onN (0 ≤ a ∧ 1 ≤ b) (a / b)
def quoB (a b : Int) : Bool := onB (0 ≤ a ∧ 1 ≤ b)
theorem quo_yes {a b : Int} (h : 0 ≤ a ∧ 1 ≤ b) : quoN a b = a / b ∧ quoB a b = true := on_yes h _
theorem quo_no {a b : Int} (h : ¬ (0 ≤ a ∧ 1 ≤ b)) : quoN a b = 0 ∧ quoB a b = false := on_no h _
/-- parts: are the three numbers right? -/
def partC (n m d : Int) : Prop := 0 ≤ n ∧ 0 ≤ m ∧ 1 ≤ d
instance (n m d : Int) : Decidable (partC n m d) := by unfold partC; infer_instance
def partN (n m d : Int) : Int := if partC n m d then quotN (n * m) d else 0
def partR (n m d : Int) : Bool := if partC n m d then quotR (n * m) d else false
def partB (n m d : Int) : Bool := if partC n m d then quotB (n * m) d else false
theorem part_yes {n m d : Int} (h : partC n m d) : partN n m d = quotN (n * m) d ∧ partR n m d = quotR (n * m) d ∧ partB n m d = quotB (n * m) d := ⟨if_pos h, if_pos h, if_pos h⟩
theorem part_no {n m d : Int} (h : ¬ partC n m d) : partN n m d = 0 ∧ partR n m d = false ∧ partB n m d = false := ⟨if_neg h, if_neg h, if_neg h⟩
theorem part_bd (n m d : Int) : 0 ≤ partN n m d ∧ partN n m d ≤ 9223372036854775807 := by
  by_cases h : partC n m d
  · rw [(part_yes h).1]; exact quotN_bd (Int.mul_nonneg h.1 h.2.1) h.2.2
  · rw [(part_no h).1]; decide
theorem part_rest {n m d : Int} (h : partR n m d = true) : partB n m d = true := by
  by_cases hc : partC n m d
  · rw [(part_yes hc).2.1] at h
    rw [(part_yes hc).2.2]
    unfold quotR at h
    unfold quotB
    simp only [Bool.and_eq_true] at h
    exact h.1
  · rw [(part_no hc).2.1] at h; cases h
/-- parts, rounded up -/
def partUpN (n m d : Int) : Int := if partR n m d = true then sumN (partN n m d) 1 else partN n m d
def partUpB (n m d : Int) : Bool := if partR n m d = true then sumB (partN n m d) 1 else partB n m d
theorem partUp_rest {n m d : Int} (h : partR n m d = true) : partUpN n m d = sumN (partN n m d) 1 ∧ partUpB n m d = sumB (partN n m d) 1 := ⟨if_pos h, if_pos h⟩
theorem partUp_flat {n m d : Int} (h : partR n m d = false) : partUpN n m d = partN n m d ∧ partUpB n m d = partB n m d := ⟨if_neg (by rw [h]; decide), if_neg (by rw [h]; decide)⟩
theorem partUp_none {n m d : Int} (h : ¬ partC n m d) : partUpN n m d = 0 ∧ partUpB n m d = false := by
  rw [(partUp_flat (part_no h).2.1).1, (partUp_flat (part_no h).2.1).2]; exact ⟨(part_no h).1, (part_no h).2.2⟩
theorem partUp_max {n m d : Int} (h : partR n m d = true) (hm : partN n m d = 9223372036854775807) : partUpN n m d = 0 ∧ partUpB n m d = false := by
  rw [(partUp_rest h).1, (partUp_rest h).2]; exact sum_no (by omega)
theorem partUp_more {n m d : Int} (h : partR n m d = true) (hm : partN n m d < 9223372036854775807) : partUpN n m d = partN n m d + 1 ∧ partUpB n m d = true := by
  have := part_bd n m d
  rw [(partUp_rest h).1, (partUp_rest h).2]; exact sum_yes (by omega)
/-- orders -/
def ordC (a b c d : Int) : Prop := 0 ≤ a ∧ 0 ≤ b ∧ 0 ≤ c ∧ 0 ≤ d
instance (a b c d : Int) : Decidable (ordC a b c d) := by unfold ordC; infer_instance
def ordN (a b c d : Int) : Int := onN (ordC a b c d) (cmp3 (a * b) (c * d))
def ordB (a b c d : Int) : Bool := onB (ordC a b c d)
theorem ord_yes {a b c d : Int} (h : ordC a b c d) : ordN a b c d = cmp3 (a * b) (c * d) ∧ ordB a b c d = true := on_yes h _
theorem ord_no {a b c d : Int} (h : ¬ ordC a b c d) : ordN a b c d = 0 ∧ ordB a b c d = false := on_no h _
end Go.Proofs.YtelekchdbiimiaaGreat
namespace Go.Proofs.YtelekchdbiimiaaGreat
set_option linter.unusedVariables false
/-- the greatest e for which 2 to the power e isn't above n -/
def logN (n : Int) : Int := onN (1 ≤ n) ((Lib.bitLen n.toNat : Int) - 1)
def logB (n : Int) : Bool := onB (1 ≤ n)
theorem log_yes {n : Int} (h : 1 ≤ n) : logN n = (Lib.bitLen n.toNat : Int) - 1 ∧ logB n = true := on_yes h _
theorem log_no {n : Int} (h : ¬ 1 ≤ n) : logN n = 0 ∧ logB n = false := on_no h _
theorem two_le (k n : Nat) (h : k ≤ n) : (2 : Int) ^ k ≤ 2 ^ n := by
  have h1 := Nat.pow_le_pow_right (show 0 < 2 by decide) h
  have e1 : ((2 ^ k : Nat) : Int) = (2 : Int) ^ k := by rw [Int.natCast_pow]; rfl
  have e2 : ((2 ^ n : Nat) : Int) = (2 : Int) ^ n := by rw [Int.natCast_pow]; rfl
  omega
theorem two_lt {k n : Nat} (h : (2 : Int) ^ k < 2 ^ n) : k < n := by
  by_cases e : k < n
  · exact e
  · have := two_le n k (by omega); omega
theorem two_add (i k : Nat) : (2 : Int) ^ (i + k) = 2 ^ i * 2 ^ k := Int.pow_add ..
/-- k is the depth of id -/
def AtDep (id : Int) (k : Nat) : Prop := 2 ^ k ≤ id ∧ id < 2 * 2 ^ k
theorem dep_uniq {id : Int} {k m : Nat} (a : AtDep id k) (b : AtDep id m) : k = m := by
  obtain ⟨a1, a2⟩ := a; obtain ⟨b1, b2⟩ := b
  have h1 : (2 : Int) ^ k < 2 ^ (m + 1) := by rw [two_succ]; omega
  have h2 : (2 : Int) ^ m < 2 ^ (k + 1) := by rw [two_succ]; omega
  have := two_lt h1; have := two_lt h2; omega
theorem dep_of {id : Int} (h : 1 ≤ id) (h1 : id ≤ 9223372036854775807) : ∃ k : Nat, k ≤ 62 ∧ logN id = k ∧ logB id = true ∧ AtDep id k := by
  obtain ⟨n, rfl⟩ := Int.eq_ofNat_of_zero_le (show 0 ≤ id by omega)
  have hb := Lib.bitLenAux_bounds 64 n (by omega) (by omega)
  have e : Lib.bitLen n = Lib.bitLenAux 64 n := rfl
  have hl := Lib.bitLen_le n 63 (by omega) (by omega)
  obtain ⟨b1, b2, b3⟩ := hb
  rw [← e] at b1 b2 b3
  refine ⟨Lib.bitLen n - 1, by omega, ?_, (log_yes h).2, ?_⟩
  · rw [(log_yes h).1]; simp; omega
  · have e1 : ((2 ^ (Lib.bitLen n - 1) : Nat) : Int) = (2 : Int) ^ (Lib.bitLen n - 1) := by rw [Int.natCast_pow]; rfl
    have e2 : (2 : Nat) ^ Lib.bitLen n = 2 * 2 ^ (Lib.bitLen n - 1) := by
      conv => lhs; rw [show Lib.bitLen n = (Lib.bitLen n - 1) + 1 by omega]
      rw [Nat.pow_succ]; omega
    unfold AtDep; omega
theorem dep_is {id : Int} {k : Nat} (h : AtDep id k) (h1 : id ≤ 9223372036854775807) : logN id = k ∧ logB id = true := by
  have h0 := two_pos k
  obtain ⟨m, _, e, eb, hm⟩ := dep_of (id := id) (by have := h.1; omega) h1
  rw [dep_uniq h hm]; exact ⟨e, eb⟩
theorem log_bd {id : Int} (h1 : id ≤ 9223372036854775807) : 0 ≤ logN id ∧ logN id ≤ 62 := by
  by_cases h : 1 ≤ id
  · obtain ⟨k, hk, e, _⟩ := dep_of h h1; omega
  · rw [(log_no h).1]; decide
theorem two_div (x : Int) (a b : Nat) : x / 2 ^ a / 2 ^ b = x / 2 ^ (a + b) := by
  rw [two_add, Int.ediv_ediv_of_nonneg (Int.le_of_lt (two_pos a))]
theorem div_half (x : Int) (a : Nat) : x / 2 ^ a / 2 = x / 2 ^ (a + 1) := by
  have := two_div x a 1
  simpa using this
theorem dep_kids {id : Int} {k : Nat} (h : AtDep id k) : AtDep (2 * id) (k + 1) ∧ AtDep (2 * id + 1) (k + 1) := by
  obtain ⟨h1, h2⟩ := h
  unfold AtDep
  rw [two_succ]; omega
theorem dep_zero {id : Int} (h : AtDep id 0) : id = 1 := by
  obtain ⟨h1, h2⟩ := h
  simp at h1 h2; omega
def uniB (l : Int) : Bool := decide (1 ≤ l ∧ l ≤ 48)
theorem uni_yes {l : Int} (h : 1 ≤ l ∧ l ≤ 48) : uniB l = true := decide_eq_true h
theorem uni_no {l : Int} (h : ¬ (1 ≤ l ∧ l ≤ 48)) : uniB l = false := decide_eq_false h
/-- is id a node of the universe of l bits? -/
def RightC (l id : Int) : Prop := 1 ≤ l ∧ l ≤ 48 ∧ 1 ≤ id ∧ logN id ≤ l
instance (l id : Int) : Decidable (RightC l id) := by unfold RightC; infer_instance
def rightB (l id : Int) : Bool := decide (RightC l id)
theorem right_yes {l id : Int} (h : RightC l id) : rightB l id = true := decide_eq_true h
theorem right_no {l id : Int} (h : ¬ RightC l id) : rightB l id = false := decide_eq_false h
/-- is it a leaf? -/
def LeafC (l id : Int) : Prop := 1 ≤ l ∧ l ≤ 48 ∧ 1 ≤ id ∧ logN id = l
instance (l id : Int) : Decidable (LeafC l id) := by unfold LeafC; infer_instance
def isLeafB (l id : Int) : Bool := decide (LeafC l id)
theorem isLeaf_yes {l id : Int} (h : LeafC l id) : isLeafB l id = true := decide_eq_true h
theorem isLeaf_no {l id : Int} (h : ¬ LeafC l id) : isLeafB l id = false := decide_eq_false h
/-- the leaf of x -/
def ValC (l x : Int) : Prop := 1 ≤ l ∧ l ≤ 48 ∧ 0 ≤ x ∧ x < 2 ^ l.toNat
instance (l x : Int) : Decidable (ValC l x) := by unfold ValC; infer_instance
def leafN (l x : Int) : Int := onN (ValC l x) (2 ^ l.toNat + x)
def leafB (l x : Int) : Bool := onB (ValC l x)
theorem leaf_yes {l x : Int} (h : ValC l x) : leafN l x = 2 ^ l.toNat + x ∧ leafB l x = true := on_yes h _
theorem leaf_no {l x : Int} (h : ¬ ValC l x) : leafN l x = 0 ∧ leafB l x = false := on_no h _
/-- how many values a node holds -/
def wid (l id : Int) : Int := 2 ^ (l - logN id).toNat
def loN (l id : Int) : Int := onN (RightC l id) (id * wid l id - 2 ^ l.toNat)
def hiN (l id : Int) : Int := onN (RightC l id) (id * wid l id - 2 ^ l.toNat + wid l id - 1)
def endB (l id : Int) : Bool := onB (RightC l id)
theorem end_yes {l id : Int} (h : RightC l id) : loN l id = id * wid l id - 2 ^ l.toNat ∧ hiN l id = id * wid l id - 2 ^ l.toNat + wid l id - 1 ∧ endB l id = true := ⟨(on_yes h _).1, on_yes h _⟩
theorem end_no {l id : Int} (h : ¬ RightC l id) : loN l id = 0 ∧ hiN l id = 0 ∧ endB l id = false := ⟨if_neg h, if_neg h, decide_eq_false h⟩
theorem wid_pos (l id : Int) : 0 < wid l id := two_pos _
theorem right_dep {l id : Int} (h : RightC l id) (h1 : id ≤ 9223372036854775807) : ∃ k j : Nat, logN id = k ∧ l = (k + j : Nat) ∧ k + j ≤ 48 ∧ 1 ≤ k + j ∧ AtDep id k ∧ wid l id = 2 ^ j := by
  obtain ⟨a, b, c, d⟩ := h
  obtain ⟨k, hk, e, _, hd⟩ := dep_of c h1
  refine ⟨k, (l - k).toNat, e, by omega, by omega, by omega, hd, ?_⟩
  unfold wid; rw [e]
theorem right_id {l id : Int} (h : RightC l id) (h1 : id ≤ 9223372036854775807) : id ≤ 562949953421311 := by
  obtain ⟨k, j, _, _, hkj, _, hd, _⟩ := right_dep h h1
  have := two_le k 48 (by omega)
  have := hd.2
  omega
theorem wid_bd {l id : Int} (h : RightC l id) (h1 : id ≤ 9223372036854775807) : 2 ^ l.toNat ≤ id * wid l id ∧ id * wid l id + wid l id ≤ 2 * 2 ^ l.toNat := by
  obtain ⟨k, j, e, rfl, hkj, _, hd, hw⟩ := right_dep h h1
  have hp := two_pos j
  have e1 : (2 : Int) ^ ((k + j : Nat) : Int).toNat = 2 ^ k * 2 ^ j := by rw [← two_add]; rfl
  rw [e1, hw]
  obtain ⟨d1, d2⟩ := hd
  have g1 := Int.mul_le_mul_of_nonneg_right d1 (Int.le_of_lt hp)
  have g2 := Int.mul_le_mul_of_nonneg_right (show id + 1 ≤ 2 * 2 ^ k by omega) (Int.le_of_lt hp)
  rw [Int.add_mul, Int.mul_assoc] at g2
  omega
def tUpC (id b : Int) : Prop := 1 ≤ id ∧ 0 ≤ b ∧ b ≤ logN id
instance (id b : Int) : Decidable (tUpC id b) := by unfold tUpC; infer_instance
def tUpN (id b : Int) : Int := onN (tUpC id b) (id / 2 ^ b.toNat)
def tUpB (id b : Int) : Bool := onB (tUpC id b)
theorem tUp_yes {id b : Int} (h : tUpC id b) : tUpN id b = id / 2 ^ b.toNat ∧ tUpB id b = true := on_yes h _
theorem tUp_no {id b : Int} (h : ¬ tUpC id b) : tUpN id b = 0 ∧ tUpB id b = false := on_no h _
def KidC (l id : Int) : Prop := RightC l id ∧ ¬ LeafC l id
instance (l id : Int) : Decidable (KidC l id) := by unfold KidC; infer_instance
def kidN (l id : Int) : Int := onN (KidC l id) (2 * id)
def kid2N (l id : Int) : Int := onN (KidC l id) (2 * id + 1)
def kidB (l id : Int) : Bool := onB (KidC l id)
theorem kid_yes {l id : Int} (h : KidC l id) : kidN l id = 2 * id ∧ kid2N l id = 2 * id + 1 ∧ kidB l id = true := ⟨(on_yes h _).1, on_yes h _⟩
theorem kid_no {l id : Int} (h : ¬ KidC l id) : kidN l id = 0 ∧ kid2N l id = 0 ∧ kidB l id = false := ⟨if_neg h, if_neg h, decide_eq_false h⟩
/-- the node, or the one above it of that depth -/
def PruC (id d : Int) : Prop := 1 ≤ id ∧ 0 ≤ d
instance (id d : Int) : Decidable (PruC id d) := by unfold PruC; infer_instance
def GraC (id b : Int) : Prop := 1 ≤ id ∧ 0 ≤ b ∧ logN id + b ≤ 48
instance (id b : Int) : Decidable (GraC id b) := by unfold GraC; infer_instance
theorem kid_ends {l id : Int} (h : KidC l id) (h1 : id ≤ 9223372036854775807) :
    endB l (2 * id) = true ∧ endB l (2 * id + 1) = true ∧ loN l (2 * id) = loN l id ∧ hiN l (2 * id + 1) = hiN l id ∧ hiN l (2 * id) = loN l (2 * id + 1) - 1 := by
  obtain ⟨hr, hl⟩ := h
  have hi := right_id hr h1
  obtain ⟨k, j, e, el, hkj, h0, hd, hw⟩ := right_dep hr h1
  have hj : j ≠ 0 := fun g => hl ⟨hr.1, hr.2.1, hr.2.2.1, by rw [e, el, g]; simp⟩
  obtain ⟨i, rfl⟩ := Nat.exists_eq_succ_of_ne_zero hj
  have ⟨d1, d2⟩ := dep_kids hd
  have e1 := (dep_is d1 (by omega)).1
  have e2 := (dep_is d2 (by omega)).1
  have r1 : RightC l (2 * id) := ⟨hr.1, hr.2.1, by have := hr.2.2.1; omega, by omega⟩
  have r2 : RightC l (2 * id + 1) := ⟨hr.1, hr.2.1, by have := hr.2.2.1; omega, by omega⟩
  have w1 : wid l (2 * id) = 2 ^ i := by unfold wid; congr 1; omega
  have w2 : wid l (2 * id + 1) = 2 ^ i := by unfold wid; congr 1; omega
  have a0 := end_yes hr
  have a1 := end_yes r1
  have a2 := end_yes r2
  rw [hw, two_succ] at a0
  rw [w1] at a1
  rw [w2] at a2
  have m1 : id * (2 * 2 ^ i) = 2 * (id * 2 ^ i) := Int.mul_left_comm ..
  have m2 : 2 * id * 2 ^ i = 2 * (id * 2 ^ i) := Int.mul_assoc ..
  have m3 : (2 * id + 1) * 2 ^ i = 2 * (id * 2 ^ i) + 2 ^ i := by rw [Int.add_mul, m2]; omega
  rw [m1] at a0
  rw [m2] at a1
  rw [m3] at a2
  refine ⟨a1.2.2, a2.2.2, ?_, ?_, ?_⟩ <;> omega
end Go.Proofs.YtelekchdbiimiaaGreat
namespace Go.Proofs.YtelekchdbiimiaaGreat
set_option linter.unusedVariables false
section
variable {α : Type}
def eqv (ah : α → α → Bool) (x y : α) : Bool := !ah x y && !ah y x
/-- what stands ahead of what: a strict order, in which those of which neither does are alike -/
structure Ahd (ah : α → α → Bool) : Prop where
  asym : ∀ a b, ah a b = true → ah b a = false
  trans : ∀ a b c, ah a b = false → ah b c = false → ah a c = false
/-- S is L, put in order, those that are alike as they stood -/
structure Srt (ah : α → α → Bool) (L S : List α) : Prop where
  perm : S.Perm L
  ord : S.Pairwise (fun a b => ah b a = false)
  stab : ∀ x, S.filter (eqv ah x) = L.filter (eqv ah x)
theorem Ahd.irr {ah : α → α → Bool} (A : Ahd ah) (a : α) : ah a a = false := by
  cases h : ah a a
  · rfl
  · rw [← h]; exact A.asym a a h
theorem eqv_self {ah : α → α → Bool} (A : Ahd ah) (a : α) : eqv ah a a = true := by simp [eqv, A.irr]
theorem eqv_iff {ah : α → α → Bool} {a b : α} : eqv ah a b = true ↔ ah a b = false ∧ ah b a = false := by simp [eqv]
theorem head_le {ah : α → α → Bool} (A : Ahd ah) {a t : α} {S : List α} (h : (a :: S).Pairwise (fun a b => ah b a = false)) (ht : t ∈ a :: S) : ah t a = false := by
  rcases List.mem_cons.1 ht with rfl | ht
  · exact A.irr _
  · exact (List.pairwise_cons.1 h).1 t ht
theorem ord_uniq {ah : α → α → Bool} (A : Ahd ah) : ∀ (S T : List α), S.Pairwise (fun a b => ah b a = false) → T.Pairwise (fun a b => ah b a = false) → (∀ x, S.filter (eqv ah x) = T.filter (eqv ah x)) → S = T := by
  intro S
  induction S with
  | nil =>
    intro T _ _ h
    cases T with
    | nil => rfl
    | cons b T => have := h b; simp [eqv_self A] at this
  | cons a S ih =>
    intro T hS hT h
    cases T with
    | nil => have := h a; simp [eqv_self A] at this
    | cons b T =>
      have ha : a ∈ (b :: T).filter (eqv ah a) := by rw [← h a]; simp [eqv_self A]
      have hb : b ∈ (a :: S).filter (eqv ah b) := by rw [h b]; simp [eqv_self A]
      obtain ⟨ha1, _⟩ := List.mem_filter.1 ha
      obtain ⟨hb1, _⟩ := List.mem_filter.1 hb
      have h1 := head_le A hT ha1
      have h2 := head_le A hS hb1
      have e := h a
      rw [List.filter_cons_of_pos (eqv_self A a), List.filter_cons_of_pos (eqv_iff.2 ⟨h1, h2⟩)] at e
      injection e with e1 e2
      subst e1
      congr 1
      refine ih T (List.pairwise_cons.1 hS).2 (List.pairwise_cons.1 hT).2 fun x => ?_
      have e := h x
      by_cases q : eqv ah x a = true
      · rw [List.filter_cons_of_pos q, List.filter_cons_of_pos q] at e
        injection e
      · rw [List.filter_cons_of_neg q, List.filter_cons_of_neg q] at e
        exact e
theorem Srt.uniq {ah : α → α → Bool} (A : Ahd ah) {L S T : List α} (hS : Srt ah L S) (hT : Srt ah L T) : S = T :=
  ord_uniq A S T hS.ord hT.ord fun x => (hS.stab x).trans (hT.stab x).symm
theorem Srt.small (ah : α → α → Bool) {L : List α} (h : L.length < 2) : Srt ah L L := by
  refine ⟨List.Perm.refl _, ?_, fun _ => rfl⟩
  match L, h with
  | [], _ => exact List.Pairwise.nil
  | [a], _ => exact List.pairwise_singleton _ _
  | _ :: _ :: _, h => simp at h; omega
theorem Srt.len {ah : α → α → Bool} {L S : List α} (h : Srt ah L S) : S.length = L.length := h.perm.length_eq
theorem Srt.mem {ah : α → α → Bool} {L S : List α} (h : Srt ah L S) {x : α} : x ∈ S ↔ x ∈ L := h.perm.mem_iff
/-- two lists, merged: the second one's first goes ahead only if it has to -/
def mrgIn (ah : α → α → Bool) (a : α) (f : List α → List α) : List α → List α
  | [] => a :: f []
  | b :: B => if ah b a then b :: mrgIn ah a f B else a :: f (b :: B)
def mrg (ah : α → α → Bool) : List α → List α → List α
  | [] => fun B => B
  | a :: A => mrgIn ah a (mrg ah A)
theorem mrg_nil (ah : α → α → Bool) (A : List α) : mrg ah A [] = A := by
  induction A with
  | nil => rfl
  | cons a A ih => show a :: mrg ah A [] = a :: A; rw [ih]
theorem nil_mrg (ah : α → α → Bool) (A : List α) : mrg ah [] A = A := rfl
theorem mrg_b {ah : α → α → Bool} {a b : α} {A B : List α} (h : ah b a = true) : mrg ah (a :: A) (b :: B) = b :: mrg ah (a :: A) B := by
  show (if ah b a then b :: mrgIn ah a (mrg ah A) B else a :: mrg ah A (b :: B)) = _
  rw [if_pos h]; rfl
theorem mrg_a {ah : α → α → Bool} {a b : α} {A B : List α} (h : ah b a = false) : mrg ah (a :: A) (b :: B) = a :: mrg ah A (b :: B) := by
  show (if ah b a then b :: mrgIn ah a (mrg ah A) B else a :: mrg ah A (b :: B)) = _
  rw [if_neg (by simp [h])]
theorem mrg_perm (ah : α → α → Bool) : ∀ (A B : List α), (mrg ah A B).Perm (A ++ B) := by
  intro A
  induction A with
  | nil => intro B; rw [nil_mrg]; exact List.Perm.refl _
  | cons a A iA =>
    intro B
    induction B with
    | nil => rw [mrg_nil, List.append_nil]
    | cons b B iB =>
      cases h : ah b a
      · rw [mrg_a h, List.cons_append]; exact (iA (b :: B)).cons a
      · rw [mrg_b h]; exact (iB.cons b).trans List.perm_middle.symm
theorem mrg_ord {ah : α → α → Bool} (R : Ahd ah) : ∀ (A B : List α), A.Pairwise (fun a b => ah b a = false) → B.Pairwise (fun a b => ah b a = false) → (mrg ah A B).Pairwise (fun a b => ah b a = false) := by
  intro A
  induction A with
  | nil => intro B _ h; rw [nil_mrg]; exact h
  | cons a A iA =>
    intro B hA
    induction B with
    | nil => intro _; rw [mrg_nil]; exact hA
    | cons b B iB =>
      intro hB
      cases h : ah b a
      · rw [mrg_a h]
        refine List.pairwise_cons.2 ⟨fun x hx => ?_, iA _ (List.pairwise_cons.1 hA).2 hB⟩
        rcases List.mem_append.1 ((mrg_perm ah A (b :: B)).mem_iff.1 hx) with hx | hx
        · exact (List.pairwise_cons.1 hA).1 x hx
        · exact R.trans x b a (head_le R hB hx) h
      · rw [mrg_b h]
        refine List.pairwise_cons.2 ⟨fun x hx => ?_, iB (List.pairwise_cons.1 hB).2⟩
        rcases List.mem_append.1 ((mrg_perm ah (a :: A) B).mem_iff.1 hx) with hx | hx
        · exact R.trans x a b (head_le R hA hx) (R.asym _ _ h)
        · exact (List.pairwise_cons.1 hB).1 x hx
theorem mrg_stab {ah : α → α → Bool} (R : Ahd ah) (x : α) : ∀ (A B : List α), A.Pairwise (fun a b => ah b a = false) → B.Pairwise (fun a b => ah b a = false) → (mrg ah A B).filter (eqv ah x) = A.filter (eqv ah x) ++ B.filter (eqv ah x) := by
  intro A
  induction A with
  | nil => intro B _ _; rw [nil_mrg]; rfl
  | cons a A iA =>
    intro B hA
    induction B with
    | nil => intro _; rw [mrg_nil]; simp
    | cons b B iB =>
      intro hB
      cases h : ah b a
      · rw [mrg_a h]
        have := iA (b :: B) (List.pairwise_cons.1 hA).2 hB
        by_cases q : eqv ah x a = true
        · rw [List.filter_cons_of_pos q, List.filter_cons_of_pos q, this]; rfl
        · rw [List.filter_cons_of_neg q, List.filter_cons_of_neg q, this]
      · rw [mrg_b h]
        have := iB (List.pairwise_cons.1 hB).2
        by_cases q : eqv ah x b = true
        · have hn : (a :: A).filter (eqv ah x) = [] := by
            rw [List.filter_eq_nil_iff]
            intro y hy e
            obtain ⟨e1, e2⟩ := eqv_iff.1 e
            obtain ⟨q1, q2⟩ := eqv_iff.1 q
            have := R.trans b x y q2 e1
            have := R.trans b y a this (head_le R hA hy)
            simp [h] at this
          rw [List.filter_cons_of_pos q, List.filter_cons_of_pos q, this, hn]; rfl
        · rw [List.filter_cons_of_neg q, List.filter_cons_of_neg q, this]
theorem srt_mrg {ah : α → α → Bool} (R : Ahd ah) {L M A B : List α} (hA : Srt ah L A) (hB : Srt ah M B) : Srt ah (L ++ M) (mrg ah A B) :=
  ⟨(mrg_perm ah A B).trans (hA.perm.append hB.perm), mrg_ord R A B hA.ord hB.ord, fun x => by rw [mrg_stab R x A B hA.ord hB.ord, List.filter_append, hA.stab, hB.stab]⟩
theorem srt_mrg_cut {ah : α → α → Bool} (R : Ahd ah) {L A B : List α} (k : Nat) (hA : Srt ah (L.take k) A) (hB : Srt ah (L.drop k) B) : Srt ah L (mrg ah A B) := by
  have := srt_mrg R hA hB
  rwa [List.take_append_drop] at this
end
abbrev Nd := Int × Int
def nz : Nd := (0, 0)
def idA (a b : Nd) : Bool := decide (a.1 < b.1)
theorem idA_ahd : Ahd idA := ⟨fun a b h => by simp [idA] at *; omega, fun a b c h g => by simp [idA] at *; omega⟩
theorem idA_yes {a b : Nd} (h : a.1 < b.1) : idA a b = true := decide_eq_true h
theorem idA_no {a b : Nd} (h : ¬ a.1 < b.1) : idA a b = false := decide_eq_false h
def sumC : List Nd → Int
  | [] => 0
  | n :: L => n.2 + sumC L
theorem sumC_app (L M : List Nd) : sumC (L ++ M) = sumC L + sumC M := by
  induction L with
  | nil => simp [sumC]
  | cons n L ih => simp [sumC, ih]; omega
def NonNeg (L : List Nd) : Prop := ∀ n ∈ L, 0 ≤ n.2
theorem sumC_nonneg {L : List Nd} (h : NonNeg L) : 0 ≤ sumC L := by
  induction L with
  | nil => simp [sumC]
  | cons n L ih => have := ih fun m hm => h m (by simp [hm]); have := h n (by simp); simp [sumC]; omega
theorem sumC_perm {L M : List Nd} (h : L.Perm M) : sumC L = sumC M := by
  induction h with
  | nil => rfl
  | cons x _ ih => simp [sumC, ih]
  | swap x y l => simp [sumC]; omega
  | trans _ _ a b => exact a.trans b
def TotC (L : List Nd) : Prop := NonNeg L ∧ sumC L ≤ 72057594037927935
instance (L : List Nd) : Decidable (NonNeg L) := inferInstanceAs (Decidable (∀ n ∈ L, 0 ≤ n.2))
instance (L : List Nd) : Decidable (TotC L) := inferInstanceAs (Decidable (_ ∧ _))
def totB (L : List Nd) : Bool := decide (TotC L)
def totN (L : List Nd) : Int := if TotC L then sumC L else 0
theorem tot_yes {L : List Nd} (h : TotC L) : totN L = sumC L ∧ totB L = true := ⟨if_pos h, decide_eq_true h⟩
theorem tot_no {L : List Nd} (h : ¬ TotC L) : totN L = 0 ∧ totB L = false := ⟨if_neg h, decide_eq_false h⟩
theorem totC_iff {L : List Nd} : totB L = true ↔ TotC L := by simp [totB]
theorem totC_perm {L M : List Nd} (h : L.Perm M) : TotC L ↔ TotC M := by
  unfold TotC NonNeg
  rw [sumC_perm h]
  constructor
  · rintro ⟨a, b⟩; exact ⟨fun n hn => a n (h.mem_iff.2 hn), b⟩
  · rintro ⟨a, b⟩; exact ⟨fun n hn => a n (h.mem_iff.1 hn), b⟩
theorem nd_take {L : List Nd} {k : Nat} (h : k < L.length) : L.take (k + 1) = L.take k ++ [L.getD k nz] := by
  rw [List.take_succ_eq_append_getElem h]; simp [List.getD_eq_getElem?_getD, List.getElem?_eq_getElem h]
theorem nd_drop {L : List Nd} {k : Nat} (h : k < L.length) : L.drop k = L.getD k nz :: L.drop (k + 1) := by
  rw [List.drop_eq_getElem_cons h]; simp [List.getD_eq_getElem?_getD, List.getElem?_eq_getElem h]
theorem nd_mem {L : List Nd} {k : Nat} (h : k < L.length) : L.getD k nz ∈ L := by
  rw [List.getD_eq_getElem?_getD, List.getElem?_eq_getElem h]; exact List.getElem_mem h
theorem tot_stop {L : List Nd} {k : Nat} (h : k < L.length) (hc : (L.getD k nz).2 < 0 ∨ 72057594037927935 < sumC (L.take k) + (L.getD k nz).2) : ¬ TotC L := by
  rintro ⟨h1, h2⟩
  have e := List.take_append_drop (k + 1) L
  have hm := h1 _ (nd_mem h)
  rw [← e, sumC_app, nd_take h, sumC_app] at h2
  have := sumC_nonneg (L := L.drop (k + 1)) fun n hn => h1 n (List.mem_of_mem_drop hn)
  simp only [sumC] at h2
  omega
theorem tot_step {L : List Nd} {k : Nat} (h : k < L.length) (hN : TotC (L.take k)) (h0 : 0 ≤ (L.getD k nz).2) (h1 : sumC (L.take k) + (L.getD k nz).2 ≤ 72057594037927935) : TotC (L.take (k + 1)) ∧ sumC (L.take (k + 1)) = sumC (L.take k) + (L.getD k nz).2 := by
  have es : sumC (L.take (k + 1)) = sumC (L.take k) + (L.getD k nz).2 := by rw [nd_take h, sumC_app]; simp [sumC]
  refine ⟨⟨?_, by omega⟩, es⟩
  intro n hn
  rw [nd_take h] at hn
  rcases List.mem_append.1 hn with hn | hn
  · exact hN.1 n hn
  · simp at hn; subst hn; exact h0
def findN : List Nd → Int → Int
  | [], _ => 0
  | n :: L, id => if n.1 = id then n.2 else findN L id
theorem find_end {L : List Nd} {id : Int} (h : ∀ n ∈ L, n.1 ≠ id) : findN L id = 0 := by
  induction L with
  | nil => rfl
  | cons n L ih => rw [findN, if_neg (h n (by simp))]; exact ih fun m hm => h m (by simp [hm])
def addN (F : List Nd) (x : Nd) : List Nd :=
  if x.2 = 0 then F else match F.getLast? with
    | none => F ++ [x]
    | some y => if y.1 = x.1 then F.dropLast ++ [(y.1, y.2 + x.2)] else F ++ [x]
def foldN (S : List Nd) : List Nd := S.foldl addN []
theorem add_zero {F : List Nd} {x : Nd} (h : x.2 = 0) : addN F x = F := if_pos h
def sumAt (id : Int) : List Nd → Int
  | [] => 0
  | n :: L => (if n.1 = id then n.2 else 0) + sumAt id L
theorem sumAt_app (id : Int) (L M : List Nd) : sumAt id (L ++ M) = sumAt id L + sumAt id M := by
  induction L with
  | nil => simp [sumAt]
  | cons n L ih => simp [sumAt, ih]; omega
theorem sumAt_perm {L M : List Nd} (id : Int) (h : L.Perm M) : sumAt id L = sumAt id M := by
  induction h with
  | nil => rfl
  | cons x _ ih => simp [sumAt, ih]
  | swap x y l => simp [sumAt]; omega
  | trans _ _ a b => exact a.trans b
theorem sumAt_none {id : Int} {L : List Nd} (h : ∀ n ∈ L, n.1 ≠ id) : sumAt id L = 0 := by
  induction L with
  | nil => rfl
  | cons n L ih => rw [sumAt, if_neg (h n (by simp)), ih fun m hm => h m (by simp [hm])]; rfl
structure Good (F : List Nd) : Prop where
  ids : F.Pairwise (fun a b => a.1 < b.1)
  pos : ∀ n ∈ F, 1 ≤ n.2
theorem good_nil : Good [] := ⟨List.Pairwise.nil, fun n h => by simp at h⟩
theorem good_sum {n : Nd} {F : List Nd} (h : Good (n :: F)) : sumAt n.1 (n :: F) = n.2 := by
  rw [sumAt, if_pos rfl, sumAt_none fun m hm => by have := (List.pairwise_cons.1 h.ids).1 m hm; omega]; omega
theorem good_sum_pos {F : List Nd} (h : Good F) {id : Int} : 0 ≤ sumAt id F := by
  induction F with
  | nil => simp [sumAt]
  | cons n F ih =>
    have := ih ⟨(List.pairwise_cons.1 h.ids).2, fun m hm => h.pos m (by simp [hm])⟩
    have := h.pos n (by simp)
    rw [sumAt]; split <;> omega
theorem good_uniq : ∀ (F G : List Nd), Good F → Good G → (∀ id, sumAt id F = sumAt id G) → F = G := by
  intro F
  induction F with
  | nil =>
    intro G _ hG h
    cases G with
    | nil => rfl
    | cons n G => have := h n.1; rw [good_sum hG] at this; have := hG.pos n (by simp); simp [sumAt] at *; omega
  | cons n F ih =>
    intro G hF hG h
    cases G with
    | nil => have := h n.1; rw [good_sum hF] at this; have := hF.pos n (by simp); simp [sumAt] at *; omega
    | cons m G =>
      have h1 := h n.1
      have h2 := h m.1
      rw [good_sum hF] at h1
      rw [good_sum hG] at h2
      have p1 := hF.pos n (by simp)
      have p2 := hG.pos m (by simp)
      have e : n.1 = m.1 := by
        rcases (show n.1 = m.1 ∨ n.1 < m.1 ∨ m.1 < n.1 by omega) with q | q | q
        · exact q
        · exfalso
          rw [sumAt_none (L := m :: G) fun x hx => by
            rcases List.mem_cons.1 hx with rfl | hx
            · omega
            · have := (List.pairwise_cons.1 hG.ids).1 x hx; omega] at h1
          omega
        · exfalso
          rw [sumAt_none (L := n :: F) fun x hx => by
            rcases List.mem_cons.1 hx with rfl | hx
            · omega
            · have := (List.pairwise_cons.1 hF.ids).1 x hx; omega] at h2
          omega
      have gF : Good F := ⟨(List.pairwise_cons.1 hF.ids).2, fun x hx => hF.pos x (by simp [hx])⟩
      have gG : Good G := ⟨(List.pairwise_cons.1 hG.ids).2, fun x hx => hG.pos x (by simp [hx])⟩
      have e2 : n.2 = m.2 := by rw [e, good_sum hG] at h1; omega
      have en : n = m := by rw [Prod.ext_iff]; exact ⟨e, e2⟩
      subst en
      rw [ih G gF gG fun id => by have := h id; simp [sumAt] at this; omega]
/-- F is L folded -/
def FoldOf (L F : List Nd) : Prop := ∃ S, Srt idA L S ∧ F = foldN S
theorem FoldOf.uniq {L F G : List Nd} (a : FoldOf L F) (b : FoldOf L G) : F = G := by
  obtain ⟨S, h, rfl⟩ := a
  obtain ⟨T, g, rfl⟩ := b
  rw [Srt.uniq idA_ahd h g]
def FoldC (L : List Nd) : Prop := TotC L ∧ ∀ n ∈ L, 1 ≤ n.1
instance (L : List Nd) : Decidable (FoldC L) := inferInstanceAs (Decidable (_ ∧ _))
def foldB (L : List Nd) : Bool := decide (FoldC L)
theorem foldC_iff {L : List Nd} : foldB L = true ↔ FoldC L := by simp [foldB]
theorem foldC_perm {L M : List Nd} (h : L.Perm M) : FoldC L ↔ FoldC M := by
  unfold FoldC
  rw [totC_perm h]
  constructor
  · rintro ⟨a, b⟩; exact ⟨a, fun n hn => b n (h.mem_iff.2 hn)⟩
  · rintro ⟨a, b⟩; exact ⟨a, fun n hn => b n (h.mem_iff.1 hn)⟩
end Go.Proofs.YtelekchdbiimiaaGreat
namespace Go.Proofs.YtelekchdbiimiaaGreat
set_option linter.unusedVariables false
theorem right_one (l : Int) : rightB l 1 = uniB l := by
  have h : logN 1 = 0 := (dep_is (id := 1) (k := 0) ⟨by decide, by decide⟩ (by omega)).1
  unfold rightB uniB RightC
  exact decide_eq_decide.2 (by rw [h]; omega)
/-- the Id that stands ahead of place k; 0 at the first -/
def lastN (L : List Nd) : Nat → Int
  | 0 => 0
  | k + 1 => (L.getD k nz).1
def RollC (l : Int) (L : List Nd) : Prop := uniB l = true ∧ L.Pairwise (fun a b => a.1 < b.1) ∧ (∀ n ∈ L, rightB l n.1 = true ∧ 1 ≤ n.2) ∧ TotC L
instance (l : Int) (L : List Nd) : Decidable (RollC l L) := inferInstanceAs (Decidable (_ ∧ _ ∧ _ ∧ _))
def rollB (l : Int) (L : List Nd) : Bool := decide (RollC l L)
theorem roll_yes {l : Int} {L : List Nd} (h : RollC l L) : rollB l L = true := decide_eq_true h
theorem roll_no {l : Int} {L : List Nd} (h : ¬ RollC l L) : rollB l L = false := decide_eq_false h
theorem roll_iff {l : Int} {L : List Nd} : rollB l L = true ↔ RollC l L := by simp [rollB]
/-- so far it is one -/
structure RInv (l : Int) (L : List Nd) (k : Nat) : Prop where
  ids : (L.take k).Pairwise (fun a b => a.1 < b.1)
  each : ∀ n ∈ L.take k, rightB l n.1 = true ∧ 1 ≤ n.2
  last : ∀ n ∈ L.take k, n.1 ≤ lastN L k
theorem rinv_zero (l : Int) (L : List Nd) : RInv l L 0 := ⟨List.Pairwise.nil, fun n h => by simp at h, fun n h => by simp at h⟩
theorem right_pos {l id : Int} (h : rightB l id = true) : 1 ≤ id := by
  have := of_decide_eq_true h
  exact this.2.2.1
theorem rinv_step {l : Int} {L : List Nd} {k : Nat} (hk : k < L.length) (h : RInv l L k) (h0 : lastN L k < (L.getD k nz).1) (h1 : 1 ≤ (L.getD k nz).2) (h2 : rightB l (L.getD k nz).1 = true) : RInv l L (k + 1) := by
  refine ⟨?_, fun n hn => ?_, fun n hn => ?_⟩
  · rw [nd_take hk]
    refine List.pairwise_append.2 ⟨h.ids, List.pairwise_singleton _ _, fun p hp q hq => ?_⟩
    have := h.last p hp
    simp only [List.mem_singleton] at hq
    subst hq
    omega
  · rw [nd_take hk] at hn
    rcases List.mem_append.1 hn with hn | hn
    · exact h.each n hn
    · simp only [List.mem_singleton] at hn; subst hn; exact ⟨h2, h1⟩
  · rw [nd_take hk] at hn
    show n.1 ≤ (L.getD k nz).1
    rcases List.mem_append.1 hn with hn | hn
    · have := h.last n hn; omega
    · simp only [List.mem_singleton] at hn; subst hn; omega
theorem rinv_stop {l : Int} {L : List Nd} {k : Nat} (hk : k < L.length) (h : (L.getD k nz).1 ≤ lastN L k ∨ (L.getD k nz).2 < 1 ∨ rightB l (L.getD k nz).1 = false) : ¬ RollC l L := by
  rintro ⟨_, h1, h2, _⟩
  have hm := h2 _ (nd_mem hk)
  rcases h with h | h | h
  · cases k with
    | zero => have := right_pos hm.1; simp only [lastN] at h; omega
    | succ j =>
      have e := List.take_append_drop (j + 1) L
      rw [← e] at h1
      have := (List.pairwise_append.1 h1).2.2 (L.getD j nz) (by rw [nd_take (by omega)]; simp) (L.getD (j + 1) nz) (by rw [nd_drop hk]; simp)
      simp only [lastN] at h; omega
  · omega
  · rw [hm.1] at h; simp at h
theorem rinv_end {l : Int} {L : List Nd} (h : RInv l L L.length) (hu : uniB l = true) (ht : totB L = true) : RollC l L := by
  obtain ⟨a, b, _⟩ := h
  rw [List.take_of_length_le (Nat.le_refl _)] at a b
  exact ⟨hu, a, b, totC_iff.1 ht⟩
theorem roll_ends {l : Int} {L : List Nd} (h : RInv l L L.length) (a b : Bool) (ha : a = totB L) (hb : b = uniB l) : rollB l L = (a && b) := by
  subst ha hb
  cases ht : totB L
  · exact roll_no fun q => by have := totC_iff.2 q.2.2.2; rw [ht] at this; simp at this
  · cases hu : uniB l
    · exact roll_no fun q => by have := q.1; rw [hu] at this; simp at this
    · exact roll_yes (rinv_end h hu ht)
end Go.Proofs.YtelekchdbiimiaaGreat
namespace Go.Proofs.YtelekchdbiimiaaGreat
set_option linter.unusedVariables false
def insW : List Nd → Int → Int → List Nd
  | [], id, c => [(id, c)]
  | n :: L, id, c => if id < n.1 then (id, c) :: n :: L else if n.1 = id then (n.1, n.2 + c) :: L else n :: insW L id c
theorem insW_mem {L : List Nd} {id c : Int} {m : Nd} (h : m ∈ insW L id c) : m.1 = id ∨ ∃ n ∈ L, n.1 = m.1 := by
  induction L with
  | nil => simp [insW] at h; subst h; exact .inl rfl
  | cons n L ih =>
    unfold insW at h
    split at h
    · rcases List.mem_cons.1 h with rfl | h
      · exact .inl rfl
      · exact .inr ⟨m, h, rfl⟩
    · split at h
      · rcases List.mem_cons.1 h with rfl | h
        · exact .inr ⟨n, by simp, rfl⟩
        · exact .inr ⟨m, by simp [h], rfl⟩
      · rcases List.mem_cons.1 h with rfl | h
        · exact .inr ⟨m, by simp, rfl⟩
        · rcases ih h with e | ⟨q, hq, e⟩
          · exact .inl e
          · exact .inr ⟨q, by simp [hq], e⟩
theorem insW_good {L : List Nd} {id c : Int} (h : Good L) (hc : 1 ≤ c) : Good (insW L id c) := by
  induction L with
  | nil => exact ⟨List.pairwise_singleton _ _, fun n hn => by simp [insW] at hn; subst hn; exact hc⟩
  | cons n L ih =>
    obtain ⟨h1, h2⟩ := List.pairwise_cons.1 h.ids
    have g : Good L := ⟨h2, fun m hm => h.pos m (by simp [hm])⟩
    have hn := h.pos n (by simp)
    unfold insW
    split
    · rename_i q
      refine ⟨List.pairwise_cons.2 ⟨fun m hm => ?_, h.ids⟩, fun m hm => ?_⟩
      · rcases List.mem_cons.1 hm with rfl | hm
        · exact q
        · have := h1 m hm; show id < m.1; omega
      · rcases List.mem_cons.1 hm with rfl | hm
        · exact hc
        · exact h.pos m hm
    · split
      · refine ⟨List.pairwise_cons.2 ⟨h1, h2⟩, fun m hm => ?_⟩
        rcases List.mem_cons.1 hm with rfl | hm
        · show 1 ≤ n.2 + c; omega
        · exact g.pos m hm
      · refine ⟨List.pairwise_cons.2 ⟨fun m hm => ?_, (ih g).ids⟩, fun m hm => ?_⟩
        · rcases insW_mem hm with e | ⟨q, hq, e⟩
          · omega
          · have := h1 q hq; omega
        · rcases List.mem_cons.1 hm with rfl | hm
          · exact hn
          · exact (ih g).pos m hm
theorem insW_sum (i : Int) (L : List Nd) (id c : Int) : sumAt i (insW L id c) = sumAt i L + (if id = i then c else 0) := by
  induction L with
  | nil => simp [insW, sumAt]
  | cons n L ih =>
    unfold insW
    split
    · simp only [sumAt]; omega
    · split
      · rename_i q
        simp only [sumAt, q]
        split <;> omega
      · simp only [sumAt, ih]; omega
theorem insW_tot (L : List Nd) (id c : Int) : sumC (insW L id c) = sumC L + c := by
  induction L with
  | nil => simp [insW, sumC]
  | cons n L ih =>
    unfold insW
    split
    · simp only [sumC]; omega
    · split
      · simp only [sumC]; omega
      · simp only [sumC, ih]; omega
theorem nd_tail {n : Nd} {L : List Nd} (h : Good (n :: L)) : Good L := ⟨(List.pairwise_cons.1 h.ids).2, fun m hm => h.pos m (by simp [hm])⟩
theorem good_none {L : List Nd} {id : Int} (h : ∀ n ∈ L, id < n.1) : sumAt id L = 0 := sumAt_none fun n hn => by have := h n hn; omega
theorem insW_len {L : List Nd} {id c : Int} (h : Good L) : (insW L id c).length = if sumAt id L = 0 then L.length + 1 else L.length := by
  induction L with
  | nil => simp [insW, sumAt]
  | cons n L ih =>
    have g := nd_tail h
    have p := h.pos n (by simp)
    have q0 := (List.pairwise_cons.1 h.ids).1
    unfold insW
    split
    · rename_i q
      rw [if_pos (by rw [sumAt, if_neg (by omega), good_none fun m hm => by have := q0 m hm; omega]; rfl)]; rfl
    · split
      · rename_i q
        have := good_sum_pos g (id := id)
        rw [if_neg (by rw [sumAt, if_pos q]; omega)]; rfl
      · rename_i q
        rw [sumAt, if_neg q, List.length_cons, ih g, List.length_cons]
        have e : (0 : Int) + sumAt id L = sumAt id L := by omega
        rw [e]; split <;> rfl
def addW (L : List Nd) (id c : Int) : List Nd := if c = 0 then L else insW L id c
theorem addW_sum (i : Int) (L : List Nd) (id c : Int) : sumAt i (addW L id c) = sumAt i L + (if id = i then c else 0) := by
  unfold addW
  split
  · rename_i h; subst h; simp
  · exact insW_sum i L id c
theorem addW_good {L : List Nd} {id c : Int} (h : Good L) (hc : 0 ≤ c) : Good (addW L id c) := by
  unfold addW
  split
  · exact h
  · exact insW_good h (by omega)
theorem addW_tot (L : List Nd) (id c : Int) : sumC (addW L id c) = sumC L + c := by
  unfold addW
  split
  · omega
  · exact insW_tot L id c
theorem addW_mem {L : List Nd} {id c : Int} {m : Nd} (h : m ∈ addW L id c) : m.1 = id ∨ ∃ n ∈ L, n.1 = m.1 := by
  unfold addW at h
  split at h
  · exact .inr ⟨m, h, rfl⟩
  · exact insW_mem h
theorem addW_len {L : List Nd} {id c : Int} (h : Good L) (hc : 0 ≤ c) : ((addW L id c).length : Int) = (L.length : Int) + (if sumAt id L = 0 ∧ 0 < c then 1 else 0) := by
  unfold addW
  split
  · rename_i e; subst e; simp
  · rw [insW_len h]
    by_cases q : sumAt id L = 0
    · rw [if_pos q, if_pos ⟨q, by omega⟩]; simp
    · rw [if_neg q, if_neg (fun g => q g.1)]; simp
theorem good_nonneg {L : List Nd} (h : Good L) : NonNeg L := fun n hn => by have := h.pos n hn; omega
def remW (L : List Nd) (id : Int) : List Nd := L.filter fun n => !(n.1 == id)
theorem rem_mem {L : List Nd} {id : Int} {m : Nd} (h : m ∈ remW L id) : m ∈ L := (List.mem_filter.1 h).1
theorem rem_good {L : List Nd} {id : Int} (h : Good L) : Good (remW L id) := ⟨h.ids.sublist List.filter_sublist, fun n hn => h.pos n (rem_mem hn)⟩
theorem rem_cons (n : Nd) (L : List Nd) (id : Int) : remW (n :: L) id = if n.1 = id then remW L id else n :: remW L id := by
  unfold remW
  by_cases q : n.1 = id
  · rw [if_pos q, List.filter_cons_of_neg (by simp [q])]
  · rw [if_neg q, List.filter_cons_of_pos (by simp [q])]
theorem rem_sum (i : Int) (L : List Nd) (id : Int) : sumAt i (remW L id) = if id = i then 0 else sumAt i L := by
  induction L with
  | nil => simp [remW, sumAt]
  | cons n L ih =>
    rw [rem_cons]
    by_cases q : n.1 = id
    · rw [if_pos q, ih, sumAt, q]
      by_cases e : id = i
      · simp [e]
      · simp [e]
    · rw [if_neg q, sumAt, ih, sumAt]
      by_cases e : id = i
      · rw [if_pos e, if_pos e, if_neg (by omega)]; rfl
      · simp [e]
theorem rem_tot (L : List Nd) (id : Int) : sumC (remW L id) = sumC L - sumAt id L := by
  induction L with
  | nil => simp [remW, sumC, sumAt]
  | cons n L ih =>
    rw [rem_cons]
    by_cases q : n.1 = id
    · rw [if_pos q, ih, sumC, sumAt, if_pos q]; omega
    · rw [if_neg q, sumC, ih, sumC, sumAt, if_neg q]; omega
theorem rem_none {L : List Nd} {id : Int} (h : ∀ n ∈ L, n.1 ≠ id) : remW L id = L := by
  unfold remW
  rw [List.filter_eq_self]
  intro n hn
  simp [h n hn]
theorem rem_len {L : List Nd} {id : Int} (h : Good L) : ((remW L id).length : Int) = (L.length : Int) - (if sumAt id L = 0 then 0 else 1) := by
  induction L with
  | nil => simp [remW, sumAt]
  | cons n L ih =>
    have g := nd_tail h
    have p := h.pos n (by simp)
    have q0 := (List.pairwise_cons.1 h.ids).1
    rw [rem_cons]
    by_cases q : n.1 = id
    · have := good_sum_pos g (id := id)
      rw [if_pos q, rem_none fun m hm => by have := q0 m hm; omega, sumAt, if_pos q, if_neg (by omega), List.length_cons]; omega
    · rw [if_neg q, List.length_cons, sumAt, if_neg q, List.length_cons]
      have := ih g
      have e : (0 : Int) + sumAt id L = sumAt id L := by omega
      rw [e]; omega
theorem rem_zero {L : List Nd} {id : Int} (h : Good L) (h0 : sumAt id L = 0) : remW L id = L := by
  refine good_uniq _ _ (rem_good h) h fun i => ?_
  rw [rem_sum]
  split
  · rename_i e; subst e; exact h0.symm
  · rfl
theorem rem_le (L : List Nd) (id : Int) : (remW L id).length ≤ L.length := List.length_filter_le _ _
theorem sum_le {L : List Nd} (h : NonNeg L) (id : Int) : 0 ≤ sumAt id L ∧ sumAt id L ≤ sumC L := by
  induction L with
  | nil => simp [sumAt, sumC]
  | cons n L ih =>
    have := ih fun m hm => h m (by simp [hm])
    have := h n (by simp)
    simp only [sumAt, sumC]
    split <;> omega
theorem len_aux : ∀ (f k x : Nat), k < f → 2 ^ k ≤ x → k + 1 ≤ Lib.bitLenAux f x := by
  intro f
  induction f with
  | zero => intro k x h; omega
  | succ f ih =>
    intro k x h hx
    have h0 : 0 < 2 ^ k := Nat.two_pow_pos k
    unfold Lib.bitLenAux
    rw [if_neg (by omega)]
    cases k with
    | zero => omega
    | succ k =>
      have := ih k (x / 2) (by omega) (by rw [Nat.le_div_iff_mul_le (by omega)]; rw [Nat.pow_succ] at hx; exact hx)
      omega
theorem right_max {l id : Int} (h : rightB l id = true) : id ≤ 9223372036854775807 := by
  have hc : RightC l id := of_decide_eq_true h
  obtain ⟨a, b, c, d⟩ := hc
  rcases Int.lt_or_le 9223372036854775807 id with q | q
  · exfalso
    have e := (log_yes c).1
    have := len_aux 64 63 id.toNat (by omega) (by omega)
    have e2 : Lib.bitLen id.toNat = Lib.bitLenAux 64 id.toNat := rfl
    omega
  · exact q
theorem roll_good {l : Int} {L : List Nd} (h : RollC l L) : Good L := ⟨h.2.1, fun n hn => (h.2.2.1 n hn).2⟩
theorem roll_nil {l : Int} (h : uniB l = true) : RollC l [] := ⟨h, List.Pairwise.nil, fun n h => by simp at h, fun n h => by simp at h, by simp [sumC]⟩
theorem roll_add {l : Int} {L : List Nd} {id c : Int} (h : RollC l L) (hid : rightB l id = true) (hc : 0 ≤ c) (ht : sumC L + c ≤ 72057594037927935) : RollC l (addW L id c) := by
  have g := addW_good (id := id) (roll_good h) hc
  refine ⟨h.1, g.ids, fun n hn => ⟨?_, g.pos n hn⟩, good_nonneg g, by rw [addW_tot]; exact ht⟩
  rcases addW_mem hn with e | ⟨m, hm, e⟩
  · rw [e]; exact hid
  · rw [← e]; exact (h.2.2.1 m hm).1
theorem roll_rem {l : Int} {L : List Nd} {id : Int} (h : RollC l L) : RollC l (remW L id) := by
  have g := rem_good (id := id) (roll_good h)
  have := (sum_le h.2.2.2.1 id).1
  have := h.2.2.2.2
  exact ⟨h.1, g.ids, fun n hn => h.2.2.1 n (rem_mem hn), good_nonneg g, by rw [rem_tot]; omega⟩
theorem sumC_mem {L : List Nd} (h : NonNeg L) {n : Nd} (hn : n ∈ L) : n.2 ≤ sumC L := by
  induction L with
  | nil => simp at hn
  | cons m L ih =>
    have h0 := sumC_nonneg (L := L) fun x hx => h x (by simp [hx])
    have h1 := h m (by simp)
    rcases List.mem_cons.1 hn with rfl | hn
    · simp only [sumC]; omega
    · have := ih (fun x hx => h x (by simp [hx])) hn
      simp only [sumC]; omega
/-- what Add tells -/
def AddC (l : Int) (L : List Nd) (id c : Int) : Prop := rightB l id = true ∧ 0 ≤ c ∧ sumC L + c ≤ 72057594037927935
instance (l : Int) (L : List Nd) (id c : Int) : Decidable (AddC l L id c) := inferInstanceAs (Decidable (_ ∧ _))
def addE (l : Int) (L : List Nd) (id c : Int) : Int := if rightB l id = false ∨ c < 0 then 2 else if 72057594037927935 < sumC L + c then 5 else 0
def addS (l : Int) (L : List Nd) (id c : Int) : List Nd := if rightB l id = false ∨ c < 0 then L else if 72057594037927935 < sumC L + c then L else addW L id c
theorem add_arg {l : Int} {L : List Nd} {id c : Int} (h : rightB l id = false ∨ c < 0) : addE l L id c = 2 ∧ addS l L id c = L := ⟨if_pos h, if_pos h⟩
theorem add_full {l : Int} {L : List Nd} {id c : Int} (h1 : rightB l id = true) (h2 : ¬ c < 0) (h : 72057594037927935 < sumC L + c) : addE l L id c = 5 ∧ addS l L id c = L := by
  have q : ¬ (rightB l id = false ∨ c < 0) := by rintro (g | g); rw [h1] at g; simp at g; exact h2 g
  exact ⟨by rw [addE, if_neg q, if_pos h], by rw [addS, if_neg q, if_pos h]⟩
theorem add_ok {l : Int} {L : List Nd} {id c : Int} (h1 : rightB l id = true) (h2 : ¬ c < 0) (h : ¬ 72057594037927935 < sumC L + c) : addE l L id c = 0 ∧ addS l L id c = addW L id c := by
  have q : ¬ (rightB l id = false ∨ c < 0) := by rintro (g | g); rw [h1] at g; simp at g; exact h2 g
  exact ⟨by rw [addE, if_neg q, if_neg h], by rw [addS, if_neg q, if_neg h]⟩
theorem roll_addS {l : Int} {L : List Nd} {id c : Int} (h : RollC l L) : RollC l (addS l L id c) := by
  by_cases h1 : rightB l id = false ∨ c < 0
  · rw [(add_arg h1).2]; exact h
  · have a : rightB l id = true := by cases q : rightB l id <;> simp [q] at h1 ⊢
    have b : ¬ c < 0 := fun g => h1 (.inr g)
    by_cases h2 : 72057594037927935 < sumC L + c
    · rw [(add_full a b h2).2]; exact h
    · rw [(add_ok a b h2).2]; exact roll_add h a (by omega) (by omega)
theorem addS_len {l : Int} {L : List Nd} {id c : Int} (h : RollC l L) : (addS l L id c).length ≤ L.length + 1 := by
  by_cases h1 : rightB l id = false ∨ c < 0
  · rw [(add_arg h1).2]; omega
  · have a : rightB l id = true := by cases q : rightB l id <;> simp [q] at h1 ⊢
    have b : ¬ c < 0 := fun g => h1 (.inr g)
    by_cases h2 : 72057594037927935 < sumC L + c
    · rw [(add_full a b h2).2]; omega
    · rw [(add_ok a b h2).2]
      have := addW_len (id := id) (roll_good h) (show 0 ≤ c by omega)
      split at this <;> omega
def plcN (l : Int) : Nat := 2 * 2 ^ l.toNat
theorem plc_bd {l : Int} (h : l ≤ 16) : 2 ≤ plcN l ∧ plcN l ≤ 131072 := by
  unfold plcN
  have h1 : 2 ^ l.toNat ≤ 2 ^ 16 := Nat.pow_le_pow_right (by omega) (by omega)
  have h2 : 0 < 2 ^ l.toNat := Nat.two_pow_pos _
  have e : 2 ^ 16 = 65536 := by decide
  omega
theorem right_plc {l id : Int} (h : rightB l id = true) : 1 ≤ id ∧ id < (plcN l : Int) := by
  have hc : RightC l id := of_decide_eq_true h
  obtain ⟨k, j, e, e2, hkj, h0, hd, _⟩ := right_dep hc (right_max h)
  refine ⟨hc.2.2.1, ?_⟩
  have h2 := hd.2
  have h3 : (2 : Int) ^ k ≤ 2 ^ l.toNat := two_le _ _ (by omega)
  have e3 : ((plcN l : Nat) : Int) = 2 * 2 ^ l.toNat := by unfold plcN; push_cast; rfl
  rw [e3]; omega
def tabW (L : List Nd) (N : Nat) : List Int := (List.range N).map fun k : Nat => sumAt (k : Int) L
theorem tab_len (L : List Nd) (N : Nat) : (tabW L N).length = N := by simp [tabW]
theorem tab_get (L : List Nd) {N k : Nat} (h : k < N) : (tabW L N)[k]? = some (sumAt (k : Int) L) := by simp [tabW, h]
theorem tab_nil (N : Nat) : tabW [] N = List.replicate N 0 := by
  refine List.ext_getElem (by simp [tabW]) fun i h1 h2 => ?_
  simp [tabW, sumAt]
theorem tab_set {L M : List Nd} {N k : Nat} (h : ∀ i : Int, i ≠ (k : Int) → sumAt i M = sumAt i L) : (tabW L N).set k (sumAt (k : Int) M) = tabW M N := by
  refine List.ext_getElem (by simp [tabW]) fun i h1 h2 => ?_
  rw [List.getElem_set]
  simp only [tabW, List.getElem_map, List.getElem_range]
  split
  · rename_i e; subst e; rfl
  · rename_i e; exact (h i (by omega)).symm
/-- what is found at the first k places -/
def snapN (L : List Nd) : Nat → List Nd
  | 0 => []
  | k + 1 => if 0 < sumAt (k : Int) L then snapN L k ++ [((k : Int), sumAt (k : Int) L)] else snapN L k
theorem snap_yes {L : List Nd} {k : Nat} (h : 0 < sumAt (k : Int) L) : snapN L (k + 1) = snapN L k ++ [((k : Int), sumAt (k : Int) L)] := if_pos h
theorem snap_no {L : List Nd} {k : Nat} (h : ¬ 0 < sumAt (k : Int) L) : snapN L (k + 1) = snapN L k := if_neg h
theorem snap_ids (L : List Nd) (k : Nat) : ∀ n ∈ snapN L k, 0 ≤ n.1 ∧ n.1 < (k : Int) := by
  induction k with
  | zero => intro n h; simp [snapN] at h
  | succ k ih =>
    intro n h
    unfold snapN at h
    split at h
    · rcases List.mem_append.1 h with h | h
      · have := ih n h; omega
      · simp at h; subst h; show 0 ≤ (k : Int) ∧ (k : Int) < _; omega
    · have := ih n h; omega
theorem snap_good (L : List Nd) (k : Nat) : Good (snapN L k) := by
  induction k with
  | zero => exact good_nil
  | succ k ih =>
    unfold snapN
    split
    · rename_i q
      refine ⟨List.pairwise_append.2 ⟨ih.ids, List.pairwise_singleton _ _, fun a ha b hb => ?_⟩, fun n hn => ?_⟩
      · simp at hb; subst hb; exact (snap_ids L k a ha).2
      · rcases List.mem_append.1 hn with hn | hn
        · exact ih.pos n hn
        · simp at hn; subst hn; exact q
    · exact ih
theorem snap_len (L : List Nd) (k : Nat) : (snapN L k).length ≤ k := by
  induction k with
  | zero => simp [snapN]
  | succ k ih =>
    unfold snapN
    split
    · rw [List.length_append]; simp; omega
    · omega
theorem snap_sum {L : List Nd} (hL : NonNeg L) (k : Nat) (i : Int) : sumAt i (snapN L k) = if 0 ≤ i ∧ i < (k : Int) then sumAt i L else 0 := by
  induction k with
  | zero => rw [if_neg (by omega)]; rfl
  | succ k ih =>
    unfold snapN
    have := (sum_le hL (k : Int)).1
    split
    · rw [sumAt_app, ih]
      simp only [sumAt]
      by_cases e : (k : Int) = i
      · subst e; rw [if_neg (by omega), if_pos rfl, if_pos (by omega)]; omega
      · rw [if_neg e]
        by_cases q : 0 ≤ i ∧ i < (k : Int)
        · rw [if_pos q, if_pos (by omega)]; omega
        · rw [if_neg q, if_neg (by omega)]; rfl
    · rw [ih]
      by_cases e : (k : Int) = i
      · subst e; rw [if_neg (by omega), if_pos (by omega)]; omega
      · by_cases q : 0 ≤ i ∧ i < (k : Int)
        · rw [if_pos q, if_pos (by omega)]
        · rw [if_neg q, if_neg (by omega)]
theorem snap_all {L : List Nd} {N : Nat} (h : Good L) (hid : ∀ n ∈ L, 0 ≤ n.1 ∧ n.1 < (N : Int)) : snapN L N = L := by
  refine good_uniq _ _ (snap_good L N) h fun i => ?_
  rw [snap_sum (good_nonneg h)]
  split
  · rfl
  · rename_i q
    symm
    refine sumAt_none fun n hn e => ?_
    have := hid n hn
    omega
theorem nbds_roll {l : Int} {L : List Nd} (h : RollC l L) : ∀ n ∈ L, (-9223372036854775808 ≤ n.1 ∧ n.1 ≤ 9223372036854775807) ∧ (-9223372036854775808 ≤ n.2 ∧ n.2 ≤ 9223372036854775807) := by
  intro n hn
  have h1 := h.2.2.1 n hn
  have h2 := right_pos h1.1
  have h3 := right_max h1.1
  have h4 := sumC_mem h.2.2.2.1 hn
  have h5 := h.2.2.2.2
  omega
end Go.Proofs.YtelekchdbiimiaaGreat
namespace Go.Proofs.YtelekchdbiimiaaGreat
set_option linter.unusedVariables false
def tNx (N i : Nat) : Nat := if i + 1 = N then 0 else i + 1
def tAv (N h j : Nat) : Nat := if h + j < N then h + j else h + j - N
def tDs (N a b : Nat) : Nat := if a ≤ b then b - a else b + N - a
theorem nx_is {N i : Nat} (h : i < N) : tNx N i < N ∧ (tNx N i = i + 1 ∨ (tNx N i = 0 ∧ i + 1 = N)) := by
  unfold tNx; split <;> omega
theorem av_is {N h j : Nat} (h0 : h < N) (hj : j < N) : tAv N h j < N ∧ (tAv N h j = h + j ∨ tAv N h j + N = h + j) := by
  unfold tAv; split <;> omega
theorem ds_is {N a b : Nat} (ha : a < N) (hb : b < N) : tDs N a b < N ∧ (a + tDs N a b = b ∨ a + tDs N a b = b + N) := by
  unfold tDs; split <;> omega
theorem av_zero {N h : Nat} (h0 : h < N) : tAv N h 0 = h := by
  have := av_is h0 (show 0 < N by omega); omega
theorem av_next {N h j : Nat} (h0 : h < N) (hj : j + 1 < N) : tNx N (tAv N h j) = tAv N h (j + 1) := by
  have a := av_is h0 (show j < N by omega)
  have b := nx_is a.1
  have c := av_is h0 hj
  omega
theorem av_from {N h j : Nat} (h0 : h < N) (hj : j + 1 < N) : tAv N (tNx N h) j = tAv N h (j + 1) := by
  have a := nx_is h0
  have b := av_is a.1 (show j < N by omega)
  have c := av_is h0 hj
  omega
theorem ds_av {N h j : Nat} (h0 : h < N) (hj : j < N) : tDs N h (tAv N h j) = j := by
  have a := av_is h0 hj
  have b := ds_is h0 a.1
  omega
theorem av_ds {N h m : Nat} (h0 : h < N) (hm : m < N) : tAv N h (tDs N h m) = m := by
  have b := ds_is h0 hm
  have a := av_is h0 b.1
  omega
def homeN (b : Nat) (id : Int) : Nat := id.toNat * 11400714819323198485 % 18446744073709551616 / 2 ^ (64 - b)
theorem home_lt {b : Nat} (h : b ≤ 62) (id : Int) : homeN b id < 2 ^ b := by
  unfold homeN
  rw [Nat.div_lt_iff_lt_mul (Nat.two_pow_pos _), ← Nat.pow_add]
  have e : b + (64 - b) = 64 := by omega
  rw [e]
  exact Nat.mod_lt _ (by decide)
def homeV (bits id : Int) : Int := if bits < 1 ∨ 62 < bits ∨ id < 1 then 0 else (homeN bits.toNat id : Nat)
theorem homeV_no {bits id : Int} (h : bits < 1 ∨ 62 < bits ∨ id < 1) : homeV bits id = 0 := if_pos h
theorem homeV_yes {bits id : Int} (h1 : 1 ≤ bits) (h2 : bits ≤ 62) (h3 : 1 ≤ id) : homeV bits id = (homeN bits.toNat id : Nat) := if_neg (by omega)
def tAt (S : List Nd) (i : Nat) : Nd := S.getD i nz
theorem tAt_set (S : List Nd) (i j : Nat) (x : Nd) : tAt (S.set i x) j = if i = j ∧ i < S.length then x else tAt S j := by
  unfold tAt
  rw [List.getD_eq_getElem?_getD, List.getD_eq_getElem?_getD, List.getElem?_set]
  by_cases h : i = j
  · subst h
    rw [if_pos rfl]
    by_cases h2 : i < S.length
    · rw [if_pos h2, if_pos ⟨rfl, h2⟩]; rfl
    · rw [if_neg h2, if_neg (fun q => h2 q.2)]
      rw [List.getElem?_eq_none (by omega)]
  · rw [if_neg h, if_neg (fun q => h q.1)]
theorem tAt_same {S : List Nd} {i : Nat} (h : i < S.length) (x : Nd) : tAt (S.set i x) i = x := by rw [tAt_set, if_pos ⟨rfl, h⟩]
theorem tAt_else {S : List Nd} {i j : Nat} (h : i ≠ j) (x : Nd) : tAt (S.set i x) j = tAt S j := by rw [tAt_set, if_neg (fun q => h q.1)]
theorem tAt_out {S : List Nd} {i : Nat} (h : S.length ≤ i) : tAt S i = nz := by
  unfold tAt; rw [List.getD_eq_getElem?_getD, List.getElem?_eq_none h]; rfl
theorem tAt_mem {S : List Nd} {i : Nat} (h : i < S.length) : tAt S i ∈ S := nd_mem h
theorem mem_tAt {S : List Nd} {n : Nd} (h : n ∈ S) : ∃ i, i < S.length ∧ tAt S i = n := by
  obtain ⟨i, hi, e⟩ := List.getElem_of_mem h
  exact ⟨i, hi, by unfold tAt; rw [List.getD_eq_getElem?_getD, List.getElem?_eq_getElem hi]; exact e⟩
theorem tAt_rep (N i : Nat) : tAt (List.replicate N nz) i = nz := by
  rcases Nat.lt_or_ge i N with h | h
  · unfold tAt; rw [List.getD_eq_getElem?_getD, List.getElem?_replicate, if_pos h]; rfl
  · exact tAt_out (by simpa using h)
theorem sumAt_set {S : List Nd} {i : Nat} (h : i < S.length) (x : Nd) (id : Int) : sumAt id (S.set i x) + (if (tAt S i).1 = id then (tAt S i).2 else 0) = sumAt id S + (if x.1 = id then x.2 else 0) := by
  induction S generalizing i with
  | nil => simp at h
  | cons n S ih =>
    cases i with
    | zero => simp only [List.set_cons_zero, sumAt, tAt, List.getD_cons_zero]; omega
    | succ i =>
      have := ih (i := i) (by simpa using h)
      simp only [List.set_cons_succ, sumAt, tAt, List.getD_cons_succ] at this ⊢
      omega
/-- the nodes that are there -/
def ndsT (S : List Nd) : List Nd := S.filter fun n => !(n.1 == 0)
theorem nds_cons (n : Nd) (S : List Nd) : ndsT (n :: S) = if n.1 = 0 then ndsT S else n :: ndsT S := by
  unfold ndsT
  by_cases q : n.1 = 0
  · rw [if_pos q, List.filter_cons_of_neg (by simp [q])]
  · rw [if_neg q, List.filter_cons_of_pos (by simp [q])]
theorem nds_app (S T : List Nd) : ndsT (S ++ T) = ndsT S ++ ndsT T := List.filter_append ..
theorem nds_step {S : List Nd} {k : Nat} (h : k < S.length) : ndsT (S.take (k + 1)) = if (tAt S k).1 = 0 then ndsT (S.take k) else ndsT (S.take k) ++ [tAt S k] := by
  rw [nd_take h, nds_app, nds_cons]
  unfold tAt
  split
  · simp [ndsT]
  · rfl
theorem nds_le (S : List Nd) : (ndsT S).length ≤ S.length := List.length_filter_le _ _
theorem nds_mem {S : List Nd} {n : Nd} : n ∈ ndsT S ↔ n ∈ S ∧ n.1 ≠ 0 := by unfold ndsT; rw [List.mem_filter]; simp
theorem nds_set {S : List Nd} {i : Nat} (h : i < S.length) (x : Nd) : (ndsT (S.set i x)).length + (if (tAt S i).1 = 0 then 0 else 1) = (ndsT S).length + (if x.1 = 0 then 0 else 1) := by
  induction S generalizing i with
  | nil => simp at h
  | cons n S ih =>
    cases i with
    | zero =>
      simp only [List.set_cons_zero, nds_cons, tAt, List.getD_cons_zero]
      split <;> split <;> simp
    | succ i =>
      have := ih (i := i) (by simpa using h)
      show (ndsT (n :: S.set i x)).length + (if (tAt S i).1 = 0 then 0 else 1) = (ndsT (n :: S)).length + (if x.1 = 0 then 0 else 1)
      rw [nds_cons, nds_cons]
      by_cases q : n.1 = 0
      · rw [if_pos q, if_pos q]; exact this
      · rw [if_neg q, if_neg q, List.length_cons, List.length_cons]; omega
theorem nds_rep (N : Nat) : ndsT (List.replicate N nz) = [] := by
  unfold ndsT
  rw [List.filter_eq_nil_iff]
  intro n hn
  rw [(List.mem_replicate.1 hn).2]; simp [nz]
/-- a slot is empty if fewer nodes are there than slots -/
theorem empty_is {S : List Nd} (h : (ndsT S).length < S.length) : ∃ m, m < S.length ∧ (tAt S m).1 = 0 := by
  apply Classical.byContradiction
  intro hn
  have e : ndsT S = S := by
    unfold ndsT
    rw [List.filter_eq_self]
    intro n hm
    obtain ⟨i, hi, rfl⟩ := mem_tAt hm
    have : (tAt S i).1 ≠ 0 := fun q => hn ⟨i, hi, q⟩
    simpa using this
  rw [e] at h; omega
theorem sumAt_nds {S : List Nd} {id : Int} (h : id ≠ 0) : sumAt id (ndsT S) = sumAt id S := by
  induction S with
  | nil => rfl
  | cons n S ih =>
    rw [nds_cons]
    split
    · rw [sumAt, if_neg (by omega), ih]; omega
    · rw [sumAt, sumAt, ih]
structure Ends (S : List Nd) (id : Int) (N h k : Nat) : Prop where
  lt : k < N
  stop : (tAt S (tAv N h k)).1 = id ∨ (tAt S (tAv N h k)).1 = 0
  go : ∀ j, j < k → (tAt S (tAv N h j)).1 ≠ id ∧ (tAt S (tAv N h j)).1 ≠ 0
theorem Ends.uniq {S : List Nd} {id : Int} {N h k k' : Nat} (a : Ends S id N h k) (b : Ends S id N h k') : k = k' := by
  rcases (show k = k' ∨ k < k' ∨ k' < k by omega) with q | q | q
  · exact q
  · have x := b.go k q; have y := a.stop; omega
  · have x := a.go k' q; have y := b.stop; omega
def lookK (S : List Nd) (id : Int) (N : Nat) : Nat → Nat → Nat
  | 0, _ => 0
  | f + 1, a => if (tAt S a).1 = id ∨ (tAt S a).1 = 0 then 0 else lookK S id N f (tNx N a) + 1
theorem look_is {S : List Nd} {id : Int} {N : Nat} : ∀ (f a d : Nat), a < N → d < f → d < N → ((tAt S (tAv N a d)).1 = id ∨ (tAt S (tAv N a d)).1 = 0) → Ends S id N a (lookK S id N f a) := by
  intro f
  induction f with
  | zero => intro a d _ h; omega
  | succ f ih =>
    intro a d ha hd hN hs
    unfold lookK
    by_cases q : (tAt S a).1 = id ∨ (tAt S a).1 = 0
    · rw [if_pos q]
      exact ⟨by omega, by rw [av_zero ha]; exact q, fun j hj => by omega⟩
    · rw [if_neg q]
      cases d with
      | zero => rw [av_zero ha] at hs; exact absurd hs q
      | succ d =>
        have hn := nx_is ha
        have e := av_from ha hN
        have i := ih (tNx N a) d hn.1 (by omega) (by omega) (by rw [e]; exact hs)
        have hk : lookK S id N f (tNx N a) ≤ d := by
          rcases Nat.lt_or_ge d (lookK S id N f (tNx N a)) with g | g
          · have := i.go d g; rw [e] at this; omega
          · exact g
        refine ⟨by omega, ?_, fun j hj => ?_⟩
        · have := i.stop
          rwa [av_from ha (by omega)] at this
        · cases j with
          | zero => rw [av_zero ha]; omega
          | succ j =>
            have := i.go j (by omega)
            rwa [av_from ha (by omega)] at this
def kOf (b : Nat) (S : List Nd) (id : Int) : Nat := lookK S id (2 ^ b) (2 ^ b) (homeN b id)
def posOf (b : Nat) (S : List Nd) (id : Int) : Nat := tAv (2 ^ b) (homeN b id) (kOf b S id)
/-- a table as it stands between two calls -/
structure Tab (b : Nat) (S : List Nd) : Prop where
  len : S.length = 2 ^ b
  b3 : 3 ≤ b
  b62 : b ≤ 62
  slot : ∀ i, tAt S i = nz ∨ (1 ≤ (tAt S i).1 ∧ 1 ≤ (tAt S i).2)
  uniq : ∀ i j, i < 2 ^ b → j < 2 ^ b → (tAt S i).1 = (tAt S j).1 → (tAt S i).1 ≠ 0 → i = j
  reach : ∀ i m, i < 2 ^ b → m < 2 ^ b → (tAt S i).1 ≠ 0 → (tAt S m).1 = 0 → tDs (2 ^ b) (homeN b (tAt S i).1) i < tDs (2 ^ b) (homeN b (tAt S i).1) m
theorem pow_3 {b : Nat} (h : 3 ≤ b) : 8 ≤ 2 ^ b := by
  have := Nat.pow_le_pow_right (show 0 < 2 by omega) h
  have e : 2 ^ 3 = 8 := by decide
  omega
theorem tab_new {b : Nat} (h3 : 3 ≤ b) (h62 : b ≤ 62) : Tab b (List.replicate (2 ^ b) nz) :=
  ⟨by simp, h3, h62, fun i => .inl (tAt_rep _ _), fun i j _ _ _ h => by rw [tAt_rep] at h; simp [nz] at h, fun i m _ _ h => by rw [tAt_rep] at h; simp [nz] at h⟩
section
variable {b : Nat} {S : List Nd}
theorem pbEnds_any (h62 : b ≤ 62) (hl : S.length = 2 ^ b) (he : ∃ m, m < 2 ^ b ∧ (tAt S m).1 = 0) (id : Int) : Ends S id (2 ^ b) (homeN b id) (kOf b S id) := by
  obtain ⟨m, hm, e⟩ := he
  have h := home_lt h62 id
  have d := ds_is h hm
  exact look_is _ _ (tDs (2 ^ b) (homeN b id) m) h d.1 d.1 (.inr (by rw [av_ds h hm]; exact e))
theorem pos_lt (h62 : b ≤ 62) {id : Int} (e : Ends S id (2 ^ b) (homeN b id) (kOf b S id)) : posOf b S id < 2 ^ b := (av_is (home_lt h62 id) e.lt).1
theorem zero_slot (t : Tab b S) {i : Nat} : (tAt S i).1 = 0 ↔ (tAt S i).2 = 0 := by
  rcases t.slot i with q | q
  · rw [q]; simp [nz]
  · omega
theorem zero_nz (t : Tab b S) {i : Nat} (h : (tAt S i).1 = 0) : tAt S i = nz := by
  rcases t.slot i with q | q
  · exact q
  · omega
/-- where looking ends at an empty slot, the node is nowhere -/
theorem not_there (t : Tab b S) {id : Int} (h0 : id ≠ 0) (e : Ends S id (2 ^ b) (homeN b id) (kOf b S id)) (h : (tAt S (posOf b S id)).1 = 0) : ∀ i, (tAt S i).1 ≠ id := by
  intro i q
  have hh := home_lt t.b62 id
  rcases Nat.lt_or_ge i (2 ^ b) with hi | hi
  · have r := t.reach i _ hi (pos_lt t.b62 e) (by rw [q]; exact h0) h
    rw [q] at r
    unfold posOf at r
    rw [ds_av hh e.lt] at r
    have := (e.go _ r).1
    rw [av_ds hh hi] at this
    exact this q
  · rw [tAt_out (by rw [t.len]; exact hi)] at q; exact h0 (by rw [← q]; rfl)
theorem sum_one {i : Nat} (hi : i < S.length) {id : Int} (h0 : id ≠ 0) (h1 : (tAt S i).1 = id) (hu : ∀ j, j < S.length → (tAt S j).1 = id → j = i) : sumAt id S = (tAt S i).2 := by
  have a := sumAt_set hi nz id
  have z : sumAt id (S.set i nz) = 0 := sumAt_none fun n hn e => by
    obtain ⟨j, hj, rfl⟩ := mem_tAt hn
    rw [List.length_set] at hj
    by_cases q : i = j
    · subst q; rw [tAt_same hi] at e; exact h0 e.symm
    · rw [tAt_else q] at e; exact q (hu j hj e).symm
  rw [z, if_pos h1, if_neg (fun e => h0 e.symm)] at a
  omega
theorem sum_none {id : Int} (h0 : id ≠ 0) (h : ∀ i, (tAt S i).1 ≠ id) : sumAt id S = 0 := sumAt_none fun n hn e => by
  obtain ⟨j, hj, rfl⟩ := mem_tAt hn
  exact h j e
theorem get_tab (t : Tab b S) {id : Int} (h0 : id ≠ 0) (e : Ends S id (2 ^ b) (homeN b id) (kOf b S id)) : (tAt S (posOf b S id)).2 = sumAt id S := by
  have hp := pos_lt t.b62 e
  rcases e.stop with q | q
  · exact (sum_one (by rw [t.len]; exact hp) h0 q fun j hj g => t.uniq j _ (by rw [t.len] at hj; exact hj) hp (by rw [g]; exact q.symm) (by rw [g]; exact h0)).symm
  · have q : (tAt S (posOf b S id)).1 = 0 := q
    rw [(zero_slot t).1 q, sum_none h0 (not_there t h0 e q)]
/-- a node that is nowhere is put where looking for it ends -/
theorem put_new (t : Tab b S) {id c : Int} (h1 : 1 ≤ id) (hc : 1 ≤ c) (e : Ends S id (2 ^ b) (homeN b id) (kOf b S id)) (hn : ∀ i, (tAt S i).1 ≠ id) :
    Tab b (S.set (posOf b S id) (id, c)) ∧ (∀ j, sumAt j (S.set (posOf b S id) (id, c)) = sumAt j S + (if id = j then c else 0)) ∧ (ndsT (S.set (posOf b S id) (id, c))).length = (ndsT S).length + 1 := by
  have hp := pos_lt t.b62 e
  have hl : posOf b S id < S.length := by rw [t.len]; exact hp
  have hz : (tAt S (posOf b S id)).1 = 0 := by
    rcases e.stop with q | q
    · exact absurd q (hn _)
    · exact q
  have hnz := zero_nz t hz
  have hh := home_lt t.b62 id
  have hd : tDs (2 ^ b) (homeN b id) (posOf b S id) = kOf b S id := ds_av hh e.lt
  refine ⟨⟨by rw [List.length_set, t.len], t.b3, t.b62, fun i => ?_, fun i j hi hj => ?_, fun i m hi hm => ?_⟩, fun j => ?_, ?_⟩
  · rw [tAt_set]; split
    · exact .inr ⟨h1, hc⟩
    · exact t.slot i
  · rw [tAt_set, tAt_set]
    by_cases a : posOf b S id = i
    · by_cases a2 : posOf b S id = j
      · intro _ _; omega
      · rw [if_pos ⟨a, hl⟩, if_neg (fun q => a2 q.1)]; intro g; exact absurd g.symm (hn j)
    · by_cases a2 : posOf b S id = j
      · rw [if_neg (fun q => a q.1), if_pos ⟨a2, hl⟩]; intro g; exact absurd g (hn i)
      · rw [if_neg (fun q => a q.1), if_neg (fun q => a2 q.1)]; exact t.uniq i j hi hj
  · rw [tAt_set, tAt_set]
    by_cases a2 : posOf b S id = m
    · rw [if_pos (show posOf b S id = m ∧ _ from ⟨a2, hl⟩)]; intro _ g; simp only at g; omega
    · rw [if_neg (show ¬ (posOf b S id = m ∧ posOf b S id < S.length) from fun q => a2 q.1)]
      by_cases a : posOf b S id = i
      · rw [if_pos ⟨a, hl⟩]
        intro _ g
        subst a
        show tDs (2 ^ b) (homeN b id) (posOf b S id) < tDs (2 ^ b) (homeN b id) m
        rw [hd]
        have x := ds_is hh hm
        rcases (show kOf b S id < tDs (2 ^ b) (homeN b id) m ∨ kOf b S id = tDs (2 ^ b) (homeN b id) m ∨ tDs (2 ^ b) (homeN b id) m < kOf b S id by omega) with q | q | q
        · exact q
        · exact absurd (show posOf b S id = m by unfold posOf; rw [q, av_ds hh hm]) a2
        · have := (e.go _ q).2; rw [av_ds hh hm] at this; exact absurd g this
      · rw [if_neg (fun q => a q.1)]; exact t.reach i m hi hm
  · have a := sumAt_set hl (id, c) j
    have z2 : (if (tAt S (posOf b S id)).1 = j then (tAt S (posOf b S id)).2 else 0) = 0 := by
      split
      · rw [hnz]; rfl
      · rfl
    rw [z2] at a
    show _ = sumAt j S + (if (id, c).1 = j then (id, c).2 else 0)
    omega
  · have a := nds_set hl (id, c)
    rw [if_pos hz, if_neg (by simp only; omega)] at a
    omega
/-- a node that is there gets so much more -/
theorem put_more (t : Tab b S) {id c : Int} (h1 : 1 ≤ id) (hc : 0 ≤ c) (e : Ends S id (2 ^ b) (homeN b id) (kOf b S id)) (hy : (tAt S (posOf b S id)).1 = id) :
    Tab b (S.set (posOf b S id) (id, (tAt S (posOf b S id)).2 + c)) ∧ (∀ j, sumAt j (S.set (posOf b S id) (id, (tAt S (posOf b S id)).2 + c)) = sumAt j S + (if id = j then c else 0)) ∧ (ndsT (S.set (posOf b S id) (id, (tAt S (posOf b S id)).2 + c))).length = (ndsT S).length := by
  have hp := pos_lt t.b62 e
  have hl : posOf b S id < S.length := by rw [t.len]; exact hp
  have same : ∀ i, (tAt (S.set (posOf b S id) (id, (tAt S (posOf b S id)).2 + c)) i).1 = (tAt S i).1 := by
    intro i
    rw [tAt_set]; split
    · rename_i q; rw [← q.1]; exact hy.symm
    · rfl
  refine ⟨⟨by rw [List.length_set, t.len], t.b3, t.b62, fun i => ?_, fun i j hi hj => ?_, fun i m hi hm => ?_⟩, fun j => ?_, ?_⟩
  · rw [tAt_set]; split
    · refine .inr ⟨h1, ?_⟩
      have := t.slot (posOf b S id)
      rcases this with q | q
      · rw [q] at hy; simp only [nz] at hy; omega
      · show 1 ≤ (tAt S (posOf b S id)).2 + c; omega
    · exact t.slot i
  · rw [same, same]; exact t.uniq i j hi hj
  · rw [same, same]; exact t.reach i m hi hm
  · have a := sumAt_set hl (id, (tAt S (posOf b S id)).2 + c) j
    rw [hy] at a
    simp only at a
    by_cases q : id = j
    · rw [if_pos q, if_pos q] at a; rw [if_pos q]; omega
    · rw [if_neg q, if_neg q] at a; rw [if_neg q]; omega
  · have a := nds_set hl (id, (tAt S (posOf b S id)).2 + c)
    rw [if_neg (by omega), if_neg (by simp only; omega)] at a
    omega
end
def putT (b : Nat) (T : List Nd) (x : Nd) : List Nd := T.set (posOf b T x.1) x
def putL (b : Nat) (M : List Nd) : List Nd := M.foldl (putT b) (List.replicate (2 ^ b) nz)
theorem putL_snoc (b : Nat) (M : List Nd) (x : Nd) : putL b (M ++ [x]) = putT b (putL b M) x := by simp [putL]
structure Put (b : Nat) (M T : List Nd) : Prop where
  tab : Tab b T
  at_ : ∀ j, sumAt j T = sumAt j M
  len : (ndsT T).length = M.length
theorem put_ends {b : Nat} {M T : List Nd} (p : Put b M T) (h : M.length < 2 ^ b) (id : Int) : Ends T id (2 ^ b) (homeN b id) (kOf b T id) := by
  refine pbEnds_any p.tab.b62 p.tab.len ?_ id
  have := empty_is (S := T) (by rw [p.len, p.tab.len]; exact h)
  rwa [p.tab.len] at this
theorem put_nil {b : Nat} (h3 : 3 ≤ b) (h62 : b ≤ 62) : Put b [] (putL b []) :=
  ⟨tab_new h3 h62, fun j => by show sumAt j (List.replicate (2 ^ b) nz) = 0; exact (by
    have : ∀ n, sumAt j (List.replicate n nz) = 0 := by
      intro n
      induction n with
      | zero => rfl
      | succ n ih => rw [List.replicate_succ, sumAt, ih]; show (if nz.1 = j then nz.2 else 0) + 0 = 0; split <;> rfl
    exact this _), by show (ndsT (List.replicate (2 ^ b) nz)).length = 0; rw [nds_rep]; rfl⟩
theorem put_step {b : Nat} {M T : List Nd} {x : Nd} (p : Put b M T) (h : M.length < 2 ^ b) (h1 : 1 ≤ x.1) (h2 : 1 ≤ x.2) (hx : ∀ n ∈ M, n.1 ≠ x.1) : Put b (M ++ [x]) (putT b T x) ∧ (tAt T (posOf b T x.1)).1 = 0 := by
  have e := put_ends p h x.1
  have z : sumAt x.1 T = 0 := by rw [p.at_]; exact sumAt_none hx
  have g := get_tab p.tab (show x.1 ≠ 0 by omega) e
  have hz : (tAt T (posOf b T x.1)).1 = 0 := (zero_slot p.tab).2 (by rw [g, z])
  have q := put_new p.tab (c := x.2) h1 h2 e (not_there p.tab (by omega) e hz)
  refine ⟨⟨q.1, fun j => ?_, ?_⟩, hz⟩
  · have := q.2.1 j
    rw [sumAt_app, ← p.at_]
    simp only [sumAt]
    rw [show sumAt j (putT b T x) = _ from this]; omega
  · rw [List.length_append, show (ndsT (putT b T x)).length = _ from q.2.2, p.len]; rfl
theorem nds_ids {b : Nat} {S : List Nd} (t : Tab b S) : (ndsT S).Pairwise (fun a c => a.1 ≠ c.1) := by
  have h : S.Pairwise (fun a c => a.1 ≠ 0 → a.1 ≠ c.1) := by
    rw [List.pairwise_iff_getElem]
    intro i j hi hj hij h0 e
    have ei : tAt S i = S[i] := by unfold tAt; rw [List.getD_eq_getElem?_getD, List.getElem?_eq_getElem hi]; rfl
    have ej : tAt S j = S[j] := by unfold tAt; rw [List.getD_eq_getElem?_getD, List.getElem?_eq_getElem hj]; rfl
    have := t.uniq i j (by rw [← t.len]; exact hi) (by rw [← t.len]; exact hj) (by rw [ei, ej]; exact e) (by rw [ei]; exact h0)
    omega
  have h2 := h.filter (fun n => !(n.1 == 0))
  refine h2.imp_of_mem fun {a c} ha hc q => ?_
  exact q (nds_mem.1 (show a ∈ ndsT S from ha)).2
theorem nds_pos {b : Nat} {S : List Nd} (t : Tab b S) {n : Nd} (h : n ∈ ndsT S) : 1 ≤ n.1 ∧ 1 ≤ n.2 := by
  obtain ⟨hm, h0⟩ := nds_mem.1 h
  obtain ⟨i, hi, rfl⟩ := mem_tAt hm
  rcases t.slot i with q | q
  · rw [q] at h0; simp [nz] at h0
  · exact q
theorem put_take {b : Nat} {M : List Nd} (h3 : 3 ≤ b) (h62 : b ≤ 62) (hM : M.Pairwise (fun a c => a.1 ≠ c.1)) (hp : ∀ n ∈ M, 1 ≤ n.1 ∧ 1 ≤ n.2) (hl : M.length ≤ 2 ^ b) : ∀ k, k ≤ M.length → Put b (M.take k) (putL b (M.take k)) := by
  intro k hk
  induction k with
  | zero => exact put_nil h3 h62
  | succ k ih =>
    have hlt : k < M.length := by omega
    rw [nd_take hlt, putL_snoc]
    have hm := hp _ (nd_mem hlt)
    refine (put_step (ih (by omega)) (by rw [List.length_take]; omega) hm.1 hm.2 fun n hn => ?_).1
    have e := List.take_append_drop k M
    rw [← e] at hM
    exact (List.pairwise_append.1 hM).2.2 n hn (M.getD k nz) (by rw [nd_drop hlt]; simp)
theorem put_all {b : Nat} {M : List Nd} (h3 : 3 ≤ b) (h62 : b ≤ 62) (hM : M.Pairwise (fun a c => a.1 ≠ c.1)) (hp : ∀ n ∈ M, 1 ≤ n.1 ∧ 1 ≤ n.2) (hl : M.length ≤ 2 ^ b) : Put b M (putL b M) := by
  have := put_take h3 h62 hM hp hl M.length (Nat.le_refl _)
  rwa [List.take_of_length_le (Nat.le_refl _)] at this
end Go.Proofs.YtelekchdbiimiaaGreat
namespace Go.Proofs.YtelekchdbiimiaaGreat
set_option linter.unusedVariables false
def closeF (b : Nat) : Nat → List Nd → Nat → Nat → List Nd
  | 0, S, _, _ => S
  | f + 1, S, z, a => if (tAt S a).1 = 0 then S
    else if tDs (2 ^ b) (homeN b (tAt S a).1) z ≤ tDs (2 ^ b) (homeN b (tAt S a).1) a then closeF b f ((S.set z (tAt S a)).set a nz) a (tNx (2 ^ b) a)
    else closeF b f S z (tNx (2 ^ b) a)
theorem close_end {b : Nat} {S : List Nd} {z a : Nat} (h : (tAt S a).1 = 0) (f : Nat) : closeF b f S z a = S := by
  cases f with
  | zero => rfl
  | succ f => exact if_pos h
theorem close_move {b f : Nat} {S : List Nd} {z a : Nat} (h : (tAt S a).1 ≠ 0) (g : tDs (2 ^ b) (homeN b (tAt S a).1) z ≤ tDs (2 ^ b) (homeN b (tAt S a).1) a) : closeF b (f + 1) S z a = closeF b f ((S.set z (tAt S a)).set a nz) a (tNx (2 ^ b) a) := by
  rw [closeF, if_neg h, if_pos g]
theorem close_stay {b f : Nat} {S : List Nd} {z a : Nat} (h : (tAt S a).1 ≠ 0) (g : ¬ tDs (2 ^ b) (homeN b (tAt S a).1) z ≤ tDs (2 ^ b) (homeN b (tAt S a).1) a) : closeF b (f + 1) S z a = closeF b f S z (tNx (2 ^ b) a) := by
  rw [closeF, if_neg h, if_neg g]
/-- a table with a hole at z, gone through up to a; q is another slot that is empty -/
structure Hole (b : Nat) (S : List Nd) (z a q : Nat) : Prop where
  len : S.length = 2 ^ b
  b3 : 3 ≤ b
  b62 : b ≤ 62
  slot : ∀ i, tAt S i = nz ∨ (1 ≤ (tAt S i).1 ∧ 1 ≤ (tAt S i).2)
  uniq : ∀ i j, i < 2 ^ b → j < 2 ^ b → (tAt S i).1 = (tAt S j).1 → (tAt S i).1 ≠ 0 → i = j
  zl : z < 2 ^ b
  al : a < 2 ^ b
  ql : q < 2 ^ b
  ez : (tAt S z).1 = 0
  eq : (tAt S q).1 = 0
  zq : z ≠ q
  za : z ≠ a
  aq : tDs (2 ^ b) z a ≤ tDs (2 ^ b) z q
  r1 : ∀ i m, i < 2 ^ b → m < 2 ^ b → (tAt S i).1 ≠ 0 → (tAt S m).1 = 0 → m ≠ z → tDs (2 ^ b) (homeN b (tAt S i).1) i < tDs (2 ^ b) (homeN b (tAt S i).1) m
  r2 : ∀ i, i < 2 ^ b → (tAt S i).1 ≠ 0 → tDs (2 ^ b) z i < tDs (2 ^ b) z a → tDs (2 ^ b) (homeN b (tAt S i).1) i < tDs (2 ^ b) (homeN b (tAt S i).1) z
section
variable {b : Nat} {S : List Nd} {z a q : Nat}
theorem hole_end (h : Hole b S z a q) (e : (tAt S a).1 = 0) : Tab b S := by
  refine ⟨h.len, h.b3, h.b62, h.slot, h.uniq, fun i m hi hm h0 hz => ?_⟩
  by_cases q : m = z
  · subst q
    rcases Nat.lt_or_ge (tDs (2 ^ b) m i) (tDs (2 ^ b) m a) with g | g
    · exact h.r2 i hi h0 g
    · have r := h.r1 i a hi h.al h0 e (fun q => h.za q.symm)
      have hh := home_lt h.b62 (tAt S i).1
      have d1 := ds_is hm hi
      have d2 := ds_is hm h.al
      have d3 := ds_is hh hi
      have d4 := ds_is hh h.al
      have d5 := ds_is hh hm
      have hia : i ≠ a := fun g => by subst g; exact h0 e
      have := h.za
      omega
  · exact h.r1 i m hi hm h0 hz q
theorem hole_move (h : Hole b S z a q) (e : (tAt S a).1 ≠ 0) (g : tDs (2 ^ b) (homeN b (tAt S a).1) z ≤ tDs (2 ^ b) (homeN b (tAt S a).1) a) :
    Hole b ((S.set z (tAt S a)).set a nz) a (tNx (2 ^ b) a) q ∧ tDs (2 ^ b) (tNx (2 ^ b) a) q + 1 = tDs (2 ^ b) a q ∧ (∀ j, sumAt j ((S.set z (tAt S a)).set a nz) = sumAt j S) ∧ (ndsT ((S.set z (tAt S a)).set a nz)).length = (ndsT S).length := by
  have hz : z < S.length := by rw [h.len]; exact h.zl
  have ha : a < (S.set z (tAt S a)).length := by rw [List.length_set, h.len]; exact h.al
  have v : ∀ i, tAt ((S.set z (tAt S a)).set a nz) i = if i = a then nz else if i = z then tAt S a else tAt S i := by
    intro i
    rw [tAt_set]
    by_cases c1 : a = i
    · rw [if_pos ⟨c1, ha⟩, if_pos c1.symm]
    · rw [if_neg (fun q => c1 q.1), if_neg (fun q => c1 q.symm), tAt_set]
      by_cases c2 : z = i
      · rw [if_pos ⟨c2, hz⟩, if_pos c2.symm]
      · rw [if_neg (fun q => c2 q.1), if_neg (fun q => c2 q.symm)]
  have va : tAt ((S.set z (tAt S a)).set a nz) a = nz := by rw [v, if_pos rfl]
  have vz : tAt ((S.set z (tAt S a)).set a nz) z = tAt S a := by rw [v, if_neg h.za, if_pos rfl]
  have vo : ∀ i, i ≠ a → i ≠ z → tAt ((S.set z (tAt S a)).set a nz) i = tAt S i := fun i h1 h2 => by rw [v, if_neg h1, if_neg h2]
  have haq : a ≠ q := fun g => by subst g; exact e h.eq
  have p3 := pow_3 h.b3
  have nx := nx_is h.al
  have d1 := ds_is nx.1 h.ql
  have d2 := ds_is h.al h.ql
  have d3 := ds_is h.al nx.1
  refine ⟨⟨by rw [List.length_set, List.length_set, h.len], h.b3, h.b62, fun i => ?_, fun i j hi hj => ?_, h.al, nx.1, h.ql, by rw [va]; rfl, by rw [vo q (fun g => haq g.symm) (fun g => h.zq g.symm)]; exact h.eq, haq, by omega, by omega, fun i m hi hm => ?_, fun i hi h0 hd => ?_⟩, by omega, fun j => ?_, ?_⟩
  · by_cases c1 : i = a
    · subst c1; rw [va]; exact .inl rfl
    · by_cases c2 : i = z
      · subst c2; rw [vz]; exact h.slot a
      · rw [vo i c1 c2]; exact h.slot i
  · by_cases c1 : i = a
    · subst c1; rw [va]; intro _ g; exact absurd rfl g
    · by_cases c2 : j = a
      · subst c2; rw [va]; intro g1 g2; exact absurd g1 g2
      · by_cases c3 : i = z
        · by_cases c4 : j = z
          · intro _ _; omega
          · subst c3; rw [vz, vo j c2 c4]; intro g1 g2; exact absurd (h.uniq a j h.al hj g1 g2).symm c2
        · by_cases c4 : j = z
          · subst c4; rw [vz, vo i c1 c3]; intro g1 g2; exact absurd (h.uniq i a hi h.al g1 g2) c1
          · rw [vo i c1 c3, vo j c2 c4]; exact h.uniq i j hi hj
  · intro h0 hm0 hma
    have hmz : m ≠ z := fun c => by subst c; rw [vz] at hm0; exact e hm0
    rw [vo m hma hmz] at hm0
    have hia : i ≠ a := fun c => by subst c; rw [va] at h0; exact h0 rfl
    by_cases c : i = z
    · subst c
      rw [vz]
      have := h.r1 a m h.al hm e hm0 hmz
      omega
    · rw [vo i hia c] at h0 ⊢
      exact h.r1 i m hi hm h0 hm0 hmz
  · exfalso
    have d4 := ds_is h.al hi
    have : i = a := by omega
    subst this
    rw [va] at h0; exact h0 rfl
  · have s1 := sumAt_set hz (tAt S a) j
    have s2 := sumAt_set ha nz j
    rw [tAt_else h.za] at s2
    have z1 : (if (tAt S z).1 = j then (tAt S z).2 else 0) = 0 := by
      split
      · rcases h.slot z with q | q
        · rw [q]; rfl
        · have := h.ez; omega
      · rfl
    have z2 : (if nz.1 = j then nz.2 else 0) = 0 := by split <;> rfl
    rw [z1] at s1
    rw [z2] at s2
    omega
  · have s1 := nds_set hz (tAt S a)
    have s2 := nds_set ha nz
    rw [tAt_else h.za, if_neg e, if_pos (show nz.1 = 0 from rfl)] at s2
    rw [if_pos h.ez, if_neg e] at s1
    omega
theorem hole_stay (h : Hole b S z a q) (e : (tAt S a).1 ≠ 0) (g : ¬ tDs (2 ^ b) (homeN b (tAt S a).1) z ≤ tDs (2 ^ b) (homeN b (tAt S a).1) a) :
    Hole b S z (tNx (2 ^ b) a) q ∧ tDs (2 ^ b) (tNx (2 ^ b) a) q + 1 = tDs (2 ^ b) a q := by
  have haq : a ≠ q := fun g => by subst g; exact e h.eq
  have p3 := pow_3 h.b3
  have nx := nx_is h.al
  have d1 := ds_is nx.1 h.ql
  have d2 := ds_is h.al h.ql
  have d3 := ds_is h.zl h.al
  have d4 := ds_is h.zl h.ql
  have d5 := ds_is h.zl nx.1
  have h1 := h.aq
  have h2 := h.za
  have h3 := h.zq
  refine ⟨⟨h.len, h.b3, h.b62, h.slot, h.uniq, h.zl, nx.1, h.ql, h.ez, h.eq, h.zq, by omega, by omega, h.r1, fun i hi h0 hd => ?_⟩, by omega⟩
  by_cases c : i = a
  · subst c; omega
  · have d6 := ds_is h.zl hi
    exact h.r2 i hi h0 (by omega)
theorem hole_close {q : Nat} : ∀ (f : Nat) {S : List Nd} {z a : Nat}, Hole b S z a q → tDs (2 ^ b) a q ≤ f → Tab b (closeF b f S z a) ∧ (∀ j, sumAt j (closeF b f S z a) = sumAt j S) ∧ (ndsT (closeF b f S z a)).length = (ndsT S).length := by
  intro f
  induction f with
  | zero =>
    intro S z a h hf
    have d := ds_is h.al h.ql
    have al := h.al
    have e : a = q := by omega
    have e0 : (tAt S a).1 = 0 := by rw [e]; exact h.eq
    rw [close_end e0]
    exact ⟨hole_end h e0, fun _ => rfl, rfl⟩
  | succ f ih =>
    intro S z a h hf
    by_cases e0 : (tAt S a).1 = 0
    · rw [close_end e0]
      exact ⟨hole_end h e0, fun _ => rfl, rfl⟩
    · by_cases g : tDs (2 ^ b) (homeN b (tAt S a).1) z ≤ tDs (2 ^ b) (homeN b (tAt S a).1) a
      · rw [close_move e0 g]
        obtain ⟨h1, h2, h3, h4⟩ := hole_move h e0 g
        obtain ⟨i1, i2, i3⟩ := ih h1 (by omega)
        exact ⟨i1, fun j => (i2 j).trans (h3 j), i3.trans h4⟩
      · rw [close_stay e0 g]
        obtain ⟨h1, h2⟩ := hole_stay h e0 g
        exact ih h1 (by omega)
/-- a node's slot gets empty: the table with a hole -/
theorem hole_new (t : Tab b S) {p : Nat} (hp : p < 2 ^ b) (h0 : (tAt S p).1 ≠ 0) (hq : q < 2 ^ b) (hq0 : (tAt S q).1 = 0) : Hole b (S.set p nz) p (tNx (2 ^ b) p) q := by
  have hl : p < S.length := by rw [t.len]; exact hp
  have hpq : p ≠ q := fun g => by subst g; exact h0 hq0
  have p3 := pow_3 t.b3
  have nx := nx_is hp
  have d1 := ds_is hp nx.1
  have d2 := ds_is hp hq
  have vo : ∀ i, (tAt (S.set p nz) i).1 ≠ 0 → i ≠ p ∧ tAt (S.set p nz) i = tAt S i := by
    intro i hi
    by_cases c : p = i
    · subst c; rw [tAt_same hl] at hi; exact absurd rfl hi
    · exact ⟨fun g => c g.symm, tAt_else c nz⟩
  refine ⟨by rw [List.length_set, t.len], t.b3, t.b62, fun i => ?_, fun i j hi hj he hi0 => ?_, hp, nx.1, hq, by rw [tAt_same hl]; rfl, by rw [tAt_else hpq]; exact hq0, hpq, by omega, by omega, fun i m hi hm hi0 hm0 hmz => ?_, fun i hi hi0 hd => ?_⟩
  · by_cases c : p = i
    · subst c; rw [tAt_same hl]; exact .inl rfl
    · rw [tAt_else c]; exact t.slot i
  · obtain ⟨a1, a2⟩ := vo i hi0
    obtain ⟨b1, b2⟩ := vo j (by rw [← he]; exact hi0)
    rw [a2, b2] at he
    rw [a2] at hi0
    exact t.uniq i j hi hj he hi0
  · obtain ⟨a1, a2⟩ := vo i hi0
    rw [tAt_else (fun g => hmz g.symm)] at hm0
    rw [a2] at hi0 ⊢
    exact t.reach i m hi hm hi0 hm0
  · exfalso
    have d3 := ds_is hp hi
    have : i = p := by omega
    exact (vo i hi0).1 this
end
def takeT (b : Nat) (S : List Nd) (id : Int) : List Nd :=
  if (tAt S (posOf b S id)).2 = 0 then S else closeF b (2 ^ b) (S.set (posOf b S id) nz) (posOf b S id) (tNx (2 ^ b) (posOf b S id))
theorem take_tab {b : Nat} {S : List Nd} (t : Tab b S) {id : Int} (h0 : id ≠ 0) (e : Ends S id (2 ^ b) (homeN b id) (kOf b S id)) (he : ∃ m, m < 2 ^ b ∧ (tAt S m).1 = 0) :
    Tab b (takeT b S id) ∧ (∀ j, sumAt j (takeT b S id) = if id = j then 0 else sumAt j S) ∧ ((ndsT (takeT b S id)).length : Int) = ((ndsT S).length : Int) - (if sumAt id S = 0 then 0 else 1) := by
  have hg := get_tab t h0 e
  by_cases c : (tAt S (posOf b S id)).2 = 0
  · have ht : takeT b S id = S := if_pos c
    rw [ht]
    rw [c] at hg
    refine ⟨t, fun j => ?_, by rw [if_pos hg.symm]; omega⟩
    split
    · rename_i q; subst q; exact hg.symm
    · rfl
  · have ht : takeT b S id = closeF b (2 ^ b) (S.set (posOf b S id) nz) (posOf b S id) (tNx (2 ^ b) (posOf b S id)) := if_neg c
    rw [ht]
    obtain ⟨q, hq, hq0⟩ := he
    have hp := pos_lt t.b62 e
    have hl : posOf b S id < S.length := by rw [t.len]; exact hp
    have hid : (tAt S (posOf b S id)).1 = id := by
      rcases e.stop with g | g
      · exact g
      · exact absurd ((zero_slot t).1 g) c
    have hne : (tAt S (posOf b S id)).1 ≠ 0 := by rw [hid]; exact h0
    have H := hole_new t hp hne hq hq0
    have d := ds_is H.al H.ql
    obtain ⟨i1, i2, i3⟩ := hole_close (2 ^ b) H (by omega)
    refine ⟨i1, fun j => ?_, ?_⟩
    · rw [i2]
      have s := sumAt_set hl nz j
      have z2 : (if nz.1 = j then nz.2 else 0) = 0 := by split <;> rfl
      rw [z2, hid] at s
      split
      · rename_i g; rw [if_pos g, hg] at s; subst g; omega
      · rename_i g; rw [if_neg g] at s; omega
    · rw [i3]
      have s := nds_set hl nz
      rw [if_neg hne, if_pos (show nz.1 = 0 from rfl)] at s
      rw [if_neg (by rw [← hg]; exact c)]
      omega
structure Tb (l : Int) (b : Nat) (S L : List Nd) : Prop where
  tab : Tab b S
  roll : RollC l L
  at_ : ∀ j, sumAt j S = sumAt j L
  cnt : (ndsT S).length = L.length
  half : 2 * L.length ≤ 2 ^ b
section
variable {l : Int} {b : Nat} {S L : List Nd}
theorem Tb.empty (t : Tb l b S L) : ∃ m, m < 2 ^ b ∧ (tAt S m).1 = 0 := by
  have p := pow_3 t.tab.b3
  have := empty_is (S := S) (by rw [t.cnt, t.tab.len]; have := t.half; omega)
  rwa [t.tab.len] at this
theorem Tb.ends (t : Tb l b S L) (id : Int) : Ends S id (2 ^ b) (homeN b id) (kOf b S id) := pbEnds_any t.tab.b62 t.tab.len t.empty id
theorem Tb.pos (t : Tb l b S L) (id : Int) : posOf b S id < 2 ^ b := pos_lt t.tab.b62 (t.ends id)
theorem Tb.get (t : Tb l b S L) {id : Int} (h : id ≠ 0) : (tAt S (posOf b S id)).2 = sumAt id L := by rw [get_tab t.tab h (t.ends id), t.at_]
theorem tb_new (hu : uniB l = true) : Tb l 3 (List.replicate 8 nz) [] := by
  have p := put_nil (b := 3) (by omega) (by omega)
  exact ⟨p.tab, roll_nil hu, p.at_, p.len, by decide⟩
/-- the nodes that are there, put in order, are the list -/
theorem Tb.srt (t : Tb l b S L) {T : List Nd} (h : Srt idA (ndsT S) T) : T = L := by
  have hi := nds_ids t.tab
  have g : Good T := by
    refine ⟨?_, fun n hn => (nds_pos t.tab (h.mem.1 hn)).2⟩
    have hn : T.Pairwise (fun a c => a.1 ≠ c.1) := (h.perm.pairwise_iff (fun {x y} q => fun e => q e.symm)).2 hi
    refine (hn.and h.ord).imp fun {a c} q => ?_
    have := q.1
    have q2 := q.2
    simp only [idA, decide_eq_false_iff_not] at q2
    omega
  refine good_uniq T L g (roll_good t.roll) fun id => ?_
  rw [sumAt_perm id h.perm]
  by_cases q : id = 0
  · subst q
    rw [sumAt_none fun n hn => (nds_mem.1 hn).2, sumAt_none fun n hn => by have := right_pos (t.roll.2.2.1 n hn).1; omega]
  · rw [sumAt_nds q, t.at_]
theorem srt_ex {α : Type} {ah : α → α → Bool} (R : Ahd ah) (L : List α) : ∃ T, Srt ah L T := by
  induction L with
  | nil => exact ⟨[], Srt.small ah (by simp)⟩
  | cons x L ih =>
    obtain ⟨T, h⟩ := ih
    exact ⟨_, srt_mrg R (Srt.small ah (L := [x]) (by simp)) h⟩
theorem Tb.perm (t : Tb l b S L) : (ndsT S).Perm L := by
  obtain ⟨T, h⟩ := srt_ex idA_ahd (ndsT S)
  have e := t.srt h
  subst e
  exact h.perm.symm
theorem Tb.foldB (t : Tb l b S L) : foldB (ndsT S) = true :=
  foldC_iff.2 ((foldC_perm t.perm).2 ⟨t.roll.2.2.2, fun n hn => right_pos (t.roll.2.2.1 n hn).1⟩)
theorem tAt_bds (t : Tb l b S L) (i : Nat) : (tAt S i = nz ∨ tAt S i ∈ L) ∧ (-9223372036854775808 ≤ (tAt S i).1 ∧ (tAt S i).1 ≤ 9223372036854775807) ∧ (0 ≤ (tAt S i).2 ∧ (tAt S i).2 ≤ 72057594037927935) ∧ 0 ≤ (tAt S i).1 := by
  rcases Nat.lt_or_ge i S.length with hi | hi
  · by_cases h : (tAt S i).1 = 0
    · have := zero_nz t.tab h
      rw [this]; exact ⟨.inl rfl, by decide⟩
    · have hm : tAt S i ∈ L := t.perm.mem_iff.1 (nds_mem.2 ⟨tAt_mem hi, h⟩)
      have b1 := nbds_roll t.roll _ hm
      have b2 := sumC_mem t.roll.2.2.2.1 hm
      have b3 := t.roll.2.2.2.2
      have b4 := t.roll.2.2.1 _ hm
      have b5 := right_pos b4.1
      exact ⟨.inr hm, by omega⟩
  · rw [tAt_out hi]; exact ⟨.inl rfl, by decide⟩
def growC (b : Nat) (S : List Nd) (id : Int) : Prop := (tAt S (posOf b S id)).1 ≠ id ∧ 2 ^ b < 2 * ((ndsT S).length + 1)
instance (b : Nat) (S : List Nd) (id : Int) : Decidable (growC b S id) := inferInstanceAs (Decidable (_ ∧ _))
def addB (b : Nat) (S : List Nd) (id : Int) : Nat := if growC b S id then b + 1 else b
def growT (b : Nat) (S : List Nd) : List Nd := putL (b + 1) (ndsT S)
def addT (b : Nat) (S : List Nd) (id c : Int) : List Nd :=
  if growC b S id then (growT b S).set (posOf (b + 1) (growT b S) id) (id, c)
  else S.set (posOf b S id) (id, (tAt S (posOf b S id)).2 + c)
theorem Tb.grow (t : Tb l b S L) (hb : b ≤ 61) : Tb l (b + 1) (growT b S) L ∧ ∀ id, (∀ i, (tAt S i).1 ≠ id) → ∀ i, (tAt (growT b S) i).1 ≠ id ∨ id = 0 := by
  have hp : 2 ^ (b + 1) = 2 * 2 ^ b := by rw [Nat.pow_succ]; omega
  have h3 := t.tab.b3
  have hlen : (ndsT S).length ≤ 2 ^ (b + 1) := by rw [t.cnt]; have := t.half; omega
  have p : Put (b + 1) (ndsT S) (growT b S) := put_all (b := b + 1) (by omega) (by omega) (nds_ids t.tab) (fun n hn => nds_pos t.tab hn) hlen
  have hat : ∀ j, sumAt j (growT b S) = sumAt j L := fun j => (p.at_ j).trans (sumAt_perm j t.perm)
  refine ⟨⟨p.tab, t.roll, hat, by rw [p.len, t.cnt], by have := t.half; omega⟩, fun id h i => ?_⟩
  by_cases q : id = 0
  · exact .inr q
  · refine .inl fun e => ?_
    have z : sumAt id S = 0 := sum_none q h
    rcases Nat.lt_or_ge i (2 ^ (b + 1)) with hi | hi
    · have s := sum_one (S := growT b S) (by rw [p.tab.len]; exact hi) q e fun j hj g => p.tab.uniq j i (by rw [p.tab.len] at hj; exact hj) hi (by rw [g]; exact e.symm) (by rw [g]; exact q)
      rw [hat, ← t.at_, z] at s
      have := (zero_slot p.tab (i := i)).2 s.symm
      rw [this] at e; exact q e.symm
    · rw [tAt_out (by rw [p.tab.len]; exact hi)] at e; exact q e.symm
theorem Tb.add (t : Tb l b S L) (hb : b ≤ 61) {id c : Int} (hr : rightB l id = true) (hc : 1 ≤ c) (ht : sumC L + c ≤ 72057594037927935) : Tb l (addB b S id) (addT b S id c) (addW L id c) := by
  have h1 := right_pos hr
  have roll := roll_add (id := id) t.roll hr (show 0 ≤ c by omega) ht
  have ln := addW_len (id := id) (c := c) (roll_good t.roll) (by omega)
  have e := t.ends id
  have hg := t.get (show id ≠ 0 by omega)
  have hp : 2 ^ (b + 1) = 2 * 2 ^ b := by rw [Nat.pow_succ]; omega
  have cnt := t.cnt
  have hf := t.half
  have p3 := pow_3 t.tab.b3
  by_cases g : growC b S id
  · rw [show addB b S id = b + 1 from if_pos g, show addT b S id c = _ from if_pos g]
    obtain ⟨g1, g2⟩ := g
    have hz : (tAt S (posOf b S id)).1 = 0 := by
      rcases e.stop with q | q
      · exact absurd q g1
      · exact q
    have z : sumAt id L = 0 := by rw [← hg]; exact (zero_slot t.tab).1 hz
    rw [if_pos ⟨z, by omega⟩] at ln
    obtain ⟨t2, n2⟩ := t.grow hb
    have n3 : ∀ i, (tAt (growT b S) i).1 ≠ id := fun i => by
      rcases n2 id (not_there t.tab (by omega) e hz) i with q | q
      · exact q
      · omega
    obtain ⟨q1, q2, q3⟩ := put_new t2.tab h1 hc (t2.ends id) n3
    refine ⟨q1, roll, fun j => ?_, by rw [q3, t2.cnt]; omega, by omega⟩
    rw [q2, t2.at_, addW_sum]
  · rw [show addB b S id = b from if_neg g, show addT b S id c = _ from if_neg g]
    by_cases hy : (tAt S (posOf b S id)).1 = id
    · have q := t.tab.slot (posOf b S id)
      have hp2 : 1 ≤ (tAt S (posOf b S id)).2 := by
        rcases q with q | q
        · rw [q] at hy; have : (0 : Int) = id := hy; omega
        · exact q.2
      rw [if_neg (by omega)] at ln
      obtain ⟨q1, q2, q3⟩ := put_more t.tab (c := c) h1 (by omega) e hy
      refine ⟨q1, roll, fun j => ?_, by rw [q3, cnt]; omega, by omega⟩
      rw [q2, t.at_, addW_sum]
    · have hz : (tAt S (posOf b S id)).1 = 0 := by
        rcases e.stop with q | q
        · exact absurd q hy
        · exact q
      have z2 := (zero_slot t.tab).1 hz
      have z : sumAt id L = 0 := by rw [← hg]; exact z2
      rw [if_pos ⟨z, by omega⟩] at ln
      have g2 : ¬ 2 ^ b < 2 * ((ndsT S).length + 1) := fun q => g ⟨hy, q⟩
      obtain ⟨q1, q2, q3⟩ := put_new t.tab h1 hc e (not_there t.tab (by omega) e hz)
      have e0 : (tAt S (posOf b S id)).2 + c = c := by omega
      rw [e0]
      refine ⟨q1, roll, fun j => ?_, by rw [q3, cnt]; omega, by omega⟩
      rw [q2, t.at_, addW_sum]
theorem Tb.take (t : Tb l b S L) {id : Int} (h : id ≠ 0) : Tb l b (takeT b S id) (remW L id) := by
  obtain ⟨q1, q2, q3⟩ := take_tab t.tab h (t.ends id) t.empty
  have ln := rem_len (id := id) (roll_good t.roll)
  have le := rem_le L id
  have hf := t.half
  refine ⟨q1, roll_rem t.roll, fun j => by rw [q2, rem_sum, t.at_], ?_, by omega⟩
  rw [t.at_, t.cnt] at q3
  omega
end
def doB (l : Int) (b : Nat) (S L : List Nd) (k id c : Int) : Nat := if k = 0 ∧ addE l L id c = 0 ∧ c ≠ 0 then addB b S id else b
def doS (l : Int) (b : Nat) (S L : List Nd) (k id c : Int) : List Nd :=
  if k = 0 then (if addE l L id c = 0 ∧ c ≠ 0 then addT b S id c else S) else if k = 1 ∧ rightB l id = true then takeT b S id else S
theorem addE_ok {l : Int} {L : List Nd} {id c : Int} : addE l L id c = 0 ↔ (rightB l id = true ∧ 0 ≤ c ∧ sumC L + c ≤ 72057594037927935) := by
  unfold addE
  constructor
  · intro h
    split at h
    · omega
    · rename_i q
      split at h
      · omega
      · refine ⟨by cases g : rightB l id <;> simp [g] at q ⊢, ?_, by omega⟩
        have : ¬ c < 0 := fun g => q (.inr g)
        omega
  · rintro ⟨a, b, c⟩
    rw [if_neg (by rintro (g | g); rw [a] at g; simp at g; omega), if_neg (by omega)]
theorem addS_of {l : Int} {L : List Nd} {id c : Int} : addS l L id c = if addE l L id c = 0 then addW L id c else L := by
  by_cases h : addE l L id c = 0
  · rw [if_pos h]
    obtain ⟨a, b, d⟩ := addE_ok.1 h
    exact (add_ok a (by omega) (by omega)).2
  · rw [if_neg h]
    by_cases h1 : rightB l id = false ∨ c < 0
    · exact (add_arg h1).2
    · have a : rightB l id = true := by cases q : rightB l id <;> simp [q] at h1 ⊢
      have b : ¬ c < 0 := fun g => h1 (.inr g)
      have d : 72057594037927935 < sumC L + c := by
        rcases (show sumC L + c ≤ 72057594037927935 ∨ 72057594037927935 < sumC L + c by omega) with q | q
        · exact absurd (addE_ok.2 ⟨a, by omega, q⟩) h
        · exact q
      exact (add_full a b d).2
theorem rem_wrong {l : Int} {L : List Nd} {id : Int} (h : RollC l L) (hr : rightB l id = false) : remW L id = L ∧ findN L id = 0 ∧ sumAt id L = 0 := by
  have hn : ∀ n ∈ L, n.1 ≠ id := fun n hn e => by have := (h.2.2.1 n hn).1; rw [e, hr] at this; simp at this
  exact ⟨rem_none hn, find_end hn, sumAt_none hn⟩
theorem Tb.addS {l : Int} {b : Nat} {S L : List Nd} (t : Tb l b S L) (hb : b ≤ 61) (id c : Int) : Tb l (if addE l L id c = 0 ∧ c ≠ 0 then addB b S id else b) (if addE l L id c = 0 ∧ c ≠ 0 then addT b S id c else S) (addS l L id c) := by
  by_cases h : addE l L id c = 0 ∧ c ≠ 0
  · obtain ⟨a1, a2, a3⟩ := addE_ok.1 h.1
    have h2 := h.2
    rw [if_pos h, if_pos h, addS_of, if_pos h.1]
    exact t.add hb a1 (by omega) a3
  · rw [if_neg h, if_neg h, addS_of]
    by_cases h1 : addE l L id c = 0
    · have hc : c = 0 := Classical.byContradiction fun q => h ⟨h1, q⟩
      rw [if_pos h1, hc]; exact t
    · rw [if_neg h1]; exact t
theorem doB_bd {l : Int} {b : Nat} {S L : List Nd} (t : Tb l b S L) (k id c : Int) : b ≤ doB l b S L k id c ∧ doB l b S L k id c ≤ b + 1 ∧ (2 ^ doB l b S L k id c = 2 ^ b ∨ 2 ^ doB l b S L k id c ≤ 4 * L.length + 4) := by
  have hp : 2 ^ (b + 1) = 2 * 2 ^ b := by rw [Nat.pow_succ]; omega
  unfold doB addB
  split
  · split
    · rename_i g
      have := g.2
      rw [t.cnt] at this
      exact ⟨by omega, by omega, .inr (by omega)⟩
    · exact ⟨by omega, by omega, .inl rfl⟩
  · exact ⟨by omega, by omega, .inl rfl⟩
end Go.Proofs.YtelekchdbiimiaaGreat
namespace Go.Proofs.YtelekchdbiimiaaGreat
set_option linter.unusedVariables false
/-- so many calls, so many slots at most -/
def SzC (k b : Nat) (L : List Nd) : Prop := L.length ≤ k ∧ 2 ^ b ≤ 8 + 4 * k
theorem szc_new : SzC 0 3 [] := ⟨by simp, by decide⟩
end Go.Proofs.YtelekchdbiimiaaGreat
