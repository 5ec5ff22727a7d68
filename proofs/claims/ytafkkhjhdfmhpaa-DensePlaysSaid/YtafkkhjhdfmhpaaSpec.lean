/- Plain numbers: what the calls of layer reckon answer: sums, differences, products, parts, orders, powers of two. No program is spoken of here. -/
import Derived.Test.YtafkkhjhdfmhpaaNum
namespace Go.Proofs.Ytafkkhjhdfmhpaa
set_option linter.unusedVariables false

/-- a value, if a condition holds; else 0 -/
def onN (c : Prop) [Decidable c] (v : Int) : Int := if c then v else 0
def onB (c : Prop) [Decidable c] : Bool := decide c
theorem on_yes {c : Prop} [Decidable c] (h : c) (v : Int) : onN c v = v ∧ onB c = true := ⟨if_pos h, decide_eq_true h⟩
theorem on_no {c : Prop} [Decidable c] (h : ¬ c) (v : Int) : onN c v = 0 ∧ onB c = false := ⟨if_neg h, decide_eq_false h⟩

def sumN (a b : Int) : Int := onN (0 ≤ a ∧ 0 ≤ b ∧ a + b ≤ 9223372036854775807) (a + b)
def sumB (a b : Int) : Bool := onB (0 ≤ a ∧ 0 ≤ b ∧ a + b ≤ 9223372036854775807)
theorem sum_yes {a b : Int} (h : 0 ≤ a ∧ 0 ≤ b ∧ a + b ≤ 9223372036854775807) : sumN a b = a + b ∧ sumB a b = true := on_yes h _
theorem sum_no {a b : Int} (h : ¬ (0 ≤ a ∧ 0 ≤ b ∧ a + b ≤ 9223372036854775807)) : sumN a b = 0 ∧ sumB a b = false := on_no h _
def subN (a b : Int) : Int := onN (0 ≤ a ∧ 0 ≤ b ∧ b ≤ a) (a - b)
def subB (a b : Int) : Bool := onB (0 ≤ a ∧ 0 ≤ b ∧ b ≤ a)
theorem sub_yes {a b : Int} (h : 0 ≤ a ∧ 0 ≤ b ∧ b ≤ a) : subN a b = a - b ∧ subB a b = true := on_yes h _
theorem sub_no {a b : Int} (h : ¬ (0 ≤ a ∧ 0 ≤ b ∧ b ≤ a)) : subN a b = 0 ∧ subB a b = false := on_no h _
def mulN (a b : Int) : Int := onN (0 ≤ a ∧ 0 ≤ b ∧ a * b ≤ 9223372036854775807) (a * b)
def mulB (a b : Int) : Bool := onB (0 ≤ a ∧ 0 ≤ b ∧ a * b ≤ 9223372036854775807)
theorem mul_yes {a b : Int} (h : 0 ≤ a ∧ 0 ≤ b ∧ a * b ≤ 9223372036854775807) : mulN a b = a * b ∧ mulB a b = true := on_yes h _
theorem mul_no {a b : Int} (h : ¬ (0 ≤ a ∧ 0 ≤ b ∧ a * b ≤ 9223372036854775807)) : mulN a b = 0 ∧ mulB a b = false := on_no h _
def quoN (a b : Int) : Int := onN (0 ≤ a ∧ 1 ≤ b) (a / b)
def quoB (a b : Int) : Bool := onB (0 ≤ a ∧ 1 ≤ b)
theorem quo_yes {a b : Int} (h : 0 ≤ a ∧ 1 ≤ b) : quoN a b = a / b ∧ quoB a b = true := on_yes h _
theorem quo_no {a b : Int} (h : ¬ (0 ≤ a ∧ 1 ≤ b)) : quoN a b = 0 ∧ quoB a b = false := on_no h _
/-- how often, rounded up -/
def upN (a b : Int) : Int := onN (0 ≤ a ∧ 1 ≤ b) (if a % b = 0 then a / b else a / b + 1)
def upB (a b : Int) : Bool := onB (0 ≤ a ∧ 1 ≤ b)
theorem up_yes {a b : Int} (h : 0 ≤ a ∧ 1 ≤ b) : upN a b = (if a % b = 0 then a / b else a / b + 1) ∧ upB a b = true := on_yes h _
theorem up_no {a b : Int} (h : ¬ (0 ≤ a ∧ 1 ≤ b)) : upN a b = 0 ∧ upB a b = false := on_no h _
theorem up_flat {a b : Int} (h : 0 ≤ a ∧ 1 ≤ b) (hr : a % b = 0) : upN a b = a / b ∧ upB a b = true := by rw [(up_yes h).1, if_pos hr]; exact ⟨rfl, (up_yes h).2⟩
theorem up_more {a b : Int} (h : 0 ≤ a ∧ 1 ≤ b) (hr : 0 < a % b) : upN a b = a / b + 1 ∧ upB a b = true := by rw [(up_yes h).1, if_neg (by omega)]; exact ⟨rfl, (up_yes h).2⟩
theorem div_bd {a b : Int} (h0 : 0 ≤ a) (h1 : 1 ≤ b) : 0 ≤ a / b ∧ a / b ≤ a ∧ 0 ≤ a % b ∧ a % b < b ∧ (0 < a % b → a / b < a) := by
  have h2 := Int.ediv_nonneg h0 (show 0 ≤ b by omega)
  have h3 := Int.ediv_le_self b h0
  have h4 := Int.emod_nonneg a (show b ≠ 0 by omega)
  have h5 := Int.emod_lt_of_pos a (show 0 < b by omega)
  refine ⟨h2, h3, h4, h5, fun hr => ?_⟩
  have h6 := Int.mul_ediv_add_emod a b
  have h7 := Int.mul_le_mul_of_nonneg_right h1 h2
  omega

/-- parts: are the three numbers right? -/
def partC (n m d : Int) : Prop := 0 ≤ n ∧ 0 ≤ m ∧ 1 ≤ d
instance (n m d : Int) : Decidable (partC n m d) := by unfold partC; infer_instance
def partN (n m d : Int) : Int := if partC n m d then quotN (n * m) d else 0
def partR (n m d : Int) : Bool := if partC n m d then quotR (n * m) d else false
def partB (n m d : Int) : Bool := if partC n m d then quotB (n * m) d else false
theorem part_yes {n m d : Int} (h : partC n m d) : partN n m d = quotN (n * m) d ∧ partR n m d = quotR (n * m) d ∧ partB n m d = quotB (n * m) d := ⟨if_pos h, if_pos h, if_pos h⟩
theorem part_no {n m d : Int} (h : ¬ partC n m d) : partN n m d = 0 ∧ partR n m d = false ∧ partB n m d = false := ⟨if_neg h, if_neg h, if_neg h⟩
theorem part_bd (n m d : Int) : 0 ≤ partN n m d ∧ partN n m d ≤ 9223372036854775807 := by
  by_cases h : partC n m d
  · rw [(part_yes h).1]; exact quotN_bd (Int.mul_nonneg h.1 h.2.1) h.2.2
  · rw [(part_no h).1]; decide
theorem part_rest {n m d : Int} (h : partR n m d = true) : partB n m d = true := by
  by_cases hc : partC n m d
  · rw [(part_yes hc).2.1] at h
    rw [(part_yes hc).2.2]
    unfold quotR at h
    unfold quotB
    simp only [Bool.and_eq_true] at h
    exact h.1
  · rw [(part_no hc).2.1] at h; cases h
theorem part_bad {n m d : Int} (h : partB n m d = false) : partN n m d = 0 := by
  by_cases hc : partC n m d
  · rw [(part_yes hc).2.2] at h
    rw [(part_yes hc).1]
    unfold quotB at h
    unfold quotN
    rw [if_neg (of_decide_eq_false h)]
  · exact (part_no hc).1
/-- parts, rounded up -/
def partUpN (n m d : Int) : Int := if partR n m d = true then sumN (partN n m d) 1 else partN n m d
def partUpB (n m d : Int) : Bool := if partR n m d = true then sumB (partN n m d) 1 else partB n m d
theorem partUp_rest {n m d : Int} (h : partR n m d = true) : partUpN n m d = sumN (partN n m d) 1 ∧ partUpB n m d = sumB (partN n m d) 1 := ⟨if_pos h, if_pos h⟩
theorem partUp_flat {n m d : Int} (h : partR n m d = false) : partUpN n m d = partN n m d ∧ partUpB n m d = partB n m d := ⟨if_neg (by rw [h]; decide), if_neg (by rw [h]; decide)⟩
theorem partUp_none {n m d : Int} (h : ¬ partC n m d) : partUpN n m d = 0 ∧ partUpB n m d = false := by
  rw [(partUp_flat (part_no h).2.1).1, (partUp_flat (part_no h).2.1).2]; exact ⟨(part_no h).1, (part_no h).2.2⟩
theorem partUp_max {n m d : Int} (h : partR n m d = true) (hm : partN n m d = 9223372036854775807) : partUpN n m d = 0 ∧ partUpB n m d = false := by
  rw [(partUp_rest h).1, (partUp_rest h).2]; exact sum_no (by omega)
theorem partUp_more {n m d : Int} (h : partR n m d = true) (hm : partN n m d < 9223372036854775807) : partUpN n m d = partN n m d + 1 ∧ partUpB n m d = true := by
  have := part_bd n m d
  rw [(partUp_rest h).1, (partUp_rest h).2]; exact sum_yes (by omega)

/-- orders -/
def ordC (a b c d : Int) : Prop := 0 ≤ a ∧ 0 ≤ b ∧ 0 ≤ c ∧ 0 ≤ d
instance (a b c d : Int) : Decidable (ordC a b c d) := by unfold ordC; infer_instance
def ordN (a b c d : Int) : Int := onN (ordC a b c d) (cmp3 (a * b) (c * d))
def ordB (a b c d : Int) : Bool := onB (ordC a b c d)
theorem ord_yes {a b c d : Int} (h : ordC a b c d) : ordN a b c d = cmp3 (a * b) (c * d) ∧ ordB a b c d = true := on_yes h _
theorem ord_no {a b c d : Int} (h : ¬ ordC a b c d) : ordN a b c d = 0 ∧ ordB a b c d = false := on_no h _

theorem quot_one (x : Int) (h : 0 ≤ x) : quotN x 1 = onN (x ≤ 9223372036854775807) x ∧ quotB x 1 = onB (x ≤ 9223372036854775807) := by
  unfold quotN quotB onN onB
  rw [Int.ediv_one]
  constructor
  · by_cases hx : x ≤ 9223372036854775807
    · rw [if_pos hx, if_pos (by omega)]
    · rw [if_neg hx, if_neg (by omega)]
  · apply decide_eq_decide.2; omega
theorem mul_quot {a b : Int} (ha : 0 ≤ a) (hb : 0 ≤ b) : mulN a b = quotN (a * b) 1 ∧ mulB a b = quotB (a * b) 1 := by
  rw [(quot_one _ (Int.mul_nonneg ha hb)).1, (quot_one _ (Int.mul_nonneg ha hb)).2]
  unfold mulN mulB onN onB
  constructor
  · by_cases hx : a * b ≤ 9223372036854775807
    · rw [if_pos hx, if_pos ⟨ha, hb, hx⟩]
    · rw [if_neg hx, if_neg (fun h => hx h.2.2)]
  · apply decide_eq_decide.2; exact ⟨fun h => h.2.2, fun h => ⟨ha, hb, h⟩⟩

end Go.Proofs.Ytafkkhjhdfmhpaa
