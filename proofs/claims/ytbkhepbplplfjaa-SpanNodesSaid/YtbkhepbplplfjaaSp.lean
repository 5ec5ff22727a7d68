/- The project's package span: each call answers what the plain numbers say, of spans whose parts are floats of whole numbers; nothing that was there before is changed. -/
import Derived.Test.YtbkhepbplplfjaaTw
import Derived.Test.YtbkhepbplplfjaaFlt
namespace Go.Proofs.Ytbkhepbplplfjaa
set_option linter.unusedVariables false
open Go.RowKit

/-- is there a span of these ends? -/
def SpC (lo hi : Int) : Prop := 0 ≤ lo ∧ lo ≤ hi ∧ hi ≤ 281474976710655
instance (lo hi : Int) : Decidable (SpC lo hi) := by unfold SpC; infer_instance
def spA (lo hi : Int) : Nat := if SpC lo hi then floatOfInt .f64 lo else 0
def spZ (lo hi : Int) : Nat := if SpC lo hi then floatOfInt .f64 hi else 0
def spB (lo hi : Int) : Bool := decide (SpC lo hi)
theorem sp_yes {lo hi : Int} (h : SpC lo hi) : spA lo hi = floatOfInt .f64 lo ∧ spZ lo hi = floatOfInt .f64 hi ∧ spB lo hi = true := ⟨if_pos h, if_pos h, decide_eq_true h⟩
theorem sp_no {lo hi : Int} (h : ¬ SpC lo hi) : spA lo hi = 0 ∧ spZ lo hi = 0 ∧ spB lo hi = false := ⟨if_neg h, if_neg h, decide_eq_false h⟩

theorem cmp_ge {n : Int} (h : 0 ≤ n) : (some (compare n 0) == some Ordering.gt || some (compare n 0) == some Ordering.eq) = true := by
  rcases Int.lt_trichotomy n 0 with g | g | g
  · omega
  · subst g; rfl
  · rw [Int.compare_eq_gt.2 g]; rfl
theorem cmp_le {m n : Int} (h : m ≤ n) : (some (compare m n) == some Ordering.lt || some (compare m n) == some Ordering.eq) = true := by
  rcases Int.lt_trichotomy m n with g | g | g
  · rw [Int.compare_eq_lt.2 g]; rfl
  · subst g; rw [Int.compare_eq_eq.2 rfl]; rfl
  · omega
/-- what the tests on a part say -/
theorem part_facts {n : Int} (h0 : 0 ≤ n) (h1 : n ≤ 281474976710655) :
    (FloatKind.f64.format.order (floatOfInt .f64 n) 0 == some .gt || FloatKind.f64.format.order (floatOfInt .f64 n) 0 == some .eq) = true ∧
    (FloatKind.f64.format.order (floatOfInt .f64 n) 4823355200913801184 == some .lt || FloatKind.f64.format.order (floatOfInt .f64 n) 4823355200913801184 == some .eq) = true ∧
    (FloatKind.f64.format.order (floatOfInt .f64 n) (floatOfInt .f64 n) == some .eq) = true := by
  refine ⟨?_, ?_, flo_self h0 (by omega)⟩
  · have := flo_order (a := n) (b := 0) h0 (by omega) (by omega) (by omega)
    rw [flo_zero] at this
    show (Ieee.double.order _ _ == _ || Ieee.double.order _ _ == _) = true
    rw [this]; exact cmp_ge h0
  · have := flo_order (a := n) (b := 281474976710655) h0 (by omega) (by omega) (by omega)
    rw [flo_last] at this
    show (Ieee.double.order _ _ == _ || Ieee.double.order _ _ == _) = true
    rw [this]; exact cmp_le h1

set_option maxHeartbeats 400000 in
theorem isValue_yes (n : Int) (w : World) (h0 : 0 ≤ n) (h1 : n ≤ 281474976710655) :
    Calls Try.prog 18 #[.float .f64 (floatOfInt .f64 n)] w fun e w' => e = .returned (.bool true) ∧ w = w' := by
  obtain ⟨f1, f2, f3⟩ := part_facts h0 h1
  have hc := fun (w : World) => run_convert_float_int (P := Try.prog) w 25 3 .f64 .i64 (floatOfInt .f64 n) n (by rw [Try.underlying25]; rfl) Try.underlying3 (flo_cut h0 (by omega))
  go_enter Try.func18, Try.ntmps18
  go_wp2_with fail
  go_ret
  exact ⟨rfl, rfl⟩

theorem le_fact {m n : Int} (h0 : 0 ≤ m) (h : m ≤ n) (h1 : n ≤ 281474976710655) :
    (FloatKind.f64.format.order (floatOfInt .f64 m) (floatOfInt .f64 n) == some .lt || FloatKind.f64.format.order (floatOfInt .f64 m) (floatOfInt .f64 n) == some .eq) = true := by
  show (Ieee.double.order _ _ == _ || Ieee.double.order _ _ == _) = true
  rw [flo_order h0 (by omega) (by omega) (by omega)]; exact cmp_le h
set_option maxHeartbeats 400000 in
theorem sright_yes (lo hi : Int) (w : World) (h0 : 0 ≤ lo) (h1 : lo ≤ hi) (h2 : hi ≤ 281474976710655) :
    Calls Try.prog 13 #[.complex .f64 (floatOfInt .f64 lo) (floatOfInt .f64 hi)] w fun e w' => e = .returned (.bool true) ∧ w = w' := by
  have f1 := le_fact h0 h1 h2
  go_enter Try.func13, Try.ntmps13
  go_wp2_with (go_at_call 18; refine (isValue_yes _ _ (by omega) (by omega)).mono ?_; rintro e w1 ⟨rfl, rfl⟩)
  go_ret
  exact ⟨rfl, rfl⟩
set_option maxHeartbeats 400000 in
theorem sends_yes (lo hi : Int) (w : World) (h0 : 0 ≤ lo) (h1 : lo ≤ hi) (h2 : hi ≤ 281474976710655) :
    Calls Try.prog 8 #[.complex .f64 (floatOfInt .f64 lo) (floatOfInt .f64 hi)] w fun e w' => e = .returned (.tuple #[.int .i64 lo, .int .i64 hi, .bool true]) ∧ w = w' := by
  have hc := fun (w : World) => run_convert_float_int (P := Try.prog) w 25 3 .f64 .i64 (floatOfInt .f64 lo) lo (by rw [Try.underlying25]; rfl) Try.underlying3 (flo_cut (by omega) (by omega))
  have hd := fun (w : World) => run_convert_float_int (P := Try.prog) w 25 3 .f64 .i64 (floatOfInt .f64 hi) hi (by rw [Try.underlying25]; rfl) Try.underlying3 (flo_cut (by omega) (by omega))
  go_enter Try.func8, Try.ntmps8
  go_wp2_with (go_at_call 13; refine (sright_yes _ _ _ h0 h1 h2).mono ?_; rintro e w1 ⟨rfl, rfl⟩)
  go_ret3
  exact ⟨rfl, rfl⟩
set_option maxHeartbeats 400000 in
theorem sholds_yes (lo hi x : Int) (w : World) (h0 : 0 ≤ lo) (h1 : lo ≤ hi) (h2 : hi ≤ 281474976710655) (x0 : -9223372036854775808 ≤ x) (x1 : x ≤ 9223372036854775807) :
    Calls Try.prog 9 #[.complex .f64 (floatOfInt .f64 lo) (floatOfInt .f64 hi), .int .i64 x] w fun e w' => e = .returned (.bool (decide (lo ≤ x ∧ x ≤ hi))) ∧ w = w' := by
  rcases (show x < lo ∨ (lo ≤ x ∧ hi < x) ∨ (lo ≤ x ∧ x ≤ hi) by omega) with h | h | h
  · have hd : decide (lo ≤ x ∧ x ≤ hi) = false := decide_eq_false (by omega)
    rw [hd]
    clear hd
    go_enter Try.func9, Try.ntmps9
    go_wp2_with (go_at_call 8; refine (sends_yes _ _ _ h0 h1 h2).mono ?_; rintro e w1 ⟨rfl, rfl⟩)
    go_ret
    exact ⟨rfl, rfl⟩
  · have hd : decide (lo ≤ x ∧ x ≤ hi) = false := decide_eq_false (by omega)
    rw [hd]
    clear hd
    obtain ⟨g1, g2⟩ := h
    go_enter Try.func9, Try.ntmps9
    go_wp2_with (go_at_call 8; refine (sends_yes _ _ _ h0 h1 h2).mono ?_; rintro e w1 ⟨rfl, rfl⟩)
    go_ret
    exact ⟨ret_b (decide_eq_false (by omega)), rfl⟩
  · have hd : decide (lo ≤ x ∧ x ≤ hi) = true := decide_eq_true h
    rw [hd]
    clear hd
    obtain ⟨g1, g2⟩ := h
    go_enter Try.func9, Try.ntmps9
    go_wp2_with (go_at_call 8; refine (sends_yes _ _ _ h0 h1 h2).mono ?_; rintro e w1 ⟨rfl, rfl⟩)
    go_ret
    exact ⟨rfl, rfl⟩
set_option maxHeartbeats 400000 in
theorem spOf_any (lo hi : Int) (w : World) (l0 : -9223372036854775808 ≤ lo) (l1 : lo ≤ 9223372036854775807) (x0 : -9223372036854775808 ≤ hi) (x1 : hi ≤ 9223372036854775807) :
    Calls Try.prog 5 #[.int .i64 lo, .int .i64 hi] w fun e w' => e = .returned (.tuple #[.complex .f64 (spA lo hi) (spZ lo hi), .bool (spB lo hi)]) ∧ w = w' := by
  rcases (show lo < 0 ∨ (0 ≤ lo ∧ hi < lo) ∨ (0 ≤ lo ∧ lo ≤ hi ∧ 281474976710655 < hi) ∨ (0 ≤ lo ∧ lo ≤ hi ∧ hi ≤ 281474976710655) by omega) with h | h | h | h
  · have H := Lib.hid (sp_no (lo := lo) (hi := hi) (by unfold SpC; omega))
    go_enter Try.func5, Try.ntmps5
    go_wp2_with fail
    go_ret2
    exact ⟨by rw [H.out.1, H.out.2.1, H.out.2.2]; rfl, rfl⟩
  · have H := Lib.hid (sp_no (lo := lo) (hi := hi) (by unfold SpC; omega))
    obtain ⟨g1, g2⟩ := h
    go_enter Try.func5, Try.ntmps5
    go_wp2_with fail
    go_ret2
    exact ⟨by rw [H.out.1, H.out.2.1, H.out.2.2]; rfl, rfl⟩
  · have H := Lib.hid (sp_no (lo := lo) (hi := hi) (by unfold SpC; omega))
    obtain ⟨g1, g2, g3⟩ := h
    go_enter Try.func5, Try.ntmps5
    go_wp2_with fail
    go_ret2
    exact ⟨by rw [H.out.1, H.out.2.1, H.out.2.2]; rfl, rfl⟩
  · have H := Lib.hid (sp_yes (lo := lo) (hi := hi) h)
    obtain ⟨g1, g2, g3⟩ := h
    go_enter Try.func5, Try.ntmps5
    go_wp2_with fail
    go_ret2
    exact ⟨by rw [H.out.1, H.out.2.1, H.out.2.2]; rfl, rfl⟩
/-- the span of a node -/
def ndA (l id : Int) : Nat := if endB l id = true then floatOfInt .f64 (loN l id) else 0
def ndZ (l id : Int) : Nat := if endB l id = true then floatOfInt .f64 (hiN l id) else 0
theorem nd_yes {l id : Int} (h : RightC l id) : ndA l id = floatOfInt .f64 (loN l id) ∧ ndZ l id = floatOfInt .f64 (hiN l id) := ⟨if_pos (end_yes h).2.2, if_pos (end_yes h).2.2⟩
theorem nd_no {l id : Int} (h : ¬ RightC l id) : ndA l id = 0 ∧ ndZ l id = 0 := by
  have := (end_no h).2.2
  exact ⟨if_neg (by rw [this]; decide), if_neg (by rw [this]; decide)⟩
theorem nd_span {l id : Int} (h : RightC l id) (h1 : id ≤ 9223372036854775807) : SpC (loN l id) (hiN l id) := by
  have hb := end_bd l id h1
  have he := end_yes h
  have hw := wid_pos l id
  unfold SpC; omega
theorem nd_sp {l id : Int} (h : RightC l id) (h1 : id ≤ 9223372036854775807) : ndA l id = spA (loN l id) (hiN l id) ∧ ndZ l id = spZ (loN l id) (hiN l id) ∧ endB l id = spB (loN l id) (hiN l id) := by
  obtain ⟨a, b, c⟩ := sp_yes (nd_span h h1)
  rw [a, b, c]
  exact ⟨(nd_yes h).1, (nd_yes h).2, (end_yes h).2.2⟩
set_option maxHeartbeats 400000 in
theorem spNode_any (l id : Int) (w : World) (L0 : -9223372036854775808 ≤ l) (L1 : l ≤ 9223372036854775807) (N0 : -9223372036854775808 ≤ id) (N1 : id ≤ 9223372036854775807) :
    Calls Try.prog 11 #[.int .i64 l, .int .i64 id] w fun e w' => e = .returned (.tuple #[.complex .f64 (ndA l id) (ndZ l id), .bool (endB l id)]) ∧ w = w' := by
  have hb := end_bd l id N1
  by_cases h : RightC l id
  · have H := Lib.hid (nd_sp h N1)
    have he := (end_yes h).2.2
    go_enter Try.func11, Try.ntmps11
    go_wp2_with (first
      | (go_at_call 16; refine (ends_any _ _ _ L0 L1 N0 N1).mono ?_; rintro e w1 ⟨rfl, rfl⟩)
      | (go_at_call 5; refine (spOf_any _ _ _ (by omega) (by omega) (by omega) (by omega)).mono ?_; rintro e w1 ⟨rfl, rfl⟩))
    go_ret2
    exact ⟨by rw [H.out.1, H.out.2.1, H.out.2.2]; rfl, rfl⟩
  · have H := Lib.hid (nd_no h)
    have he := (end_no h).2.2
    go_enter Try.func11, Try.ntmps11
    go_wp2_with (go_at_call 16; refine (ends_any _ _ _ L0 L1 N0 N1).mono ?_; rintro e w1 ⟨rfl, rfl⟩)
    go_ret2
    exact ⟨by rw [H.out.1, H.out.2, he]; rfl, rfl⟩

set_option maxHeartbeats 400000 in
theorem ifRight_yes (lo hi : Int) (w : World) (h0 : 0 ≤ lo) (h1 : lo ≤ hi) (h2 : hi ≤ 281474976710655) :
    Calls Try.prog 19 #[.complex .f64 (floatOfInt .f64 lo) (floatOfInt .f64 hi)] w fun e w' => e = .returned (.tuple #[.complex .f64 (floatOfInt .f64 lo) (floatOfInt .f64 hi), .bool true]) ∧ w = w' := by
  go_enter Try.func19, Try.ntmps19
  go_wp2_with (go_at_call 13; refine (sright_yes _ _ _ h0 h1 h2).mono ?_; rintro e w1 ⟨rfl, rfl⟩)
  go_ret2
  exact ⟨rfl, rfl⟩
theorem grow_facts : cMulBits (floatOfInt .f64 2) (floatOfInt .f64 3) (floatOfInt .f64 2) 0 = some (floatOfInt .f64 4, floatOfInt .f64 6) ∧
    floatBits .sub .f64 (floatOfInt .f64 2) 4607182418800017408 = some (floatOfInt .f64 1) ∧
    cSumBits .add .f64 (floatOfInt .f64 4) (floatOfInt .f64 6) 0 (floatOfInt .f64 1) = some (floatOfInt .f64 4, floatOfInt .f64 7) := by decide +kernel
set_option maxHeartbeats 400000 in
theorem grow_ex (w : World) :
    Calls Try.prog 14 #[.complex .f64 (floatOfInt .f64 2) (floatOfInt .f64 3), .int .i64 1] w fun e w' => e = .returned (.tuple #[.complex .f64 (floatOfInt .f64 4) (floatOfInt .f64 7), .bool true]) ∧ w = w' := by
  have hm := fun t w => run_complex_mul (P := Try.prog) w t _ _ _ _ _ _ grow_facts.1
  have hs := fun t w => run_float_arith (P := Try.prog) w .sub t _ _ _ _ grow_facts.2.1
  have ha := fun t w => run_complex_sum (P := Try.prog) w .add (Or.inl rfl) t .f64 _ _ _ _ _ _ grow_facts.2.2
  go_enter Try.func14, Try.ntmps14
  go_wp2_with (first
    | (go_at_call 13; refine (sright_yes _ _ _ (by omega) (by omega) (by omega)).mono ?_; rintro e w1 ⟨rfl, rfl⟩)
    | (go_at_call 19; refine (ifRight_yes _ _ _ (by omega) (by omega) (by omega)).mono ?_; rintro e w1 ⟨rfl, rfl⟩))
  go_ret2
  exact ⟨rfl, rfl⟩
set_option maxHeartbeats 400000 in
theorem spCut_yes (a b c d : Int) (w : World) (h0 : 0 ≤ a) (h1 : a ≤ b) (h2 : b ≤ 281474976710655) (g0 : 0 ≤ c) (g1 : c ≤ d) (g2 : d ≤ 281474976710655) :
    Calls Try.prog 15 #[.complex .f64 (floatOfInt .f64 a) (floatOfInt .f64 b), .complex .f64 (floatOfInt .f64 c) (floatOfInt .f64 d)] w
      fun e w' => e = .returned (.tuple #[.complex .f64 (spA (max a c) (min b d)) (spZ (max a c) (min b d)), .bool (spB (max a c) (min b d))]) ∧ w = w' := by
  go_enter Try.func15, Try.ntmps15
  go_wp2_with (first
    | (go_at_call 8; refine (sends_yes _ _ _ (by omega) (by omega) (by omega)).mono ?_; rintro e w1 ⟨rfl, rfl⟩)
    | (go_at_call 5; refine (spOf_any (max a c) (min b d) _ (by omega) (by omega) (by omega) (by omega)).mono ?_; rintro e w1 ⟨rfl, rfl⟩))
  go_ret2
  exact ⟨rfl, rfl⟩

end Go.Proofs.Ytbkhepbplplfjaa
