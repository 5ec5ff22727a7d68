/- Texts laid together: Flt, Sp. -/
import Derived.Laws.ComplexArith
import Derived.Test.YtkhacpapkalkiaaGreatTw
/- Plain facts on floats (binary64): the float nearest to a whole number from 0 to below 2^53 stands for just that number; how two such floats stand to each other, and what is cut of one. No program is spoken of here. -/
namespace Go.Proofs.YtkhacpapkalkiaaGreat
set_option linter.unusedVariables false

theorem cut_whole (way : Ieee.Toward) (neg : Bool) (n : Nat) : way.cut neg n 0 = n := by
  unfold Ieee.Toward.cut
  have h0 : min 0 (n.log2 + 2) = 0 := Nat.zero_min _
  rw [h0]
  have h1 : (1 <<< 0 : Nat) = 1 := rfl
  rw [h1]
  dsimp only
  rw [Nat.div_one, Nat.mod_one]
  cases way <;> simp

theorem flo_log {n : Nat} (h0 : 0 < n) (h1 : n < 9007199254740992) : n.log2 ≤ 52 ∧ 4503599627370496 ≤ n * 2 ^ (52 - n.log2) ∧ n * 2 ^ (52 - n.log2) < 9007199254740992 := by
  have hn : n ≠ 0 := by omega
  have a := Nat.log2_self_le hn
  have b := @Nat.lt_log2_self n
  have c : n.log2 < 53 := (Nat.log2_lt hn).2 h1
  refine ⟨by omega, ?_, ?_⟩
  · have d : 2 ^ n.log2 * 2 ^ (52 - n.log2) = 2 ^ 52 := by rw [← Nat.pow_add]; congr 1; omega
    have e := Nat.mul_le_mul_right (2 ^ (52 - n.log2)) a
    rw [d] at e; exact e
  · have d : 2 ^ (n.log2 + 1) * 2 ^ (52 - n.log2) = 2 ^ 53 := by rw [← Nat.pow_add]; congr 1; omega
    have e := Nat.mul_lt_mul_of_pos_right b (Nat.two_pow_pos (52 - n.log2))
    rw [d] at e; exact e

theorem nearest_is {n : Nat} (h0 : 0 < n) (h1 : n < 9007199254740992) : Ieee.double.nearest false n 0 = (n.log2 + 1022) * 4503599627370496 + n * 2 ^ (52 - n.log2) := by
  obtain ⟨hL, k0, k1⟩ := flo_log h0 h1
  unfold Ieee.Format.nearest
  rw [if_neg (by omega)]
  have hl : Ieee.double.leastPlace = -1074 := by decide
  have hf : Ieee.double.fractionBits = 52 := rfl
  have hb : Ieee.double.binade = 4503599627370496 := by decide
  have hi : Ieee.double.infRung = 2047 * 4503599627370496 := by decide
  have hm : max ((0 : Int) + (n.log2 : Int) - (Ieee.double.fractionBits : Int)) Ieee.double.leastPlace = (n.log2 : Int) - 52 := by rw [hl, hf]; omega
  rw [hm, hl, hb, hi]
  have e1 : ((0 : Int) - ((n.log2 : Int) - 52)).toNat = 52 - n.log2 := by omega
  have e2 : (((n.log2 : Int) - 52) - 0).toNat = 0 := by omega
  have e3 : ((n.log2 : Int) - 52 - (-1074)).toNat = n.log2 + 1022 := by omega
  dsimp only
  rw [e1, e2, e3, cut_whole, Nat.shiftLeft_eq]
  have hw : ∀ r, Ieee.double.word false r = r := fun r => if_neg Bool.false_ne_true
  rw [hw]
  generalize n * 2 ^ (52 - n.log2) = K at *
  generalize n.log2 = L at *
  exact Nat.min_eq_left (by omega)

theorem read_nearest {n : Nat} (h0 : 0 < n) (h1 : n < 9007199254740992) : Ieee.double.read (Ieee.double.nearest false n 0) = .number false (n * 2 ^ (52 - n.log2)) ((n.log2 : Int) - 52) := by
  obtain ⟨hL, k0, k1⟩ := flo_log h0 h1
  rw [nearest_is h0 h1]
  have hl : Ieee.double.leastPlace = -1074 := by decide
  have hb : Ieee.double.binade = 4503599627370496 := by decide
  have hi : Ieee.double.infRung = 9218868437227405312 := by decide
  have hs : Ieee.double.signWeight = 9223372036854775808 := by decide
  unfold Ieee.Format.read
  rw [hl, hb, hi, hs]
  generalize n * 2 ^ (52 - n.log2) = K at *
  generalize n.log2 = L at *
  have d : ((L + 1022) * 4503599627370496 + K) / 9223372036854775808 % 2 = 0 := by omega
  have m : ((L + 1022) * 4503599627370496 + K) % 9223372036854775808 = (L + 1022) * 4503599627370496 + K := by omega
  have q : ((L + 1022) * 4503599627370496 + K) % 4503599627370496 = K - 4503599627370496 := by omega
  have p : ((L + 1022) * 4503599627370496 + K) / 4503599627370496 = L + 1023 := by omega
  dsimp only
  rw [d, m, q, p, if_neg (by omega), if_pos (by omega)]
  have g1 : 4503599627370496 + (K - 4503599627370496) = K := by omega
  have g2 : (-1074 : Int) + ((L + 1023 - 1 : Nat) : Int) = (L : Int) - 52 := by omega
  rw [g1, g2]
  rfl

theorem zero_pw (k : Nat) : 0 = ((0 : Nat) : Int).toNat * 2 ^ k := by simp

/-- the float nearest to a whole number -/
theorem flo_read {n : Int} (h0 : 0 ≤ n) (h1 : n < 9007199254740992) : ∃ m k : Nat, ∃ e : Int, Ieee.double.read (floatOfInt .f64 n) = .number false m e ∧ e ≤ 0 ∧ m = n.toNat * 2 ^ k ∧ (-e).toNat = k := by
  obtain ⟨j, rfl⟩ := Int.eq_ofNat_of_zero_le h0
  have hf : floatOfInt .f64 (j : Int) = Ieee.double.nearest false j 0 := by
    have hd : decide ((j : Int) < 0) = false := decide_eq_false (by omega)
    show Ieee.double.write (.number (decide ((j : Int) < 0)) (j : Int).natAbs 0) = _
    rw [hd]; rfl
  rw [hf]
  by_cases hj : j = 0
  · subst hj; exact ⟨0, 1074, -1074, by decide +kernel, by decide, zero_pw 1074, by decide⟩
  · have := (flo_log (n := j) (by omega) (by omega)).1
    exact ⟨_, 52 - j.log2, _, read_nearest (by omega) (by omega), by omega, by simp, by omega⟩

theorem signed_pos (m up : Nat) : Ieee.signed false m up = ((m * 2 ^ up : Nat) : Int) := by
  unfold Ieee.signed
  rw [if_neg (by decide), Nat.shiftLeft_eq]

theorem cmp_scale (a b : Int) (K : Nat) (hK : 0 < K) : compare (a * K) (b * K) = compare a b := by
  have hk : (0 : Int) < (K : Int) := by omega
  rcases Int.lt_trichotomy a b with h | h | h
  · have := Int.mul_lt_mul_of_pos_right h hk
    rw [Int.compare_eq_lt.2 this, Int.compare_eq_lt.2 h]
  · subst h; rw [Int.compare_eq_eq.2 rfl, Int.compare_eq_eq.2 rfl]
  · have := Int.mul_lt_mul_of_pos_right h hk
    rw [Int.compare_eq_gt.2 this, Int.compare_eq_gt.2 h]

theorem flo_order {a b : Int} (a0 : 0 ≤ a) (a1 : a < 9007199254740992) (b0 : 0 ≤ b) (b1 : b < 9007199254740992) : Ieee.double.order (floatOfInt .f64 a) (floatOfInt .f64 b) = some (compare a b) := by
  obtain ⟨m, k, e, hr, he, hm, hk⟩ := flo_read a0 a1
  obtain ⟨n, j, f, hs, hf, hn, hj⟩ := flo_read b0 b1
  unfold Ieee.Format.order
  rw [hr, hs]
  unfold Ieee.Datum.order
  simp only [signed_pos]
  subst hm hn hk hj
  obtain ⟨x, rfl⟩ := Int.eq_ofNat_of_zero_le a0
  obtain ⟨y, rfl⟩ := Int.eq_ofNat_of_zero_le b0
  congr 1
  refine Eq.trans ?_ (cmp_scale (x : Int) (y : Int) (2 ^ (-(min e f)).toNat) (Nat.two_pow_pos _))
  have p1 : (-e).toNat + (e - min e f).toNat = (-(min e f)).toNat := by omega
  have p2 : (-f).toNat + (f - min e f).toNat = (-(min e f)).toNat := by omega
  rw [Nat.mul_assoc, ← Nat.pow_add, p1, Nat.mul_assoc, ← Nat.pow_add, p2]
  simp

theorem flo_cut {n : Int} (h0 : 0 ≤ n) (h1 : n < 9007199254740992) : floatToIntVal .f64 (floatOfInt .f64 n) .i64 = some n := by
  obtain ⟨m, k, e, hr, he, hm, hk⟩ := flo_read h0 h1
  obtain ⟨x, rfl⟩ := Int.eq_ofNat_of_zero_le h0
  have ht : (FloatKind.decode .f64 (floatOfInt .f64 (x : Int))).toInt .zero = some (x : Int) := by
    show (Ieee.double.read (floatOfInt .f64 (x : Int))).toInt .zero = _
    rw [hr]
    unfold Ieee.Datum.toInt Ieee.Datum.integral
    have e0 : e.toNat = 0 := by omega
    simp only [e0, signed_pos]
    subst hm hk
    have hc : Ieee.Toward.zero.cut false (((x : Int).toNat * 2 ^ (-e).toNat) <<< 0) (-e).toNat = x := by
      rw [Nat.shiftLeft_zero]
      simp only [Int.toNat_natCast]
      unfold Ieee.Toward.cut
      simp only [Bool.toNat_false, Nat.add_zero, Nat.shiftLeft_eq, Nat.one_mul]
      by_cases hx : x = 0
      · subst hx; simp
      · have hp : 0 < 2 ^ (-e).toNat := Nat.two_pow_pos _
        have hle : (-e).toNat ≤ (x * 2 ^ (-e).toNat).log2 := by
          refine (Nat.le_log2 (by exact Nat.mul_ne_zero hx (by omega))).2 ?_
          exact Nat.le_mul_of_pos_left _ (by omega)
        have hmin : min (-e).toNat ((x * 2 ^ (-e).toNat).log2 + 2) = (-e).toNat := by omega
        rw [hmin, Nat.mul_div_cancel _ hp]
    rw [hc]; simp
  unfold floatToIntVal
  rw [ht]
  have lo : IntKind.i64.min = -9223372036854775808 := by decide
  have hi : IntKind.i64.max = 9223372036854775807 := by decide
  simp only [lo, hi]
  rw [if_pos (by omega)]

theorem flo_zero : floatOfInt .f64 0 = 0 := by decide
theorem flo_last : floatOfInt .f64 281474976710655 = 4823355200913801184 := by decide +kernel
theorem flo_self {a : Int} (a0 : 0 ≤ a) (a1 : a < 9007199254740992) : (Ieee.double.order (floatOfInt .f64 a) (floatOfInt .f64 a) == some .eq) = true := by
  rw [flo_order a0 a1 a0 a1, Int.compare_eq_eq.2 rfl]; rfl

end Go.Proofs.YtkhacpapkalkiaaGreat

/- The project's package span: each call answers what the plain numbers say, of spans whose parts are floats of whole numbers; nothing that was there before is changed. -/
namespace Go.Proofs.YtkhacpapkalkiaaGreat
set_option linter.unusedVariables false
open Go.RowKit

/-- is there a span of these ends? -/
def SpC (lo hi : Int) : Prop := 0 ≤ lo ∧ lo ≤ hi ∧ hi ≤ 281474976710655
instance (lo hi : Int) : Decidable (SpC lo hi) := by unfold SpC; infer_instance
def spA (lo hi : Int) : Nat := if SpC lo hi then floatOfInt .f64 lo else 0
def spZ (lo hi : Int) : Nat := if SpC lo hi then floatOfInt .f64 hi else 0
def spB (lo hi : Int) : Bool := decide (SpC lo hi)
theorem sp_yes {lo hi : Int} (h : SpC lo hi) : spA lo hi = floatOfInt .f64 lo ∧ spZ lo hi = floatOfInt .f64 hi ∧ spB lo hi = true := ⟨if_pos h, if_pos h, decide_eq_true h⟩
theorem sp_no {lo hi : Int} (h : ¬ SpC lo hi) : spA lo hi = 0 ∧ spZ lo hi = 0 ∧ spB lo hi = false := ⟨if_neg h, if_neg h, decide_eq_false h⟩

theorem cmp_ge {n : Int} (h : 0 ≤ n) : (some (compare n 0) == some Ordering.gt || some (compare n 0) == some Ordering.eq) = true := by
  rcases Int.lt_trichotomy n 0 with g | g | g
  · omega
  · subst g; rfl
  · rw [Int.compare_eq_gt.2 g]; rfl
theorem cmp_le {m n : Int} (h : m ≤ n) : (some (compare m n) == some Ordering.lt || some (compare m n) == some Ordering.eq) = true := by
  rcases Int.lt_trichotomy m n with g | g | g
  · rw [Int.compare_eq_lt.2 g]; rfl
  · subst g; rw [Int.compare_eq_eq.2 rfl]; rfl
  · omega
/-- what the tests on a part say -/
theorem part_facts {n : Int} (h0 : 0 ≤ n) (h1 : n ≤ 281474976710655) :
    (FloatKind.f64.format.order (floatOfInt .f64 n) 0 == some .gt || FloatKind.f64.format.order (floatOfInt .f64 n) 0 == some .eq) = true ∧
    (FloatKind.f64.format.order (floatOfInt .f64 n) 4823355200913801184 == some .lt || FloatKind.f64.format.order (floatOfInt .f64 n) 4823355200913801184 == some .eq) = true ∧
    (FloatKind.f64.format.order (floatOfInt .f64 n) (floatOfInt .f64 n) == some .eq) = true := by
  refine ⟨?_, ?_, flo_self h0 (by omega)⟩
  · have := flo_order (a := n) (b := 0) h0 (by omega) (by omega) (by omega)
    rw [flo_zero] at this
    show (Ieee.double.order _ _ == _ || Ieee.double.order _ _ == _) = true
    rw [this]; exact cmp_ge h0
  · have := flo_order (a := n) (b := 281474976710655) h0 (by omega) (by omega) (by omega)
    rw [flo_last] at this
    show (Ieee.double.order _ _ == _ || Ieee.double.order _ _ == _) = true
    rw [this]; exact cmp_le h1

set_option maxHeartbeats 400000 in
theorem isValue_yes (n : Int) (w : World) (h0 : 0 ≤ n) (h1 : n ≤ 281474976710655) :
    Calls Tryz.prog 124 #[.float .f64 (floatOfInt .f64 n)] w fun e w' => e = .returned (.bool true) ∧ w = w' := by
  obtain ⟨f1, f2, f3⟩ := part_facts h0 h1
  have hc := fun (w : World) => run_convert_float_int (P := Tryz.prog) w 43 3 .f64 .i64 (floatOfInt .f64 n) n (by rw [Tryz.underlying43]; rfl) Tryz.underlying3 (flo_cut h0 (by omega))
  go_enter Tryz.func124, Tryz.ntmps124
  go_wp2_with fail
  go_ret
  exact ⟨rfl, rfl⟩

theorem le_fact {m n : Int} (h0 : 0 ≤ m) (h : m ≤ n) (h1 : n ≤ 281474976710655) :
    (FloatKind.f64.format.order (floatOfInt .f64 m) (floatOfInt .f64 n) == some .lt || FloatKind.f64.format.order (floatOfInt .f64 m) (floatOfInt .f64 n) == some .eq) = true := by
  show (Ieee.double.order _ _ == _ || Ieee.double.order _ _ == _) = true
  rw [flo_order h0 (by omega) (by omega) (by omega)]; exact cmp_le h
set_option maxHeartbeats 400000 in
theorem sright_yes (lo hi : Int) (w : World) (h0 : 0 ≤ lo) (h1 : lo ≤ hi) (h2 : hi ≤ 281474976710655) :
    Calls Tryz.prog 84 #[.complex .f64 (floatOfInt .f64 lo) (floatOfInt .f64 hi)] w fun e w' => e = .returned (.bool true) ∧ w = w' := by
  have f1 := le_fact h0 h1 h2
  go_enter Tryz.func84, Tryz.ntmps84
  go_wp2_with (go_at_call 124; refine (isValue_yes _ _ (by omega) (by omega)).mono ?_; rintro e w1 ⟨rfl, rfl⟩)
  go_ret
  exact ⟨rfl, rfl⟩
set_option maxHeartbeats 400000 in
theorem sends_yes (lo hi : Int) (w : World) (h0 : 0 ≤ lo) (h1 : lo ≤ hi) (h2 : hi ≤ 281474976710655) :
    Calls Tryz.prog 47 #[.complex .f64 (floatOfInt .f64 lo) (floatOfInt .f64 hi)] w fun e w' => e = .returned (.tuple #[.int .i64 lo, .int .i64 hi, .bool true]) ∧ w = w' := by
  have hc := fun (w : World) => run_convert_float_int (P := Tryz.prog) w 43 3 .f64 .i64 (floatOfInt .f64 lo) lo (by rw [Tryz.underlying43]; rfl) Tryz.underlying3 (flo_cut (by omega) (by omega))
  have hd := fun (w : World) => run_convert_float_int (P := Tryz.prog) w 43 3 .f64 .i64 (floatOfInt .f64 hi) hi (by rw [Tryz.underlying43]; rfl) Tryz.underlying3 (flo_cut (by omega) (by omega))
  go_enter Tryz.func47, Tryz.ntmps47
  go_wp2_with (go_at_call 84; refine (sright_yes _ _ _ h0 h1 h2).mono ?_; rintro e w1 ⟨rfl, rfl⟩)
  go_ret3
  exact ⟨rfl, rfl⟩
set_option maxHeartbeats 400000 in
theorem sholds_yes (lo hi x : Int) (w : World) (h0 : 0 ≤ lo) (h1 : lo ≤ hi) (h2 : hi ≤ 281474976710655) (x0 : -9223372036854775808 ≤ x) (x1 : x ≤ 9223372036854775807) :
    Calls Tryz.prog 24 #[.complex .f64 (floatOfInt .f64 lo) (floatOfInt .f64 hi), .int .i64 x] w fun e w' => e = .returned (.bool (decide (lo ≤ x ∧ x ≤ hi))) ∧ w = w' := by
  rcases (show x < lo ∨ (lo ≤ x ∧ hi < x) ∨ (lo ≤ x ∧ x ≤ hi) by omega) with h | h | h
  · have hd : decide (lo ≤ x ∧ x ≤ hi) = false := decide_eq_false (by omega)
    rw [hd]
    clear hd
    go_enter Tryz.func24, Tryz.ntmps24
    go_wp2_with (go_at_call 47; refine (sends_yes _ _ _ h0 h1 h2).mono ?_; rintro e w1 ⟨rfl, rfl⟩)
    go_ret
    exact ⟨rfl, rfl⟩
  · have hd : decide (lo ≤ x ∧ x ≤ hi) = false := decide_eq_false (by omega)
    rw [hd]
    clear hd
    obtain ⟨g1, g2⟩ := h
    go_enter Tryz.func24, Tryz.ntmps24
    go_wp2_with (go_at_call 47; refine (sends_yes _ _ _ h0 h1 h2).mono ?_; rintro e w1 ⟨rfl, rfl⟩)
    go_ret
    exact ⟨ret_b (decide_eq_false (by omega)), rfl⟩
  · have hd : decide (lo ≤ x ∧ x ≤ hi) = true := decide_eq_true h
    rw [hd]
    clear hd
    obtain ⟨g1, g2⟩ := h
    go_enter Tryz.func24, Tryz.ntmps24
    go_wp2_with (go_at_call 47; refine (sends_yes _ _ _ h0 h1 h2).mono ?_; rintro e w1 ⟨rfl, rfl⟩)
    go_ret
    exact ⟨rfl, rfl⟩
set_option maxHeartbeats 400000 in
theorem spOf_any (lo hi : Int) (w : World) (l0 : -9223372036854775808 ≤ lo) (l1 : lo ≤ 9223372036854775807) (x0 : -9223372036854775808 ≤ hi) (x1 : hi ≤ 9223372036854775807) :
    Calls Tryz.prog 30 #[.int .i64 lo, .int .i64 hi] w fun e w' => e = .returned (.tuple #[.complex .f64 (spA lo hi) (spZ lo hi), .bool (spB lo hi)]) ∧ w = w' := by
  rcases (show lo < 0 ∨ (0 ≤ lo ∧ hi < lo) ∨ (0 ≤ lo ∧ lo ≤ hi ∧ 281474976710655 < hi) ∨ (0 ≤ lo ∧ lo ≤ hi ∧ hi ≤ 281474976710655) by omega) with h | h | h | h
  · have H := Lib.hid (sp_no (lo := lo) (hi := hi) (by unfold SpC; omega))
    go_enter Tryz.func30, Tryz.ntmps30
    go_wp2_with fail
    go_ret2
    exact ⟨by rw [H.out.1, H.out.2.1, H.out.2.2]; rfl, rfl⟩
  · have H := Lib.hid (sp_no (lo := lo) (hi := hi) (by unfold SpC; omega))
    obtain ⟨g1, g2⟩ := h
    go_enter Tryz.func30, Tryz.ntmps30
    go_wp2_with fail
    go_ret2
    exact ⟨by rw [H.out.1, H.out.2.1, H.out.2.2]; rfl, rfl⟩
  · have H := Lib.hid (sp_no (lo := lo) (hi := hi) (by unfold SpC; omega))
    obtain ⟨g1, g2, g3⟩ := h
    go_enter Tryz.func30, Tryz.ntmps30
    go_wp2_with fail
    go_ret2
    exact ⟨by rw [H.out.1, H.out.2.1, H.out.2.2]; rfl, rfl⟩
  · have H := Lib.hid (sp_yes (lo := lo) (hi := hi) h)
    obtain ⟨g1, g2, g3⟩ := h
    go_enter Tryz.func30, Tryz.ntmps30
    go_wp2_with fail
    go_ret2
    exact ⟨by rw [H.out.1, H.out.2.1, H.out.2.2]; rfl, rfl⟩
end Go.Proofs.YtkhacpapkalkiaaGreat
