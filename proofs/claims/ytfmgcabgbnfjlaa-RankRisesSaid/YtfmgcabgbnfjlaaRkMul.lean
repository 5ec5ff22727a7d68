/- The project's package reckon, for the layers above it: Mul. -/
import Derived.Test.YtfmgcabgbnfjlaaRk
namespace Go.Proofs.Ytfmgcabgbnfjlaa
set_option linter.unusedVariables false
open Go.RowKit

theorem mul64_any (x y : Int) (w : World) (x0 : 0 ≤ x) (x1 : x ≤ 18446744073709551615) (y0 : 0 ≤ y) (y1 : y ≤ 18446744073709551615) :
    Calls Try.prog 50 #[.int .u64 x, .int .u64 y] w fun e w' => e = .returned (.tuple #[.int .u64 (x * y / 18446744073709551616), .int .u64 (x * y % 18446744073709551616)]) ∧ w = w' := by
  obtain ⟨x, rfl⟩ := Int.eq_ofNat_of_zero_le x0
  obtain ⟨y, rfl⟩ := Int.eq_ofNat_of_zero_le y0
  refine (Try.bits_Mul64 x y (by omega) (by omega) w).mono ?_
  rintro e w' ⟨rfl, rfl⟩
  exact ⟨by rw [Int.natCast_ediv, Int.natCast_emod, Int.natCast_mul]; rfl, rfl⟩

/-- a wide number's two words, the low one first -/
def wideV (x : Int) : Value := .agg #[.int .u64 (x % 18446744073709551616), .int .u64 (x / 18446744073709551616)]
set_option maxHeartbeats 400000 in
theorem product_any (a b : Int) (w : World) (a0 : 0 ≤ a) (a1 : a ≤ 9223372036854775807) (b0 : 0 ≤ b) (b1 : b ≤ 9223372036854775807) :
    Calls Try.prog 29 #[.int .i64 a, .int .i64 b] w fun e w' => e = .returned (.agg #[.int .u64 (a * b % 18446744073709551616), .int .u64 (a * b / 18446744073709551616)]) ∧ Below w.heap.size w w' := by
  go_enter Try.func29, Try.ntmps29
  go_wp2_with (go_at_call 50; refine (mul64_any _ _ _ (by omega) (by omega) (by omega) (by omega)).mono ?_; rintro e w' ⟨rfl, rfl⟩)
  exact bodyPost_ret (v := .agg #[.int .u64 (a * b % 18446744073709551616), .int .u64 (a * b / 18446744073709551616)]) (by simp [results, Try.results29, go_sem]) rfl ⟨rfl, (Below.refl _ _).alloc (Nat.le_refl _) _⟩
theorem below_prod {w w1 : World} {o o' : Obj} (B1 : Below (w.alloc o).heap.size (w.alloc o) w1) : Below w.heap.size w (w1.alloc o') :=
  ((below_one w o).trans (B1.mono (by simp))).alloc (by have := B1.size; simp at this; omega) o'

theorem mul_words {a b : Int} (h1 : 0 ≤ a) (h2 : 0 ≤ b) (a1 : a ≤ 9223372036854775807) (b1 : b ≤ 9223372036854775807) :
    0 ≤ a * b ∧ a * b ≤ 85070591730234615847396907784232501249 := by
  have p0 := Int.mul_nonneg h1 h2
  have p1 := Int.mul_le_mul a1 b1 h2 (show (0 : Int) ≤ 9223372036854775807 by decide)
  exact ⟨p0, by omega⟩

set_option maxHeartbeats 800000 in
theorem mul_any (a b : Int) (w : World) (A0 : -9223372036854775808 ≤ a) (A1 : a ≤ 9223372036854775807) (B0 : -9223372036854775808 ≤ b) (B1 : b ≤ 9223372036854775807) :
    Calls Try.prog 17 #[.int .i64 a, .int .i64 b] w fun e w' => Ans2 (mulN a b) (mulB a b) w w' e := by
  by_cases h : 0 ≤ a ∧ 0 ≤ b
  · have hc : cntB [a, b] = true := by rw [cnt_two]; exact decide_eq_true h
    obtain ⟨h1, h2⟩ := h
    have p := mul_words h1 h2 A1 B1
    by_cases hw : a * b / 18446744073709551616 = 0
    · have hw' : (a * b / 18446744073709551616 != 0) = false := by simp [hw]
      have H : Hid (mulN a b = nrwN (a * b % 18446744073709551616) ∧ mulB a b = nrwB (a * b % 18446744073709551616)) := by
        have e : a * b % 18446744073709551616 = a * b := by omega
        rw [e]
        by_cases hs : a * b ≤ 9223372036854775807
        · exact ⟨(mul_yes ⟨h1, h2, hs⟩).1.trans (nrw_yes hs).1.symm, (mul_yes ⟨h1, h2, hs⟩).2.trans (nrw_yes hs).2.symm⟩
        · exact ⟨(mul_no fun h => hs h.2.2).1.trans (nrw_no hs).1.symm, (mul_no fun h => hs h.2.2).2.trans (nrw_no hs).2.symm⟩
      clear hw
      go_enter Try.func17, Try.ntmps17
      go_wp2_with (first | (go_at_call 28; refine (counts_any _ [a, b] _ (seg_two _ _ _ _) (by simp)).mono ?_; rintro e w' ⟨rfl, rfl⟩) | (go_at_call 29; refine (product_any _ _ _ (by omega) (by omega) (by omega) (by omega)).mono ?_; rintro e w' ⟨rfl, B1⟩) | (go_at_call 30; refine (narrow_any _ _ (by omega) (by omega)).mono ?_; rintro e w' ⟨rfl, rfl⟩))
      go_ret2
      exact ans2 H.out (below_prod B1)
    · have hw' : (a * b / 18446744073709551616 != 0) = true := by simp [hw]
      have H := Lib.hid (mul_no (a := a) (b := b) (by omega))
      clear hw
      go_enter Try.func17, Try.ntmps17
      go_wp2_with (first | (go_at_call 28; refine (counts_any _ [a, b] _ (seg_two _ _ _ _) (by simp)).mono ?_; rintro e w' ⟨rfl, rfl⟩) | (go_at_call 29; refine (product_any _ _ _ (by omega) (by omega) (by omega) (by omega)).mono ?_; rintro e w' ⟨rfl, B1⟩))
      go_ret2
      exact ans2 H.out (below_prod B1)
  · have hc : cntB [a, b] = false := by rw [cnt_two]; exact decide_eq_false h
    have H := Lib.hid (mul_no (a := a) (b := b) (fun g => h ⟨g.1, g.2.1⟩))
    clear h
    go_enter Try.func17, Try.ntmps17
    go_wp2_with (go_at_call 28; refine (counts_any _ [a, b] _ (seg_two _ _ _ _) (by simp)).mono ?_; rintro e w' ⟨rfl, rfl⟩)
    go_ret2
    exact ans2 H.out (below_one _ _)

end Go.Proofs.Ytfmgcabgbnfjlaa
