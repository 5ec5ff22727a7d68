/- Plain facts on floats (binary64): what the tests 'not below 0, below 2 to the 62, the whole number that is cut of it is it' say of the float of a whole number from 0 to 2 to the 53. No program is spoken of here. -/
import Derived.Test.YtondnligmagomaaFlt
namespace Go.Proofs.Ytondnligmagomaa
set_option linter.unusedVariables false

/-- the bits x are a float that stands for the whole number n, for these tests -/
def WholeF (x : Nat) (n : Int) : Prop :=
  (FloatKind.f64.format.order x 0 == some .gt || FloatKind.f64.format.order x 0 == some .eq) = true ∧
  (FloatKind.f64.format.order x 4886405595696988160 == some .lt) = true ∧
  floatToIntVal .f64 x .i64 = some n ∧
  (FloatKind.f64.format.order (floatOfInt .f64 n) x == some .eq) = true

theorem flo_big {n : Int} (h0 : 0 ≤ n) (h1 : n < 9007199254740992) : Ieee.double.order (floatOfInt .f64 n) 4886405595696988160 = some .lt := by
  obtain ⟨m, k, e, hr, he, hm, hk⟩ := flo_read h0 h1
  have hc : Ieee.double.read 4886405595696988160 = .number false 4503599627370496 10 := by decide +kernel
  unfold Ieee.Format.order
  rw [hr, hc]
  unfold Ieee.Datum.order
  simp only [signed_pos]
  subst hm hk
  obtain ⟨j, rfl⟩ := Int.eq_ofNat_of_zero_le h0
  congr 1
  have hmin : min e 10 = e := by omega
  rw [hmin]
  have z : (e - e).toNat = 0 := by omega
  rw [z, Nat.pow_zero, Nat.mul_one]
  refine Int.compare_eq_lt.2 (Int.ofNat_lt.2 ?_)
  have q : (10 - e).toNat = (-e).toNat + 10 := by omega
  rw [q, Nat.pow_add, Int.toNat_natCast]
  generalize hK : 2 ^ (-e).toNat = K
  have hp : 0 < K := by rw [← hK]; exact Nat.two_pow_pos _
  have a : j * K < 9007199254740992 * K := Nat.mul_lt_mul_of_pos_right (by omega) hp
  have e2 : 4503599627370496 * (K * 2 ^ 10) = 4611686018427387904 * K := by omega
  rw [e2]; omega

theorem whole_flo {n : Int} (h0 : 0 ≤ n) (h1 : n ≤ 9007199254740992) : WholeF (floatOfInt .f64 n) n := by
  rcases Int.lt_or_eq_of_le h1 with h | rfl
  · refine ⟨?_, ?_, flo_cut h0 h, flo_self h0 h⟩
    · have := flo_order (a := n) (b := 0) h0 h (by omega) (by omega)
      rw [show floatOfInt .f64 0 = 0 from by decide] at this
      show (Ieee.double.order _ _ == _ || Ieee.double.order _ _ == _) = true
      rw [this]
      rcases Int.lt_trichotomy n 0 with g | g | g
      · omega
      · subst g; rfl
      · rw [Int.compare_eq_gt.2 g]; rfl
    · show (Ieee.double.order _ _ == _) = true
      rw [flo_big h0 h]; rfl
  · unfold WholeF; decide +kernel

/-- a float stands like itself: for a whole number up to 2 to the 53 -/
theorem flo_same53 {n : Int} (h0 : 0 ≤ n) (h1 : n ≤ 9007199254740992) : FloatKind.f64.format.order (floatOfInt .f64 n) (floatOfInt .f64 n) = some .eq := by
  have := (whole_flo h0 h1).2.2.2
  exact eq_of_beq this

end Go.Proofs.Ytondnligmagomaa
