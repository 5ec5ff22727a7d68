/- Plain numbers: one digit of a long division to the base 2 to the 32, found by a guess that is lowered. No program is spoken of here. -/
import Derived.WalkKit
namespace Go.Proofs.Ytjhkflkffbdafaa
set_option linter.unusedVariables false

/-- the digit t of u times the base and d over y, y being n1 times the base and n0 -/
structure Kn (n1 n0 u d y t : Int) : Prop where
  hy : y = n1 * 4294967296 + n0
  a1 : 1 ≤ n1
  b0 : 0 ≤ n0
  b1 : n0 ≤ 4294967295
  d0 : 0 ≤ d
  d1 : d ≤ 4294967295
  u0 : 0 ≤ u
  uy : u < y
  t0 : 0 ≤ t
  lo : t * y ≤ u * 4294967296 + d
  hi : u * 4294967296 + d < (t + 1) * y

theorem mul_y (q n1 n0 : Int) : q * (n1 * 4294967296 + n0) = q * n1 * 4294967296 + q * n0 := by
  rw [Int.mul_add, ← Int.mul_assoc]
theorem lt_of_mul {a b y : Int} (hy : 0 < y) (h : a * y < b * y) : a < b := by
  by_cases hab : a < b
  · exact hab
  · have := Int.mul_le_mul_of_nonneg_right (show b ≤ a by omega) (show 0 ≤ y by omega)
    omega
theorem Kn.pos {n1 n0 u d y t : Int} (h : Kn n1 n0 u d y t) : 0 < y := by have := h.hy; have := h.a1; have := h.b0; omega
theorem Kn.lt {n1 n0 u d y t : Int} (h : Kn n1 n0 u d y t) : t ≤ 4294967295 := by
  have h1 := h.lo; have h2 := h.uy; have h3 := h.d1
  have : t * y < 4294967296 * y := by omega
  have := lt_of_mul h.pos this
  omega
/-- the guess is too great -/
theorem Kn.down {n1 n0 u d y t q r : Int} (h : Kn n1 n0 u d y t) (hq : q * n1 + r = u) (ht : t ≤ q) (hc : 4294967296 ≤ q ∨ 4294967296 * r + d < q * n0) : t ≤ q - 1 := by
  have hl := h.lt
  rcases hc with hc | hc
  · omega
  · have e := mul_y q n1 n0
    rw [← h.hy] at e
    have h1 := h.lo
    have : t * y < q * y := by omega
    have := lt_of_mul h.pos this
    omega
/-- the guess is right -/
theorem Kn.out {n1 n0 u d y t q r : Int} (h : Kn n1 n0 u d y t) (hq : q * n1 + r = u) (ht : t ≤ q) (hc : q * n0 ≤ 4294967296 * r + d) : q = t := by
  have e := mul_y q n1 n0
  rw [← h.hy] at e
  have h1 := h.hi
  have : q * y < (t + 1) * y := by omega
  have := lt_of_mul h.pos this
  omega
/-- the rest of the guess has grown beyond the base: it is right -/
theorem Kn.brk {n1 n0 u d y t q r : Int} (h : Kn n1 n0 u d y t) (hq : q * n1 + r = u) (ht : t ≤ q) (hr : 4294967296 ≤ r) : q = t := by
  have h1 := h.uy; have h2 := h.hy; have h3 := h.b1; have h4 := h.b0; have h5 := h.t0; have h6 := h.d0; have h7 := h.a1
  have hlt : q * n1 < 4294967296 * n1 := by omega
  have hqb := lt_of_mul (show 0 < n1 by omega) hlt
  have hm := Int.mul_le_mul_of_nonneg_right (show q ≤ 4294967295 by omega) h4
  exact h.out hq ht (by omega)
theorem Kn.next {n1 n0 u d y t q r : Int} (hq : q * n1 + r = u) : (q - 1) * n1 + (r + n1) = u := by
  rw [Int.sub_mul, Int.one_mul]; omega
theorem Kn.prod {n0 q : Int} (b0 : 0 ≤ n0) (b1 : n0 ≤ 4294967295) (q0 : 0 ≤ q) (q1 : q ≤ 4294967295) : 0 ≤ q * n0 ∧ q * n0 ≤ 18446744073709551615 := by
  have h1 := Int.mul_nonneg q0 b0
  have h2 := Int.mul_le_mul q1 b1 b0 (show (0 : Int) ≤ 4294967295 by decide)
  omega
theorem Kn.guess {n1 n0 u d y t : Int} (h : Kn n1 n0 u d y t) : t ≤ u / n1 := by
  have h1 := h.lo; have h2 := h.hy; have h3 := h.d1; have h4 := h.b0; have h5 := h.a1; have h6 := h.t0
  have e := mul_y t n1 n0
  rw [← h2] at e
  have h7 := Int.mul_nonneg h6 h4
  have h8 : t * n1 ≤ u := by omega
  exact (Int.le_ediv_iff_mul_le (by omega)).2 h8

end Go.Proofs.Ytjhkflkffbdafaa
