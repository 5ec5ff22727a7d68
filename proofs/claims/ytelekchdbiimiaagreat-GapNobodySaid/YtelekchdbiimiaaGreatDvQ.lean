/- Texts laid together: Knuth, DivNums, Div, DivAny, RkPart. -/
import Derived.WalkKit
import Derived.Test.YtelekchdbiimiaaGreatPln
import Derived.Lib.ItoaNum
import Derived.Shelf.Bits.Mul64
import Derived.Test.YtelekchdbiimiaaGreatRkT
import Derived.Test.YtelekchdbiimiaaGreatShelf
import Derived.WalkSpells
import Derived.WalkLawsBesides
import Derived.Lib.Hide
import Derived.Deep.CutBlock
import Derived.Deep.DeepCutAuto
import Derived.Deep.LoopGhost
import Derived.Deep.QuietTactic
import Derived.BigQuiet
import Derived.Test.YtelekchdbiimiaaGreatRnQ
namespace Go.Proofs.YtelekchdbiimiaaGreat
set_option linter.unusedVariables false
/-- the digit t of u times the base and d over y, y being n1 times the base and n0 -/
structure Kn (n1 n0 u d y t : Int) : Prop where
  hy : y = n1 * 4294967296 + n0
  a1 : 1 ≤ n1
  b0 : 0 ≤ n0
  b1 : n0 ≤ 4294967295
  d0 : 0 ≤ d
  d1 : d ≤ 4294967295
  u0 : 0 ≤ u
  uy : u < y
  t0 : 0 ≤ t
  lo : t * y ≤ u * 4294967296 + d
  hi : u * 4294967296 + d < (t + 1) * y
theorem mul_y (q n1 n0 : Int) : q * (n1 * 4294967296 + n0) = q * n1 * 4294967296 + q * n0 := by
  rw [Int.mul_add, ← Int.mul_assoc]
theorem lt_of_mul {a b y : Int} (hy : 0 < y) (h : a * y < b * y) : a < b := by
  by_cases hab : a < b
  · exact hab
  · have := Int.mul_le_mul_of_nonneg_right (show b ≤ a by omega) (show 0 ≤ y by omega)
    omega
theorem Kn.pos {n1 n0 u d y t : Int} (h : Kn n1 n0 u d y t) : 0 < y := by have := h.hy; have := h.a1; have := h.b0; omega
theorem Kn.lt {n1 n0 u d y t : Int} (h : Kn n1 n0 u d y t) : t ≤ 4294967295 := by
  have h1 := h.lo; have h2 := h.uy; have h3 := h.d1
  have : t * y < 4294967296 * y := by omega
  have := lt_of_mul h.pos this
  omega
/-- the guess is too great -/
theorem Kn.down {n1 n0 u d y t q r : Int} (h : Kn n1 n0 u d y t) (hq : q * n1 + r = u) (ht : t ≤ q) (hc : 4294967296 ≤ q ∨ 4294967296 * r + d < q * n0) : t ≤ q - 1 := by
  have hl := h.lt
  rcases hc with hc | hc
  · omega
  · have e := mul_y q n1 n0
    rw [← h.hy] at e
    have h1 := h.lo
    have : t * y < q * y := by omega
    have := lt_of_mul h.pos this
    omega
/-- the guess is right -/
theorem Kn.out {n1 n0 u d y t q r : Int} (h : Kn n1 n0 u d y t) (hq : q * n1 + r = u) (ht : t ≤ q) (hc : q * n0 ≤ 4294967296 * r + d) : q = t := by
  have e := mul_y q n1 n0
  rw [← h.hy] at e
  have h1 := h.hi
  have : q * y < (t + 1) * y := by omega
  have := lt_of_mul h.pos this
  omega
/-- the rest of the guess has grown beyond the base: it is right -/
theorem Kn.brk {n1 n0 u d y t q r : Int} (h : Kn n1 n0 u d y t) (hq : q * n1 + r = u) (ht : t ≤ q) (hr : 4294967296 ≤ r) : q = t := by
  have h1 := h.uy; have h2 := h.hy; have h3 := h.b1; have h4 := h.b0; have h5 := h.t0; have h6 := h.d0; have h7 := h.a1
  have hlt : q * n1 < 4294967296 * n1 := by omega
  have hqb := lt_of_mul (show 0 < n1 by omega) hlt
  have hm := Int.mul_le_mul_of_nonneg_right (show q ≤ 4294967295 by omega) h4
  exact h.out hq ht (by omega)
theorem Kn.next {n1 n0 u d y t q r : Int} (hq : q * n1 + r = u) : (q - 1) * n1 + (r + n1) = u := by
  rw [Int.sub_mul, Int.one_mul]; omega
theorem Kn.prod {n0 q : Int} (b0 : 0 ≤ n0) (b1 : n0 ≤ 4294967295) (q0 : 0 ≤ q) (q1 : q ≤ 4294967295) : 0 ≤ q * n0 ∧ q * n0 ≤ 18446744073709551615 := by
  have h1 := Int.mul_nonneg q0 b0
  have h2 := Int.mul_le_mul q1 b1 b0 (show (0 : Int) ≤ 4294967295 by decide)
  omega
theorem Kn.guess {n1 n0 u d y t : Int} (h : Kn n1 n0 u d y t) : t ≤ u / n1 := by
  have h1 := h.lo; have h2 := h.hy; have h3 := h.d1; have h4 := h.b0; have h5 := h.a1; have h6 := h.t0
  have e := mul_y t n1 n0
  rw [← h2] at e
  have h7 := Int.mul_nonneg h6 h4
  have h8 : t * n1 ≤ u := by omega
  exact (Int.le_ediv_iff_mul_le (by omega)).2 h8
end Go.Proofs.YtelekchdbiimiaaGreat
namespace Go.Proofs.YtelekchdbiimiaaGreat
set_option linter.unusedVariables false
open Go.RowKit
theorem kn_mk {n1 n0 u d Y : Int} (hy : Y = n1 * 4294967296 + n0) (a1 : 1 ≤ n1) (b0 : 0 ≤ n0) (b1 : n0 ≤ 4294967295) (d0 : 0 ≤ d) (d1 : d ≤ 4294967295) (u0 : 0 ≤ u) (uy : u < Y) :
    Kn n1 n0 u d Y ((u * 4294967296 + d) / Y) := by
  have hp : 0 < Y := by omega
  exact ⟨hy, a1, b0, b1, d0, d1, u0, uy, Int.ediv_nonneg (by omega) (by omega), Int.ediv_mul_le _ (by omega), Int.lt_ediv_add_one_mul_self _ hp⟩
theorem wrapU (x : Int) : IntKind.u64.wrap x = x % 18446744073709551616 := by rw [IntKind.wrap_u64]
theorem rest_wrap {u d Y : Int} (hp : 0 < Y) (hm : Y ≤ 18446744073709551616) :
    IntKind.u64.wrap (IntKind.u64.wrap (IntKind.u64.wrap (u * 4294967296) + d) - IntKind.u64.wrap ((u * 4294967296 + d) / Y * Y)) = (u * 4294967296 + d) % Y := by
  have e := Int.emod_def (u * 4294967296 + d) Y
  rw [Int.mul_comm Y] at e
  have h1 := Int.emod_nonneg (u * 4294967296 + d) (show Y ≠ 0 by omega)
  have h2 := Int.emod_lt_of_pos (u * 4294967296 + d) hp
  simp only [wrapU]
  omega
theorem or_add (a b n : Nat) (hb : b < 2 ^ n) (ha : a * 2 ^ n < 18446744073709551616) (hb' : b < 18446744073709551616) :
    bits .or .u64 ((a * 2 ^ n : Nat) : Int) (b : Int) = ((a * 2 ^ n + b : Nat) : Int) := by
  rw [bits_or_u64_nat _ _ ha hb', Nat.mul_comm a, Nat.two_pow_add_eq_or_of_lt hb]
theorem two_cast (n : Nat) : ((2 ^ n : Nat) : Int) = (2 : Int) ^ n := by rw [Int.natCast_pow]; rfl
theorem div64_fin {V y P U L d1 d0 t1 r1 t2 r2 : Int} (hP : 0 < P) (hy : 0 < y) (e1 : t1 * (y * P) + r1 = U * 4294967296 + d1) (e2 : t2 * (y * P) + r2 = r1 * 4294967296 + d0)
    (eL : L = d1 * 4294967296 + d0) (eV : U * 18446744073709551616 + L = V * P) (g0 : 0 ≤ r2) (g1 : r2 < y * P) : t1 * 4294967296 + t2 = V / y ∧ r2 / P = V % y := by
  have q : (t1 * 4294967296 + t2) * (y * P) = t1 * (y * P) * 4294967296 + t2 * (y * P) := by rw [Int.add_mul, Int.mul_right_comm]
  generalize t1 * 4294967296 + t2 = Q at *
  have e : r2 = (V - Q * y) * P := by rw [Int.sub_mul, Int.mul_assoc Q]; omega
  have h1 : V - Q * y < y := lt_of_mul hP (by rw [← e]; exact g1)
  have h0 : -1 < V - Q * y := lt_of_mul hP (by rw [← e]; omega)
  have hq : V / y = Q := by
    rw [Int.ediv_eq_iff_of_pos hy]
    refine ⟨by omega, by omega⟩
  refine ⟨hq.symm, ?_⟩
  rw [e, Int.mul_ediv_cancel _ (show P ≠ 0 by omega), Int.emod_def, hq, Int.mul_comm y]
/-- the numbers of a long division of two digits: what Div64 works with, and why it is right -/
theorem div64_nums (hi lo y : Int) (h0 : 0 < hi) (h1 : hi < y) (h2 : y ≤ 18446744073709551615) (l0 : 0 ≤ lo) (l1 : lo ≤ 18446744073709551615) :
    ∃ s Y n1 n0 H u L d1 d0 t1 r1 t2 r2 rem : Int, s = 64 - (Lib.bitLen y.toNat : Int) ∧ (0 ≤ s ∧ s ≤ 63) ∧
      IntKind.u64.wrap (y * 2 ^ s.toNat) = Y ∧ Y / 4294967296 = n1 ∧ bits .and .u64 Y 4294967295 = n0 ∧ IntKind.u64.wrap (hi * 2 ^ s.toNat) = H ∧
      bits .or .u64 H (lo / 2 ^ (64 - s).toNat) = u ∧ IntKind.u64.wrap (lo * 2 ^ s.toNat) = L ∧ L / 4294967296 = d1 ∧ bits .and .u64 L 4294967295 = d0 ∧
      IntKind.u64.wrap (IntKind.u64.wrap (IntKind.u64.wrap (u * 4294967296) + d1) - IntKind.u64.wrap (t1 * Y)) = r1 ∧
      IntKind.u64.wrap (IntKind.u64.wrap (IntKind.u64.wrap (r1 * 4294967296) + d0) - IntKind.u64.wrap (t2 * Y)) = r2 ∧
      r2 / 2 ^ s.toNat = rem ∧
      n1 ≤ 4294967295 ∧ u ≤ 18446744073709551615 ∧ (0 ≤ r1 ∧ r1 ≤ 18446744073709551615) ∧ (0 ≤ r2 ∧ r2 ≤ 18446744073709551615) ∧
      Kn n1 n0 u d1 Y t1 ∧ Kn n1 n0 r1 d0 Y t2 ∧
      t1 * 4294967296 + t2 = (hi * 18446744073709551616 + lo) / y ∧ rem = (hi * 18446744073709551616 + lo) % y := by
  have hb := Lib.bitLenAux_bounds 64 y.toNat (by omega) (by omega)
  have hble : Lib.bitLen y.toNat ≤ 64 := Lib.bitLen_le y.toNat 64 (by omega) (by omega)
  change 1 ≤ Lib.bitLen y.toNat ∧ 2 ^ (Lib.bitLen y.toNat - 1) ≤ y.toNat ∧ y.toNat < 2 ^ Lib.bitLen y.toNat at hb
  generalize Lib.bitLen y.toNat = b at hb hble
  obtain ⟨hb1, hb2, hb3⟩ := hb
  have es : (64 - (b : Int)).toNat = 64 - b := by omega
  have es2 : (64 - (64 - (b : Int))).toNat = b := by omega
  have pp : (2 : Int) ^ (64 - b) * 2 ^ b = 18446744073709551616 := by
    rw [← Int.pow_add, show 64 - b + b = 64 by omega]; decide
  have hyc : y < (2 : Int) ^ b := by rw [← two_cast]; omega
  have hcy : (2 : Int) ^ b ≤ 2 * y := by
    have h : 2 ^ b = 2 * 2 ^ (b - 1) := by rw [← Nat.pow_succ']; congr 1; omega
    rw [← two_cast, h]; omega
  have hPn : ((2 ^ (64 - b) : Nat) : Int) = (2 : Int) ^ (64 - b) := two_cast _
  have hP0 : (0 : Int) < 2 ^ (64 - b) := two_pos _
  have hC0 : (0 : Int) < 2 ^ b := two_pos _
  have pN : 2 ^ (64 - b) * 2 ^ b = 18446744073709551616 := by
    rw [← Nat.pow_add, show 64 - b + b = 64 by omega]
  generalize hPe : (2 : Int) ^ (64 - b) = P at *
  generalize hCe : (2 : Int) ^ b = C at *
  have hPM : P ≤ 18446744073709551616 := by
    have := Int.mul_le_mul_of_nonneg_left (show 1 ≤ C by omega) (Int.le_of_lt hP0); omega
  -- the divisor, moved up
  have y1 : y * P < 18446744073709551616 := by
    have := Int.mul_lt_mul_of_pos_right hyc hP0; rw [Int.mul_comm C] at this; omega
  have y2 : 9223372036854775808 ≤ y * P := by
    have := Int.mul_le_mul_of_nonneg_right hcy (Int.le_of_lt hP0); rw [Int.mul_comm C, pp, Int.mul_assoc] at this; omega
  have hh0 : 0 ≤ hi * P := Int.mul_nonneg (by omega) (by omega)
  have hhy : hi * P < y * P := Int.mul_lt_mul_of_pos_right h1 hP0
  -- the low word in two parts
  have hlo : lo = C * (lo / C) + lo % C := (Int.mul_ediv_add_emod lo C).symm
  have hc0 := Int.emod_nonneg lo (show C ≠ 0 by omega)
  have hc1 := Int.emod_lt_of_pos lo hC0
  have ha0 : 0 ≤ lo / C := Int.ediv_nonneg l0 (by omega)
  have hcP : lo % C * P < 18446744073709551616 := by
    have := Int.mul_lt_mul_of_pos_right hc1 hP0; rw [Int.mul_comm C] at this; omega
  have hcP0 : 0 ≤ lo % C * P := Int.mul_nonneg hc0 (by omega)
  have hloP : lo * P = lo / C * 18446744073709551616 + lo % C * P := by
    have e : lo * P = (C * (lo / C) + lo % C) * P := by rw [← hlo]
    rw [e, Int.add_mul, Int.mul_comm C, Int.mul_assoc, Int.mul_comm C P, pp]
  have haP : lo / C < P := by
    have : lo / C * C < P * C := by rw [pp]; have := Int.ediv_mul_le lo (show C ≠ 0 by omega); omega
    exact lt_of_mul hC0 this
  have eL : IntKind.u64.wrap (lo * P) = lo % C * P := by rw [wrapU, hloP]; omega
  have eH : IntKind.u64.wrap (hi * P) = hi * P := by rw [wrapU]; omega
  have eY : IntKind.u64.wrap (y * P) = y * P := by rw [wrapU]; omega
  have eU : bits .or .u64 (hi * P) (lo / C) = hi * P + lo / C := by
    have q1 : hi * P = ((hi.toNat * 2 ^ (64 - b) : Nat) : Int) := by
      rw [Int.natCast_mul, hPn, Int.toNat_of_nonneg (by omega)]
    have q2 : lo / C = (((lo / C).toNat : Nat) : Int) := by rw [Int.toNat_of_nonneg ha0]
    rw [q1, q2, or_add _ _ _ (by have := hPn; omega) (by omega) (by omega)]
    rw [Int.natCast_add]
  have eN0 : bits .and .u64 (y * P) 4294967295 = y * P % 4294967296 := by
    have q : y * P = (((y * P).toNat : Nat) : Int) := by rw [Int.toNat_of_nonneg (by omega)]
    rw [q, Mul64.maskN _ (by omega)]; omega
  have eD0 : bits .and .u64 (lo % C * P) 4294967295 = lo % C * P % 4294967296 := by
    have q : lo % C * P = (((lo % C * P).toNat : Nat) : Int) := by rw [Int.toNat_of_nonneg hcP0]
    rw [q, Mul64.maskN _ (by omega)]; omega
  -- all of it, moved up
  have eV : (hi * P + lo / C) * 18446744073709551616 + lo % C * P = (hi * 18446744073709551616 + lo) * P := by
    rw [Int.add_mul, Int.add_mul, hloP, Int.mul_assoc hi, Int.mul_comm P, ← Int.mul_assoc hi]; omega
  have hV : (hi * 18446744073709551616 + lo) * P < y * P * 18446744073709551616 := by
    have q : hi * 18446744073709551616 + lo < y * 18446744073709551616 := by omega
    have := Int.mul_lt_mul_of_pos_right q hP0
    rw [Int.mul_assoc y, Int.mul_comm 18446744073709551616 P, ← Int.mul_assoc y] at this; exact this
  have hu : hi * P + lo / C < y * P := by omega
  have hYn : y * P ≠ 0 := by omega
  have g0 := Int.emod_nonneg ((hi * P + lo / C) * 4294967296 + lo % C * P / 4294967296) hYn
  have g1 := Int.emod_lt_of_pos ((hi * P + lo / C) * 4294967296 + lo % C * P / 4294967296) (show 0 < y * P by omega)
  have g2 := Int.ediv_mul_add_emod ((hi * P + lo / C) * 4294967296 + lo % C * P / 4294967296) (y * P)
  have k0 := Int.emod_nonneg (((hi * P + lo / C) * 4294967296 + lo % C * P / 4294967296) % (y * P) * 4294967296 + lo % C * P % 4294967296) hYn
  have k1 := Int.emod_lt_of_pos (((hi * P + lo / C) * 4294967296 + lo % C * P / 4294967296) % (y * P) * 4294967296 + lo % C * P % 4294967296) (show 0 < y * P by omega)
  have k2 := Int.ediv_mul_add_emod (((hi * P + lo / C) * 4294967296 + lo % C * P / 4294967296) % (y * P) * 4294967296 + lo % C * P % 4294967296) (y * P)
  have F := div64_fin hP0 (by omega) g2 k2 (show lo % C * P = _ by omega) eV k0 k1
  refine ⟨64 - (b : Int), y * P, y * P / 4294967296, y * P % 4294967296, hi * P, hi * P + lo / C, lo % C * P, lo % C * P / 4294967296, lo % C * P % 4294967296, _, _, _, _, _,
    rfl, by omega, by rw [es, hPe]; exact eY, rfl, eN0, by rw [es, hPe]; exact eH, by rw [es2, hCe]; exact eU, by rw [es, hPe]; exact eL, rfl, eD0,
    rest_wrap (by omega) (by omega), rest_wrap (by omega) (by omega), rfl, by omega, by omega, ?_, ?_, kn_mk (by omega) (by omega) (by omega) (by omega) (by omega) (by omega) (by omega) hu, kn_mk (by omega) (by omega) (by omega) (by omega) (by omega) (by omega) ?_ ?_, ?_, ?_⟩
  · exact ⟨g0, by omega⟩
  · exact ⟨k0, by omega⟩
  · exact g0
  · exact g1
  · exact F.1
  · rw [es, hPe]; exact F.2
end Go.Proofs.YtelekchdbiimiaaGreat
namespace Go.Proofs.YtelekchdbiimiaaGreat
set_option linter.unusedVariables false
open Go.RowKit
set_option maxRecDepth 100000 in
set_option maxHeartbeats 1600000 in
theorem div64_core (hi lo y s Y n1 n0 H u L d1 d0 t1 r1 t2 r2 rem : Int) (w : World) (h0 : 0 < hi) (h1 : hi < y) (h2 : y ≤ 18446744073709551615) (l0 : 0 ≤ lo) (l1 : lo ≤ 18446744073709551615)
    (s0 : 0 ≤ s) (s1 : s ≤ 63)
    (HC : Hid (∀ w, Calls Tryz.prog 204 #[.int .u64 y] w fun e w' => e = .returned (.int .i64 s) ∧ w = w'))
    (e1 : IntKind.u64.wrap (y * 2 ^ s.toNat) = Y) (e2 : Y / 4294967296 = n1) (e3 : bits .and .u64 Y 4294967295 = n0) (e4 : IntKind.u64.wrap (hi * 2 ^ s.toNat) = H)
    (e5 : bits .or .u64 H (lo / 2 ^ (64 - s).toNat) = u) (e6 : IntKind.u64.wrap (lo * 2 ^ s.toNat) = L) (e7 : L / 4294967296 = d1) (e8 : bits .and .u64 L 4294967295 = d0)
    (e9 : IntKind.u64.wrap (IntKind.u64.wrap (IntKind.u64.wrap (u * 4294967296) + d1) - IntKind.u64.wrap (t1 * Y)) = r1)
    (e10 : IntKind.u64.wrap (IntKind.u64.wrap (IntKind.u64.wrap (r1 * 4294967296) + d0) - IntKind.u64.wrap (t2 * Y)) = r2)
    (e11 : r2 / 2 ^ s.toNat = rem)
    (n1a : 1 ≤ n1) (n1b : n1 ≤ 4294967295) (n0a : 0 ≤ n0) (n0b : n0 ≤ 4294967295) (ua : 0 ≤ u) (ub : u ≤ 18446744073709551615) (d1a : 0 ≤ d1) (d1b : d1 ≤ 4294967295) (d0a : 0 ≤ d0) (d0b : d0 ≤ 4294967295)
    (t1a : 0 ≤ t1) (t1b : t1 ≤ 4294967295) (t2a : 0 ≤ t2) (t2b : t2 ≤ 4294967295) (r1a : 0 ≤ r1) (r1b : r1 ≤ 18446744073709551615) (r2a : 0 ≤ r2) (r2b : r2 ≤ 18446744073709551615)
    (K1 : Hid (Kn n1 n0 u d1 Y t1)) (K2 : Hid (Kn n1 n0 r1 d0 Y t2)) :
    Calls Tryz.prog 190 #[.int .u64 hi, .int .u64 lo, .int .u64 y] w fun e w' => e = .returned (.tuple #[.int .u64 (t1 * 4294967296 + t2), .int .u64 rem]) ∧ w = w' := by
  have hyh : ¬ y ≤ hi := by omega
  have m0 : 0 ≤ u - u / n1 * n1 ∧ u - u / n1 * n1 ≤ 4294967295 := by
    have := Int.emod_nonneg u (show n1 ≠ 0 by omega); have := Int.emod_lt_of_pos u (show 0 < n1 by omega)
    have e := Int.emod_def u n1; rw [Int.mul_comm n1] at e; omega
  have m1 : 0 ≤ u / n1 ∧ u / n1 ≤ 18446744073709551615 := ⟨Int.ediv_nonneg ua (by omega), Int.le_trans (Int.ediv_le_self n1 ua) ub⟩
  have m2 : 0 ≤ u / n1 * n1 ∧ u / n1 * n1 ≤ 18446744073709551615 := ⟨Int.mul_nonneg m1.1 (by omega), by omega⟩
  go_enter Tryz.func190, Tryz.ntmps190
  go_upto_block 0 with (go_at_call 204; refine (HC.out _).mono ?_; rintro e w' ⟨rfl, rfl⟩)
  go_cut [15, 16] (fun q r wx => ∃ r' : Int, q = .int .u64 t1 ∧ r = .int .u64 r' ∧ wx = w)
  case first =>
    have eq : u / n1 * n1 + (u - u / n1 * n1) = u := by omega
    have HG := Lib.hid eq
    have HT := Lib.hid K1.out.guess
    clear eq
    go_wp2_with fail
    go_loopg [15, 16] (u / n1).toNat (fun k qv rv wr => ∃ q r : Int, qv = .int .u64 q ∧ rv = .int .u64 r ∧ 0 ≤ q ∧ q ≤ 18446744073709551615 ∧ 0 ≤ r ∧ r ≤ 4294967295 ∧ q.toNat ≤ k ∧ Hid (q * n1 + r = u) ∧ Hid (t1 ≤ q) ∧ wr = w)
    case atStart => exact ⟨_, _, rfl, rfl, m1.1, m1.2, m0.1, m0.2, by omega, HG.out, HT.out, rfl⟩
    case round =>
      obtain ⟨q, r, rfl, rfl, q0, q1, r0, r1', hk, HQ, HL, rfl⟩ := hrel
      clear HG HT m0 m1 m2
      rcases (show 4294967296 ≤ q ∨ (q ≤ 4294967295 ∧ 4294967296 * r + d1 < q * n0) ∨ (q ≤ 4294967295 ∧ q * n0 ≤ 4294967296 * r + d1) by omega) with h | h | h
      · have HD := Lib.hid (K1.out.down HQ.out HL.out (.inl h))
        have hq1 : 1 ≤ q := by omega
        by_cases hb : 4294967296 ≤ r + n1
        · have HE := Lib.hid (K1.out.brk (Kn.next (n0 := n0) (d := d1) (y := Y) (t := t1) HQ.out) HD.out hb)
          go_wp2_with fail
          go_meet
          exact ⟨r + n1, by rw [HE.out], rfl, rfl⟩
        · have HN := Lib.hid (Kn.next (n0 := n0) (d := d1) (y := Y) (t := t1) HQ.out)
          go_wp2_with fail
          go_roundg (gk - 1)
          case measure => omega
          case rel => exact ⟨q - 1, r + n1, rfl, rfl, by omega, by omega, by omega, by omega, by omega, HN.out, HD.out, rfl⟩
      · have HD := Lib.hid (K1.out.down HQ.out HL.out (.inr h.2))
        have p := Kn.prod n0a n0b q0 h.1
        have hq1 : 1 ≤ q := by have := HD.out; omega
        by_cases hb : 4294967296 ≤ r + n1
        · have HE := Lib.hid (K1.out.brk (Kn.next (n0 := n0) (d := d1) (y := Y) (t := t1) HQ.out) HD.out hb)
          go_wp2_with fail
          go_meet
          exact ⟨r + n1, by rw [HE.out], rfl, rfl⟩
        · have HN := Lib.hid (Kn.next (n0 := n0) (d := d1) (y := Y) (t := t1) HQ.out)
          go_wp2_with fail
          go_roundg (gk - 1)
          case measure => omega
          case rel => exact ⟨q - 1, r + n1, rfl, rfl, by omega, by omega, by omega, by omega, by omega, HN.out, HD.out, rfl⟩
      · have HE := Lib.hid (K1.out.out HQ.out HL.out h.2)
        have p := Kn.prod n0a n0b q0 h.1
        go_wp2_with fail
        go_meet
        exact ⟨r, by rw [HE.out], rfl, rfl⟩
  case rest =>
    obtain ⟨r', rfl, rfl, rfl⟩ := hcut
    clear m0 m1 m2
    have v0 : 0 ≤ r1 - r1 / n1 * n1 ∧ r1 - r1 / n1 * n1 ≤ 4294967295 := by
      have := Int.emod_nonneg r1 (show n1 ≠ 0 by omega); have := Int.emod_lt_of_pos r1 (show 0 < n1 by omega)
      have e := Int.emod_def r1 n1; rw [Int.mul_comm n1] at e; omega
    have v1 : 0 ≤ r1 / n1 ∧ r1 / n1 ≤ 18446744073709551615 := ⟨Int.ediv_nonneg r1a (by omega), Int.le_trans (Int.ediv_le_self n1 r1a) r1b⟩
    have v2 : 0 ≤ r1 / n1 * n1 ∧ r1 / n1 * n1 ≤ 18446744073709551615 := ⟨Int.mul_nonneg v1.1 (by omega), by omega⟩
    go_upto_block 2 with fail
    go_cut [18, 16] (fun q r wx => ∃ r' : Int, q = .int .u64 t2 ∧ r = .int .u64 r' ∧ wx = wc)
    case first =>
      have eq : r1 / n1 * n1 + (r1 - r1 / n1 * n1) = r1 := by omega
      have HG := Lib.hid eq
      have HT := Lib.hid K2.out.guess
      clear eq
      go_wp2_with fail
      go_loopg [18, 16] (r1 / n1).toNat (fun k qv rv wr => ∃ q r : Int, qv = .int .u64 q ∧ rv = .int .u64 r ∧ 0 ≤ q ∧ q ≤ 18446744073709551615 ∧ 0 ≤ r ∧ r ≤ 4294967295 ∧ q.toNat ≤ k ∧ Hid (q * n1 + r = r1) ∧ Hid (t2 ≤ q) ∧ wr = wc)
      case atStart => exact ⟨_, _, rfl, rfl, v1.1, v1.2, v0.1, v0.2, by omega, HG.out, HT.out, rfl⟩
      case round =>
        obtain ⟨q, r, rfl, rfl, q0, q1, r0, r1', hk, HQ, HL, rfl⟩ := hrel
        clear HG HT v0 v1 v2
        rcases (show 4294967296 ≤ q ∨ (q ≤ 4294967295 ∧ 4294967296 * r + d0 < q * n0) ∨ (q ≤ 4294967295 ∧ q * n0 ≤ 4294967296 * r + d0) by omega) with h | h | h
        · have HD := Lib.hid (K2.out.down HQ.out HL.out (.inl h))
          have hq1 : 1 ≤ q := by omega
          by_cases hb : 4294967296 ≤ r + n1
          · have HE := Lib.hid (K2.out.brk (Kn.next (n0 := n0) (d := d0) (y := Y) (t := t2) HQ.out) HD.out hb)
            go_wp2_with fail
            go_meet
            exact ⟨r + n1, by rw [HE.out], rfl, rfl⟩
          · have HN := Lib.hid (Kn.next (n0 := n0) (d := d0) (y := Y) (t := t2) HQ.out)
            go_wp2_with fail
            go_roundg (gk - 1)
            case measure => omega
            case rel => exact ⟨q - 1, r + n1, rfl, rfl, by omega, by omega, by omega, by omega, by omega, HN.out, HD.out, rfl⟩
        · have HD := Lib.hid (K2.out.down HQ.out HL.out (.inr h.2))
          have p := Kn.prod n0a n0b q0 h.1
          have hq1 : 1 ≤ q := by have := HD.out; omega
          by_cases hb : 4294967296 ≤ r + n1
          · have HE := Lib.hid (K2.out.brk (Kn.next (n0 := n0) (d := d0) (y := Y) (t := t2) HQ.out) HD.out hb)
            go_wp2_with fail
            go_meet
            exact ⟨r + n1, by rw [HE.out], rfl, rfl⟩
          · have HN := Lib.hid (Kn.next (n0 := n0) (d := d0) (y := Y) (t := t2) HQ.out)
            go_wp2_with fail
            go_roundg (gk - 1)
            case measure => omega
            case rel => exact ⟨q - 1, r + n1, rfl, rfl, by omega, by omega, by omega, by omega, by omega, HN.out, HD.out, rfl⟩
        · have HE := Lib.hid (K2.out.out HQ.out HL.out h.2)
          have p := Kn.prod n0a n0b q0 h.1
          go_wp2_with fail
          go_meet
          exact ⟨r, by rw [HE.out], rfl, rfl⟩
    case rest =>
      obtain ⟨r'', rfl, rfl, rfl⟩ := hcut
      clear v0 v1 v2
      go_wp2_with fail
      go_ret2
      exact ⟨rfl, rfl⟩
end Go.Proofs.YtelekchdbiimiaaGreat
namespace Go.Proofs.YtelekchdbiimiaaGreat
set_option linter.unusedVariables false
open Go.RowKit
set_option maxHeartbeats 800000 in
theorem div64_any (hi lo y : Int) (w : World) (h0 : 0 ≤ hi) (h1 : hi < y) (h2 : y ≤ 18446744073709551615) (l0 : 0 ≤ lo) (l1 : lo ≤ 18446744073709551615) :
    Calls Tryz.prog 190 #[.int .u64 hi, .int .u64 lo, .int .u64 y] w fun e w' =>
      e = .returned (.tuple #[.int .u64 ((hi * 18446744073709551616 + lo) / y), .int .u64 ((hi * 18446744073709551616 + lo) % y)]) ∧ ∃ n, w' = w.drewN n := by
  by_cases hz : hi = 0
  · subst hz
    have hyh : ¬ y ≤ 0 := by omega
    have q1 : IntKind.u64.wrap (lo.tdiv y) = lo / y := by
      rw [Int.tdiv_eq_ediv_of_nonneg l0, wrapU]
      have := Int.ediv_nonneg l0 (show 0 ≤ y by omega); have := Int.ediv_le_self y l0; omega
    have e : (0 : Int) * 18446744073709551616 + lo = lo := by omega
    rw [e]
    clear e
    go_enter Tryz.func190, Tryz.ntmps190
    go_wp2_with fail
    go_quiet (fail)
    all_goals go_wp2_with fail
    go_ret2
    exact ⟨rfl, _, rfl⟩
  · obtain ⟨s, Y, n1, n0, H, u, L, d1, d0, t1, r1, t2, r2, rem, es, ⟨s0, s1⟩, e1, e2, e3, e4, e5, e6, e7, e8, e9, e10, e11, n1b, ub, ⟨r1a, r1b⟩, ⟨r2a, r2b⟩, K1, K2, eq, er⟩ := div64_nums hi lo y (by omega) h1 h2 l0 l1
    rw [← eq, ← er]
    refine (div64_core hi lo y s Y n1 n0 H u L d1 d0 t1 r1 t2 r2 rem w (by omega) h1 h2 l0 l1 s0 s1 ?_ e1 e2 e3 e4 e5 e6 e7 e8 e9 e10 e11 K1.a1 n1b K1.b0 K1.b1 K1.u0 ub K1.d0 K1.d1 K2.d0 K2.d1 K1.t0 K1.lt K2.t0 K2.lt r1a r1b r2a r2b K1 K2).mono ?_
    · intro w
      rw [es]
      exact (Tryz.bits_LeadingZeros64 y w (by omega) (by omega)).mono fun e w' h => ⟨h.1, h.2.symm⟩
    · rintro e w' ⟨rfl, rfl⟩
      exact ⟨rfl, 0, rfl⟩
end Go.Proofs.YtelekchdbiimiaaGreat
namespace Go.Proofs.YtelekchdbiimiaaGreat
set_option linter.unusedVariables false
open Go.RowKit
/-- how often n goes into x, whether there is a rest, and whether that often is a count -/
def rkOvN (x n : Int) : Int := if 1 ≤ n then quotN x n else 0
def rkOvR (x n : Int) : Bool := if 1 ≤ n then quotR x n else false
def rkOvB (x n : Int) : Bool := if 1 ≤ n then quotB x n else false
theorem over_yes {x n : Int} (h : 1 ≤ n) : rkOvN x n = quotN x n ∧ rkOvR x n = quotR x n ∧ rkOvB x n = quotB x n := ⟨if_pos h, if_pos h, if_pos h⟩
theorem over_no {x n : Int} (h : ¬ 1 ≤ n) : rkOvN x n = 0 ∧ rkOvR x n = false ∧ rkOvB x n = false := ⟨if_neg h, if_neg h, if_neg h⟩
theorem over_big {x n : Int} (h : 1 ≤ n) (hx : ¬ x < 9223372036854775808 * n) : rkOvN x n = 0 ∧ rkOvR x n = false ∧ rkOvB x n = false := by
  rw [(over_yes h).1, (over_yes h).2.1, (over_yes h).2.2]
  unfold quotN quotR quotB
  rw [if_neg hx, decide_eq_false hx]
  exact ⟨rfl, rfl, rfl⟩
theorem over_in {x n : Int} (h : 1 ≤ n) (h0 : 0 ≤ x) : rkOvN x n = nrwN (x / n) ∧ rkOvR x n = (nrwB (x / n) && (x % n != 0)) ∧ rkOvB x n = nrwB (x / n) := by
  rw [(over_yes h).1, (over_yes h).2.1, (over_yes h).2.2]
  have e : (x < 9223372036854775808 * n) ↔ x / n ≤ 9223372036854775807 := by
    constructor
    · intro g
      have := Int.ediv_lt_of_lt_mul (show 0 < n by omega) g; omega
    · intro g
      have h1 := Int.lt_ediv_add_one_mul_self x (show 0 < n by omega)
      have h2 := Int.mul_le_mul_of_nonneg_right (show x / n + 1 ≤ 9223372036854775808 by omega) (show 0 ≤ n by omega)
      omega
  unfold quotN quotR quotB nrwN nrwB onN onB
  refine ⟨?_, ?_, decide_eq_decide.2 e⟩
  · by_cases g : x < 9223372036854775808 * n
    · rw [if_pos g, if_pos (e.1 g)]
    · rw [if_neg g, if_neg (fun k => g (e.2 k))]
  · rw [decide_eq_decide.2 e]
    congr 1
    rw [Bool.eq_iff_iff]; simp
/-- a number, whether there is a rest, and whether it is one; nothing that was there before is changed -/
def Ans3 (n : Int) (r b : Bool) (w w' : World) (e : Ending) : Prop := e = .returned (.tuple #[.int .i64 n, .bool r, .bool b]) ∧ Below w.heap.size w w'
theorem ans3 {n m : Int} {r s b c : Bool} {w w' : World} (h : n = m ∧ r = s ∧ b = c) (hb : Below w.heap.size w w') : Ans3 n r b w w' (.returned (.tuple #[.int .i64 m, .bool s, .bool c])) := by
  obtain ⟨rfl, rfl, rfl⟩ := h; exact ⟨rfl, hb⟩
set_option maxHeartbeats 1600000 in
theorem over_any (lo hi n : Int) (w : World) (l0 : 0 ≤ lo) (l1 : lo ≤ 18446744073709551615) (h0 : 0 ≤ hi) (h1 : hi ≤ 18446744073709551615) (N0 : -9223372036854775808 ≤ n) (N1 : n ≤ 9223372036854775807) :
    Calls Tryz.prog 162 #[.agg #[.int .u64 lo, .int .u64 hi], .int .i64 n] w fun e w' =>
      Ans3 (rkOvN (hi * 18446744073709551616 + lo) n) (rkOvR (hi * 18446744073709551616 + lo) n) (rkOvB (hi * 18446744073709551616 + lo) n) w w' e := by
  by_cases hn : 1 ≤ n
  · by_cases hh : n ≤ hi
    · have H := Lib.hid (over_big (x := hi * 18446744073709551616 + lo) hn (by omega))
      go_enter Tryz.func162, Tryz.ntmps162
      go_wp2_with fail
      go_ret3
      exact ans3 H.out (below_one _ _)
    · have H := Lib.hid (over_in (x := hi * 18446744073709551616 + lo) hn (by omega))
      have q0 : 0 ≤ (hi * 18446744073709551616 + lo) / n := Int.ediv_nonneg (by omega) (by omega)
      have q1 : (hi * 18446744073709551616 + lo) / n ≤ 18446744073709551615 := by
        have := Int.ediv_lt_of_lt_mul (show 0 < n by omega) (show hi * 18446744073709551616 + lo < 18446744073709551616 * n by omega); omega
      go_enter Tryz.func162, Tryz.ntmps162
      go_wp2_with fail
      refine (div64_any hi lo n _ h0 (by omega) (by omega) l0 l1).mono ?_
      rintro e w' ⟨rfl, k, rfl⟩
      generalize (hi * 18446744073709551616 + lo) / n = q at *
      generalize (hi * 18446744073709551616 + lo) % n = r at *
      go_wp2_with fail
      refine (narrow_any q _ q0 q1).mono ?_
      rintro e w' ⟨rfl, rfl⟩
      by_cases hb : nrwB q = true
      · go_wp2_with fail
        go_ret3
        exact ans3 (by rw [H.out.1, H.out.2.1, H.out.2.2, hb]; exact ⟨rfl, rfl, rfl⟩) (below_drewN (below_one _ _) _)
      · have hb' : nrwB q = false := by simpa using hb
        clear hb
        go_wp2_with fail
        go_ret3
        exact ans3 (by rw [H.out.1, H.out.2.1, H.out.2.2, hb']; exact ⟨rfl, rfl, rfl⟩) (below_drewN (below_one _ _) _)
  · have H := Lib.hid (over_no (x := hi * 18446744073709551616 + lo) hn)
    go_enter Tryz.func162, Tryz.ntmps162
    go_wp2_with fail
    go_ret3
    exact ans3 H.out (below_one _ _)
theorem wide_whole (x : Int) : x / 18446744073709551616 * 18446744073709551616 + x % 18446744073709551616 = x := Int.ediv_mul_add_emod x _
set_option maxHeartbeats 800000 in
theorem share_any (n m d : Int) (w : World) (N0 : -9223372036854775808 ≤ n) (N1 : n ≤ 9223372036854775807) (M0 : -9223372036854775808 ≤ m) (M1 : m ≤ 9223372036854775807) (D0 : -9223372036854775808 ≤ d) (D1 : d ≤ 9223372036854775807) :
    Calls Tryz.prog 116 #[.int .i64 n, .int .i64 m, .int .i64 d] w fun e w' => Ans3 (partN n m d) (partR n m d) (partB n m d) w w' e := by
  by_cases h : 0 ≤ n ∧ 0 ≤ m
  · have hc : cntB [n, m] = true := by rw [cnt_two]; exact decide_eq_true h
    obtain ⟨h1, h2⟩ := h
    have p := mul_words h1 h2 N1 M1
    have H : Hid (partN n m d = rkOvN (n * m) d ∧ partR n m d = rkOvR (n * m) d ∧ partB n m d = rkOvB (n * m) d) := by
      by_cases hd : 1 ≤ d
      · have a := part_yes (n := n) (m := m) (d := d) ⟨h1, h2, hd⟩
        have b := over_yes (x := n * m) hd
        exact ⟨a.1.trans b.1.symm, a.2.1.trans b.2.1.symm, a.2.2.trans b.2.2.symm⟩
      · have a := part_no (n := n) (m := m) (d := d) (fun g => hd g.2.2)
        have b := over_no (x := n * m) hd
        exact ⟨a.1.trans b.1.symm, a.2.1.trans b.2.1.symm, a.2.2.trans b.2.2.symm⟩
    go_enter Tryz.func116, Tryz.ntmps116
    go_wp2_with (go_at_call 144; refine (counts_any _ [n, m] _ (seg_two _ _ _ _) (by simp)).mono ?_; rintro e w' ⟨rfl, rfl⟩)
    refine (product_any _ _ _ (by omega) (by omega) (by omega) (by omega)).mono ?_
    rintro e w1 ⟨rfl, B1⟩
    go_wp2_with fail
    refine (over_any _ _ _ _ (by omega) (by omega) (by omega) (by omega) (by omega) (by omega)).mono ?_
    rintro e w2 ⟨rfl, B2⟩
    rw [wide_whole (n * m)]
    go_wp2_with fail
    go_ret3
    exact ans3 H.out (((below_one _ _).trans (B1.mono (by simp))).trans (B2.mono (by have := B1.size; simp at this; omega)))
  · have hc : cntB [n, m] = false := by rw [cnt_two]; exact decide_eq_false h
    have H := Lib.hid (part_no (n := n) (m := m) (d := d) (fun g => h ⟨g.1, g.2.1⟩))
    clear h
    go_enter Tryz.func116, Tryz.ntmps116
    go_wp2_with (go_at_call 144; refine (counts_any _ [n, m] _ (seg_two _ _ _ _) (by simp)).mono ?_; rintro e w' ⟨rfl, rfl⟩)
    go_ret3
    exact ans3 H.out (below_one _ _)
set_option maxHeartbeats 400000 in
theorem partUp_any (n m d : Int) (w : World) (N0 : -9223372036854775808 ≤ n) (N1 : n ≤ 9223372036854775807) (M0 : -9223372036854775808 ≤ m) (M1 : m ≤ 9223372036854775807) (D0 : -9223372036854775808 ≤ d) (D1 : d ≤ 9223372036854775807) :
    Calls Tryz.prog 72 #[.int .i64 n, .int .i64 m, .int .i64 d] w fun e w' => Ans2 (partUpN n m d) (partUpB n m d) w w' e := by
  have bd := part_bd n m d
  by_cases hr : partR n m d = true
  · have H := Lib.hid (partUp_rest hr)
    go_enter Tryz.func72, Tryz.ntmps72
    go_wp2_with (go_at_call 116; refine (share_any n m d _ N0 N1 M0 M1 D0 D1).mono ?_; rintro e w' ⟨rfl, B1⟩)
    refine (add_any _ _ _ (by omega) (by omega) (by omega) (by omega)).mono ?_
    rintro e w2 ⟨rfl, B2⟩
    go_wp2_with fail
    go_ret2
    exact ans2 H.out (B1.trans (B2.mono B1.size))
  · have hr' : partR n m d = false := by simpa using hr
    have H := Lib.hid (partUp_flat hr')
    clear hr
    go_enter Tryz.func72, Tryz.ntmps72
    go_wp2_with (go_at_call 116; refine (share_any n m d _ N0 N1 M0 M1 D0 D1).mono ?_; rintro e w' ⟨rfl, B1⟩)
    go_ret2
    exact ans2 H.out B1
end Go.Proofs.YtelekchdbiimiaaGreat
