/- Plain numbers: a number of two words over one of a word: the normalised numbers of the long division, and that they give the quotient and the rest. No program is spoken of here. -/
import Derived.Test.YtjhkflkffbdafaaKnuth
import Derived.Test.YtjhkflkffbdafaaNum
import Derived.Lib.ItoaNum
import Derived.Shelf.Bits.Mul64
import Derived.WalkKit
namespace Go.Proofs.Ytjhkflkffbdafaa
set_option linter.unusedVariables false
open Go.RowKit

theorem kn_mk {n1 n0 u d Y : Int} (hy : Y = n1 * 4294967296 + n0) (a1 : 1 ≤ n1) (b0 : 0 ≤ n0) (b1 : n0 ≤ 4294967295) (d0 : 0 ≤ d) (d1 : d ≤ 4294967295) (u0 : 0 ≤ u) (uy : u < Y) :
    Kn n1 n0 u d Y ((u * 4294967296 + d) / Y) := by
  have hp : 0 < Y := by omega
  exact ⟨hy, a1, b0, b1, d0, d1, u0, uy, Int.ediv_nonneg (by omega) (by omega), Int.ediv_mul_le _ (by omega), Int.lt_ediv_add_one_mul_self _ hp⟩
theorem wrapU (x : Int) : IntKind.u64.wrap x = x % 18446744073709551616 := by rw [IntKind.wrap_u64]
theorem rest_wrap {u d Y : Int} (hp : 0 < Y) (hm : Y ≤ 18446744073709551616) :
    IntKind.u64.wrap (IntKind.u64.wrap (IntKind.u64.wrap (u * 4294967296) + d) - IntKind.u64.wrap ((u * 4294967296 + d) / Y * Y)) = (u * 4294967296 + d) % Y := by
  have e := Int.emod_def (u * 4294967296 + d) Y
  rw [Int.mul_comm Y] at e
  have h1 := Int.emod_nonneg (u * 4294967296 + d) (show Y ≠ 0 by omega)
  have h2 := Int.emod_lt_of_pos (u * 4294967296 + d) hp
  simp only [wrapU]
  omega
theorem or_add (a b n : Nat) (hb : b < 2 ^ n) (ha : a * 2 ^ n < 18446744073709551616) (hb' : b < 18446744073709551616) :
    bits .or .u64 ((a * 2 ^ n : Nat) : Int) (b : Int) = ((a * 2 ^ n + b : Nat) : Int) := by
  rw [bits_or_u64_nat _ _ ha hb', Nat.mul_comm a, Nat.two_pow_add_eq_or_of_lt hb]
theorem two_cast (n : Nat) : ((2 ^ n : Nat) : Int) = (2 : Int) ^ n := by rw [Int.natCast_pow]; rfl


theorem div64_fin {V y P U L d1 d0 t1 r1 t2 r2 : Int} (hP : 0 < P) (hy : 0 < y) (e1 : t1 * (y * P) + r1 = U * 4294967296 + d1) (e2 : t2 * (y * P) + r2 = r1 * 4294967296 + d0)
    (eL : L = d1 * 4294967296 + d0) (eV : U * 18446744073709551616 + L = V * P) (g0 : 0 ≤ r2) (g1 : r2 < y * P) : t1 * 4294967296 + t2 = V / y ∧ r2 / P = V % y := by
  have q : (t1 * 4294967296 + t2) * (y * P) = t1 * (y * P) * 4294967296 + t2 * (y * P) := by rw [Int.add_mul, Int.mul_right_comm]
  generalize t1 * 4294967296 + t2 = Q at *
  have e : r2 = (V - Q * y) * P := by rw [Int.sub_mul, Int.mul_assoc Q]; omega
  have h1 : V - Q * y < y := lt_of_mul hP (by rw [← e]; exact g1)
  have h0 : -1 < V - Q * y := lt_of_mul hP (by rw [← e]; omega)
  have hq : V / y = Q := by
    rw [Int.ediv_eq_iff_of_pos hy]
    refine ⟨by omega, by omega⟩
  refine ⟨hq.symm, ?_⟩
  rw [e, Int.mul_ediv_cancel _ (show P ≠ 0 by omega), Int.emod_def, hq, Int.mul_comm y]

/-- the numbers of a long division of two digits: what Div64 works with, and why it is right -/
theorem div64_nums (hi lo y : Int) (h0 : 0 < hi) (h1 : hi < y) (h2 : y ≤ 18446744073709551615) (l0 : 0 ≤ lo) (l1 : lo ≤ 18446744073709551615) :
    ∃ s Y n1 n0 H u L d1 d0 t1 r1 t2 r2 rem : Int, s = 64 - (Lib.bitLen y.toNat : Int) ∧ (0 ≤ s ∧ s ≤ 63) ∧
      IntKind.u64.wrap (y * 2 ^ s.toNat) = Y ∧ Y / 4294967296 = n1 ∧ bits .and .u64 Y 4294967295 = n0 ∧ IntKind.u64.wrap (hi * 2 ^ s.toNat) = H ∧
      bits .or .u64 H (lo / 2 ^ (64 - s).toNat) = u ∧ IntKind.u64.wrap (lo * 2 ^ s.toNat) = L ∧ L / 4294967296 = d1 ∧ bits .and .u64 L 4294967295 = d0 ∧
      IntKind.u64.wrap (IntKind.u64.wrap (IntKind.u64.wrap (u * 4294967296) + d1) - IntKind.u64.wrap (t1 * Y)) = r1 ∧
      IntKind.u64.wrap (IntKind.u64.wrap (IntKind.u64.wrap (r1 * 4294967296) + d0) - IntKind.u64.wrap (t2 * Y)) = r2 ∧
      r2 / 2 ^ s.toNat = rem ∧
      n1 ≤ 4294967295 ∧ u ≤ 18446744073709551615 ∧ (0 ≤ r1 ∧ r1 ≤ 18446744073709551615) ∧ (0 ≤ r2 ∧ r2 ≤ 18446744073709551615) ∧
      Kn n1 n0 u d1 Y t1 ∧ Kn n1 n0 r1 d0 Y t2 ∧
      t1 * 4294967296 + t2 = (hi * 18446744073709551616 + lo) / y ∧ rem = (hi * 18446744073709551616 + lo) % y := by
  have hb := Lib.bitLenAux_bounds 64 y.toNat (by omega) (by omega)
  have hble : Lib.bitLen y.toNat ≤ 64 := Lib.bitLen_le y.toNat 64 (by omega) (by omega)
  change 1 ≤ Lib.bitLen y.toNat ∧ 2 ^ (Lib.bitLen y.toNat - 1) ≤ y.toNat ∧ y.toNat < 2 ^ Lib.bitLen y.toNat at hb
  generalize Lib.bitLen y.toNat = b at hb hble
  obtain ⟨hb1, hb2, hb3⟩ := hb
  have es : (64 - (b : Int)).toNat = 64 - b := by omega
  have es2 : (64 - (64 - (b : Int))).toNat = b := by omega
  have pp : (2 : Int) ^ (64 - b) * 2 ^ b = 18446744073709551616 := by
    rw [← Int.pow_add, show 64 - b + b = 64 by omega]; decide
  have hyc : y < (2 : Int) ^ b := by rw [← two_cast]; omega
  have hcy : (2 : Int) ^ b ≤ 2 * y := by
    have h : 2 ^ b = 2 * 2 ^ (b - 1) := by rw [← Nat.pow_succ']; congr 1; omega
    rw [← two_cast, h]; omega
  have hPn : ((2 ^ (64 - b) : Nat) : Int) = (2 : Int) ^ (64 - b) := two_cast _
  have hP0 : (0 : Int) < 2 ^ (64 - b) := two_pos _
  have hC0 : (0 : Int) < 2 ^ b := two_pos _
  have pN : 2 ^ (64 - b) * 2 ^ b = 18446744073709551616 := by
    rw [← Nat.pow_add, show 64 - b + b = 64 by omega]
  generalize hPe : (2 : Int) ^ (64 - b) = P at *
  generalize hCe : (2 : Int) ^ b = C at *
  have hPM : P ≤ 18446744073709551616 := by
    have := Int.mul_le_mul_of_nonneg_left (show 1 ≤ C by omega) (Int.le_of_lt hP0); omega
  -- the divisor, moved up
  have y1 : y * P < 18446744073709551616 := by
    have := Int.mul_lt_mul_of_pos_right hyc hP0; rw [Int.mul_comm C] at this; omega
  have y2 : 9223372036854775808 ≤ y * P := by
    have := Int.mul_le_mul_of_nonneg_right hcy (Int.le_of_lt hP0); rw [Int.mul_comm C, pp, Int.mul_assoc] at this; omega
  have hh0 : 0 ≤ hi * P := Int.mul_nonneg (by omega) (by omega)
  have hhy : hi * P < y * P := Int.mul_lt_mul_of_pos_right h1 hP0
  -- the low word in two parts
  have hlo : lo = C * (lo / C) + lo % C := (Int.mul_ediv_add_emod lo C).symm
  have hc0 := Int.emod_nonneg lo (show C ≠ 0 by omega)
  have hc1 := Int.emod_lt_of_pos lo hC0
  have ha0 : 0 ≤ lo / C := Int.ediv_nonneg l0 (by omega)
  have hcP : lo % C * P < 18446744073709551616 := by
    have := Int.mul_lt_mul_of_pos_right hc1 hP0; rw [Int.mul_comm C] at this; omega
  have hcP0 : 0 ≤ lo % C * P := Int.mul_nonneg hc0 (by omega)
  have hloP : lo * P = lo / C * 18446744073709551616 + lo % C * P := by
    have e : lo * P = (C * (lo / C) + lo % C) * P := by rw [← hlo]
    rw [e, Int.add_mul, Int.mul_comm C, Int.mul_assoc, Int.mul_comm C P, pp]
  have haP : lo / C < P := by
    have : lo / C * C < P * C := by rw [pp]; have := Int.ediv_mul_le lo (show C ≠ 0 by omega); omega
    exact lt_of_mul hC0 this
  have eL : IntKind.u64.wrap (lo * P) = lo % C * P := by rw [wrapU, hloP]; omega
  have eH : IntKind.u64.wrap (hi * P) = hi * P := by rw [wrapU]; omega
  have eY : IntKind.u64.wrap (y * P) = y * P := by rw [wrapU]; omega
  have eU : bits .or .u64 (hi * P) (lo / C) = hi * P + lo / C := by
    have q1 : hi * P = ((hi.toNat * 2 ^ (64 - b) : Nat) : Int) := by
      rw [Int.natCast_mul, hPn, Int.toNat_of_nonneg (by omega)]
    have q2 : lo / C = (((lo / C).toNat : Nat) : Int) := by rw [Int.toNat_of_nonneg ha0]
    rw [q1, q2, or_add _ _ _ (by have := hPn; omega) (by omega) (by omega)]
    rw [Int.natCast_add]
  have eN0 : bits .and .u64 (y * P) 4294967295 = y * P % 4294967296 := by
    have q : y * P = (((y * P).toNat : Nat) : Int) := by rw [Int.toNat_of_nonneg (by omega)]
    rw [q, Mul64.maskN _ (by omega)]; omega
  have eD0 : bits .and .u64 (lo % C * P) 4294967295 = lo % C * P % 4294967296 := by
    have q : lo % C * P = (((lo % C * P).toNat : Nat) : Int) := by rw [Int.toNat_of_nonneg hcP0]
    rw [q, Mul64.maskN _ (by omega)]; omega
  -- all of it, moved up
  have eV : (hi * P + lo / C) * 18446744073709551616 + lo % C * P = (hi * 18446744073709551616 + lo) * P := by
    rw [Int.add_mul, Int.add_mul, hloP, Int.mul_assoc hi, Int.mul_comm P, ← Int.mul_assoc hi]; omega
  have hV : (hi * 18446744073709551616 + lo) * P < y * P * 18446744073709551616 := by
    have q : hi * 18446744073709551616 + lo < y * 18446744073709551616 := by omega
    have := Int.mul_lt_mul_of_pos_right q hP0
    rw [Int.mul_assoc y, Int.mul_comm 18446744073709551616 P, ← Int.mul_assoc y] at this; exact this
  have hu : hi * P + lo / C < y * P := by omega
  have hYn : y * P ≠ 0 := by omega
  have g0 := Int.emod_nonneg ((hi * P + lo / C) * 4294967296 + lo % C * P / 4294967296) hYn
  have g1 := Int.emod_lt_of_pos ((hi * P + lo / C) * 4294967296 + lo % C * P / 4294967296) (show 0 < y * P by omega)
  have g2 := Int.ediv_mul_add_emod ((hi * P + lo / C) * 4294967296 + lo % C * P / 4294967296) (y * P)
  have k0 := Int.emod_nonneg (((hi * P + lo / C) * 4294967296 + lo % C * P / 4294967296) % (y * P) * 4294967296 + lo % C * P % 4294967296) hYn
  have k1 := Int.emod_lt_of_pos (((hi * P + lo / C) * 4294967296 + lo % C * P / 4294967296) % (y * P) * 4294967296 + lo % C * P % 4294967296) (show 0 < y * P by omega)
  have k2 := Int.ediv_mul_add_emod (((hi * P + lo / C) * 4294967296 + lo % C * P / 4294967296) % (y * P) * 4294967296 + lo % C * P % 4294967296) (y * P)
  have F := div64_fin hP0 (by omega) g2 k2 (show lo % C * P = _ by omega) eV k0 k1
  refine ⟨64 - (b : Int), y * P, y * P / 4294967296, y * P % 4294967296, hi * P, hi * P + lo / C, lo % C * P, lo % C * P / 4294967296, lo % C * P % 4294967296, _, _, _, _, _,
    rfl, by omega, by rw [es, hPe]; exact eY, rfl, eN0, by rw [es, hPe]; exact eH, by rw [es2, hCe]; exact eU, by rw [es, hPe]; exact eL, rfl, eD0,
    rest_wrap (by omega) (by omega), rest_wrap (by omega) (by omega), rfl, by omega, by omega, ?_, ?_, kn_mk (by omega) (by omega) (by omega) (by omega) (by omega) (by omega) (by omega) hu, kn_mk (by omega) (by omega) (by omega) (by omega) (by omega) (by omega) ?_ ?_, ?_, ?_⟩
  · exact ⟨g0, by omega⟩
  · exact ⟨k0, by omega⟩
  · exact g0
  · exact g1
  · exact F.1
  · rw [es, hPe]; exact F.2

end Go.Proofs.Ytjhkflkffbdafaa
