/- The library's bits.Div64 for every high word less than the divisor: it returns the quotient and the rest of the number of two words. -/
import Derived.Test.YtjhkflkffbdafaaDiv
import Derived.Test.YtjhkflkffbdafaaDivNums
import Derived.Deep.QuietTactic
import Derived.BigQuiet
namespace Go.Proofs.Ytjhkflkffbdafaa
set_option linter.unusedVariables false
open Go.RowKit

set_option maxHeartbeats 800000 in
theorem div64_any (hi lo y : Int) (w : World) (h0 : 0 ≤ hi) (h1 : hi < y) (h2 : y ≤ 18446744073709551615) (l0 : 0 ≤ lo) (l1 : lo ≤ 18446744073709551615) :
    Calls Try.prog 51 #[.int .u64 hi, .int .u64 lo, .int .u64 y] w fun e w' =>
      e = .returned (.tuple #[.int .u64 ((hi * 18446744073709551616 + lo) / y), .int .u64 ((hi * 18446744073709551616 + lo) % y)]) ∧ ∃ n, w' = w.drewN n := by
  by_cases hz : hi = 0
  · subst hz
    have hyh : ¬ y ≤ 0 := by omega
    have q1 : IntKind.u64.wrap (lo.tdiv y) = lo / y := by
      rw [Int.tdiv_eq_ediv_of_nonneg l0, wrapU]
      have := Int.ediv_nonneg l0 (show 0 ≤ y by omega); have := Int.ediv_le_self y l0; omega
    have e : (0 : Int) * 18446744073709551616 + lo = lo := by omega
    rw [e]
    clear e
    go_enter Try.func51, Try.ntmps51
    go_wp2_with fail
    go_quiet (fail)
    all_goals go_wp2_with fail
    go_ret2
    exact ⟨rfl, _, rfl⟩
  · obtain ⟨s, Y, n1, n0, H, u, L, d1, d0, t1, r1, t2, r2, rem, es, ⟨s0, s1⟩, e1, e2, e3, e4, e5, e6, e7, e8, e9, e10, e11, n1b, ub, ⟨r1a, r1b⟩, ⟨r2a, r2b⟩, K1, K2, eq, er⟩ := div64_nums hi lo y (by omega) h1 h2 l0 l1
    rw [← eq, ← er]
    refine (div64_core hi lo y s Y n1 n0 H u L d1 d0 t1 r1 t2 r2 rem w (by omega) h1 h2 l0 l1 s0 s1 ?_ e1 e2 e3 e4 e5 e6 e7 e8 e9 e10 e11 K1.a1 n1b K1.b0 K1.b1 K1.u0 ub K1.d0 K1.d1 K2.d0 K2.d1 K1.t0 K1.lt K2.t0 K2.lt r1a r1b r2a r2b K1 K2).mono ?_
    · intro w
      rw [es]
      exact (Try.bits_LeadingZeros64 y w (by omega) (by omega)).mono fun e w' h => ⟨h.1, h.2.symm⟩
    · rintro e w' ⟨rfl, rfl⟩
      exact ⟨rfl, 0, rfl⟩

end Go.Proofs.Ytjhkflkffbdafaa
