/- The library's bits.Div64, from its own text: where the high word is less than the divisor, it returns the quotient and the rest. -/
import Derived.Test.YtjhkflkffbdafaaKnuth
import Derived.Test.YtjhkflkffbdafaaMem
import Derived.Test.YtjhkflkffbdafaaShelf
import Derived.Lib.ItoaNum
import Derived.WalkSpells
import Derived.WalkLawsBesides
import Derived.Lib.Hide
import Derived.Deep.CutBlock
import Derived.Deep.DeepCutAuto
import Derived.Deep.LoopGhost
namespace Go.Proofs.Ytjhkflkffbdafaa
set_option linter.unusedVariables false
open Go.RowKit

set_option maxRecDepth 100000 in
set_option maxHeartbeats 1600000 in
theorem div64_core (hi lo y s Y n1 n0 H u L d1 d0 t1 r1 t2 r2 rem : Int) (w : World) (h0 : 0 < hi) (h1 : hi < y) (h2 : y ≤ 18446744073709551615) (l0 : 0 ≤ lo) (l1 : lo ≤ 18446744073709551615)
    (s0 : 0 ≤ s) (s1 : s ≤ 63)
    (HC : Hid (∀ w, Calls Try.prog 53 #[.int .u64 y] w fun e w' => e = .returned (.int .i64 s) ∧ w = w'))
    (e1 : IntKind.u64.wrap (y * 2 ^ s.toNat) = Y) (e2 : Y / 4294967296 = n1) (e3 : bits .and .u64 Y 4294967295 = n0) (e4 : IntKind.u64.wrap (hi * 2 ^ s.toNat) = H)
    (e5 : bits .or .u64 H (lo / 2 ^ (64 - s).toNat) = u) (e6 : IntKind.u64.wrap (lo * 2 ^ s.toNat) = L) (e7 : L / 4294967296 = d1) (e8 : bits .and .u64 L 4294967295 = d0)
    (e9 : IntKind.u64.wrap (IntKind.u64.wrap (IntKind.u64.wrap (u * 4294967296) + d1) - IntKind.u64.wrap (t1 * Y)) = r1)
    (e10 : IntKind.u64.wrap (IntKind.u64.wrap (IntKind.u64.wrap (r1 * 4294967296) + d0) - IntKind.u64.wrap (t2 * Y)) = r2)
    (e11 : r2 / 2 ^ s.toNat = rem)
    (n1a : 1 ≤ n1) (n1b : n1 ≤ 4294967295) (n0a : 0 ≤ n0) (n0b : n0 ≤ 4294967295) (ua : 0 ≤ u) (ub : u ≤ 18446744073709551615) (d1a : 0 ≤ d1) (d1b : d1 ≤ 4294967295) (d0a : 0 ≤ d0) (d0b : d0 ≤ 4294967295)
    (t1a : 0 ≤ t1) (t1b : t1 ≤ 4294967295) (t2a : 0 ≤ t2) (t2b : t2 ≤ 4294967295) (r1a : 0 ≤ r1) (r1b : r1 ≤ 18446744073709551615) (r2a : 0 ≤ r2) (r2b : r2 ≤ 18446744073709551615)
    (K1 : Hid (Kn n1 n0 u d1 Y t1)) (K2 : Hid (Kn n1 n0 r1 d0 Y t2)) :
    Calls Try.prog 51 #[.int .u64 hi, .int .u64 lo, .int .u64 y] w fun e w' => e = .returned (.tuple #[.int .u64 (t1 * 4294967296 + t2), .int .u64 rem]) ∧ w = w' := by
  have hyh : ¬ y ≤ hi := by omega
  have m0 : 0 ≤ u - u / n1 * n1 ∧ u - u / n1 * n1 ≤ 4294967295 := by
    have := Int.emod_nonneg u (show n1 ≠ 0 by omega); have := Int.emod_lt_of_pos u (show 0 < n1 by omega)
    have e := Int.emod_def u n1; rw [Int.mul_comm n1] at e; omega
  have m1 : 0 ≤ u / n1 ∧ u / n1 ≤ 18446744073709551615 := ⟨Int.ediv_nonneg ua (by omega), Int.le_trans (Int.ediv_le_self n1 ua) ub⟩
  have m2 : 0 ≤ u / n1 * n1 ∧ u / n1 * n1 ≤ 18446744073709551615 := ⟨Int.mul_nonneg m1.1 (by omega), by omega⟩
  go_enter Try.func51, Try.ntmps51
  go_upto_block 0 with (go_at_call 53; refine (HC.out _).mono ?_; rintro e w' ⟨rfl, rfl⟩)
  go_cut [15, 16] (fun q r wx => ∃ r' : Int, q = .int .u64 t1 ∧ r = .int .u64 r' ∧ wx = w)
  case first =>
    have eq : u / n1 * n1 + (u - u / n1 * n1) = u := by omega
    have HG := Lib.hid eq
    have HT := Lib.hid K1.out.guess
    clear eq
    go_wp2_with fail
    go_loopg [15, 16] (u / n1).toNat (fun k qv rv wr => ∃ q r : Int, qv = .int .u64 q ∧ rv = .int .u64 r ∧ 0 ≤ q ∧ q ≤ 18446744073709551615 ∧ 0 ≤ r ∧ r ≤ 4294967295 ∧ q.toNat ≤ k ∧ Hid (q * n1 + r = u) ∧ Hid (t1 ≤ q) ∧ wr = w)
    case atStart => exact ⟨_, _, rfl, rfl, m1.1, m1.2, m0.1, m0.2, by omega, HG.out, HT.out, rfl⟩
    case round =>
      obtain ⟨q, r, rfl, rfl, q0, q1, r0, r1', hk, HQ, HL, rfl⟩ := hrel
      clear HG HT m0 m1 m2
      rcases (show 4294967296 ≤ q ∨ (q ≤ 4294967295 ∧ 4294967296 * r + d1 < q * n0) ∨ (q ≤ 4294967295 ∧ q * n0 ≤ 4294967296 * r + d1) by omega) with h | h | h
      · have HD := Lib.hid (K1.out.down HQ.out HL.out (.inl h))
        have hq1 : 1 ≤ q := by omega
        by_cases hb : 4294967296 ≤ r + n1
        · have HE := Lib.hid (K1.out.brk (Kn.next (n0 := n0) (d := d1) (y := Y) (t := t1) HQ.out) HD.out hb)
          go_wp2_with fail
          go_meet
          exact ⟨r + n1, by rw [HE.out], rfl, rfl⟩
        · have HN := Lib.hid (Kn.next (n0 := n0) (d := d1) (y := Y) (t := t1) HQ.out)
          go_wp2_with fail
          go_roundg (gk - 1)
          case measure => omega
          case rel => exact ⟨q - 1, r + n1, rfl, rfl, by omega, by omega, by omega, by omega, by omega, HN.out, HD.out, rfl⟩
      · have HD := Lib.hid (K1.out.down HQ.out HL.out (.inr h.2))
        have p := Kn.prod n0a n0b q0 h.1
        have hq1 : 1 ≤ q := by have := HD.out; omega
        by_cases hb : 4294967296 ≤ r + n1
        · have HE := Lib.hid (K1.out.brk (Kn.next (n0 := n0) (d := d1) (y := Y) (t := t1) HQ.out) HD.out hb)
          go_wp2_with fail
          go_meet
          exact ⟨r + n1, by rw [HE.out], rfl, rfl⟩
        · have HN := Lib.hid (Kn.next (n0 := n0) (d := d1) (y := Y) (t := t1) HQ.out)
          go_wp2_with fail
          go_roundg (gk - 1)
          case measure => omega
          case rel => exact ⟨q - 1, r + n1, rfl, rfl, by omega, by omega, by omega, by omega, by omega, HN.out, HD.out, rfl⟩
      · have HE := Lib.hid (K1.out.out HQ.out HL.out h.2)
        have p := Kn.prod n0a n0b q0 h.1
        go_wp2_with fail
        go_meet
        exact ⟨r, by rw [HE.out], rfl, rfl⟩
  case rest =>
    obtain ⟨r', rfl, rfl, rfl⟩ := hcut
    clear m0 m1 m2
    have v0 : 0 ≤ r1 - r1 / n1 * n1 ∧ r1 - r1 / n1 * n1 ≤ 4294967295 := by
      have := Int.emod_nonneg r1 (show n1 ≠ 0 by omega); have := Int.emod_lt_of_pos r1 (show 0 < n1 by omega)
      have e := Int.emod_def r1 n1; rw [Int.mul_comm n1] at e; omega
    have v1 : 0 ≤ r1 / n1 ∧ r1 / n1 ≤ 18446744073709551615 := ⟨Int.ediv_nonneg r1a (by omega), Int.le_trans (Int.ediv_le_self n1 r1a) r1b⟩
    have v2 : 0 ≤ r1 / n1 * n1 ∧ r1 / n1 * n1 ≤ 18446744073709551615 := ⟨Int.mul_nonneg v1.1 (by omega), by omega⟩
    go_upto_block 2 with fail
    go_cut [18, 16] (fun q r wx => ∃ r' : Int, q = .int .u64 t2 ∧ r = .int .u64 r' ∧ wx = wc)
    case first =>
      have eq : r1 / n1 * n1 + (r1 - r1 / n1 * n1) = r1 := by omega
      have HG := Lib.hid eq
      have HT := Lib.hid K2.out.guess
      clear eq
      go_wp2_with fail
      go_loopg [18, 16] (r1 / n1).toNat (fun k qv rv wr => ∃ q r : Int, qv = .int .u64 q ∧ rv = .int .u64 r ∧ 0 ≤ q ∧ q ≤ 18446744073709551615 ∧ 0 ≤ r ∧ r ≤ 4294967295 ∧ q.toNat ≤ k ∧ Hid (q * n1 + r = r1) ∧ Hid (t2 ≤ q) ∧ wr = wc)
      case atStart => exact ⟨_, _, rfl, rfl, v1.1, v1.2, v0.1, v0.2, by omega, HG.out, HT.out, rfl⟩
      case round =>
        obtain ⟨q, r, rfl, rfl, q0, q1, r0, r1', hk, HQ, HL, rfl⟩ := hrel
        clear HG HT v0 v1 v2
        rcases (show 4294967296 ≤ q ∨ (q ≤ 4294967295 ∧ 4294967296 * r + d0 < q * n0) ∨ (q ≤ 4294967295 ∧ q * n0 ≤ 4294967296 * r + d0) by omega) with h | h | h
        · have HD := Lib.hid (K2.out.down HQ.out HL.out (.inl h))
          have hq1 : 1 ≤ q := by omega
          by_cases hb : 4294967296 ≤ r + n1
          · have HE := Lib.hid (K2.out.brk (Kn.next (n0 := n0) (d := d0) (y := Y) (t := t2) HQ.out) HD.out hb)
            go_wp2_with fail
            go_meet
            exact ⟨r + n1, by rw [HE.out], rfl, rfl⟩
          · have HN := Lib.hid (Kn.next (n0 := n0) (d := d0) (y := Y) (t := t2) HQ.out)
            go_wp2_with fail
            go_roundg (gk - 1)
            case measure => omega
            case rel => exact ⟨q - 1, r + n1, rfl, rfl, by omega, by omega, by omega, by omega, by omega, HN.out, HD.out, rfl⟩
        · have HD := Lib.hid (K2.out.down HQ.out HL.out (.inr h.2))
          have p := Kn.prod n0a n0b q0 h.1
          have hq1 : 1 ≤ q := by have := HD.out; omega
          by_cases hb : 4294967296 ≤ r + n1
          · have HE := Lib.hid (K2.out.brk (Kn.next (n0 := n0) (d := d0) (y := Y) (t := t2) HQ.out) HD.out hb)
            go_wp2_with fail
            go_meet
            exact ⟨r + n1, by rw [HE.out], rfl, rfl⟩
          · have HN := Lib.hid (Kn.next (n0 := n0) (d := d0) (y := Y) (t := t2) HQ.out)
            go_wp2_with fail
            go_roundg (gk - 1)
            case measure => omega
            case rel => exact ⟨q - 1, r + n1, rfl, rfl, by omega, by omega, by omega, by omega, by omega, HN.out, HD.out, rfl⟩
        · have HE := Lib.hid (K2.out.out HQ.out HL.out h.2)
          have p := Kn.prod n0a n0b q0 h.1
          go_wp2_with fail
          go_meet
          exact ⟨r, by rw [HE.out], rfl, rfl⟩
    case rest =>
      obtain ⟨r'', rfl, rfl, rfl⟩ := hcut
      clear v0 v1 v2
      go_wp2_with fail
      go_ret2
      exact ⟨rfl, rfl⟩

end Go.Proofs.Ytjhkflkffbdafaa
