/- The document's answer for layer twig: each call answers what the plain numbers say, and nothing that was there before is changed. -/
import Derived.Test.YtfleaaokbjgljaaTw
namespace Go.Proofs.Ytfleaaokbjgljaa
set_option linter.unusedVariables false
open Go.RowKit

set_option maxHeartbeats 400000 in
theorem rpower_any (n : Int) (w : World) (h1 : 0 ≤ n) (h2 : n ≤ 62) :
    Calls Try.prog 35 #[.int .i64 n] w fun e w' => e = .returned (.int .i64 (2 ^ n.toNat)) ∧ w = w' := by
  go_enter Try.func35, Try.ntmps35
  go_wp2_with fail
  go_loop [3, 4] (fun nv iv => ∃ (p : Int) (i : Nat), nv = .int .i64 p ∧ iv = .int .i64 i ∧ (i : Int) ≤ n ∧ 1 ≤ p ∧ Hid (p = 2 ^ i)) (fun _ iv => (n - intOf iv).toNat)
  case atStart => exact ⟨1, 0, rfl, rfl, h1, by decide, by show _ = _; rfl⟩
  case round =>
    obtain ⟨p, i, rfl, rfl, i1, p0, HP⟩ := hrel
    by_cases hi : (i : Int) < n
    · have b1 : p ≤ 2305843009213693952 := by rw [HP.out]; exact two_le i 61 (by omega)
      have HN : Hid (2 * p = 2 ^ (i + 1)) := by show _ = _; rw [two_succ, ← HP.out]
      go_wp2_with fail
      go_round
      case rel => exact ⟨2 * p, i + 1, by go_num, by go_num, by omega, by omega, HN.out⟩
      case measure => simp [intOf]; omega
    · have HF : Hid (2 ^ n.toNat = p) := by
        have e2 : i = n.toNat := by omega
        show _ = _; rw [HP.out, e2]
      go_wp2_with fail
      go_ret
      exact ⟨by rw [HF.out]; rfl, rfl⟩

end Go.Proofs.Ytfleaaokbjgljaa
