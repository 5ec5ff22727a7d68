/- The walks of the statements of layer twig: for every input each returns true, and nothing that was there before is changed. -/
import Derived.Test.YtemfgiogecgdgaaTwRef
import Derived.OpenShut
namespace Go.Proofs.Ytemfgiogecgdgaa
set_option linter.unusedVariables false
open Go.RowKit

theorem int_bd {a : Int} (h : (Lit.int .i64 a).wf = true) : -9223372036854775808 ≤ a ∧ a ≤ 9223372036854775807 := by
  have := bounds_i64 h; omega

theorem tw_ex : loN 3 5 = 2 ∧ hiN 3 5 = 3 ∧ endB 3 5 = true ∧ logN 5 = 2 ∧ logB 5 = true ∧ leafN 3 6 = 14 ∧ leafB 3 6 = true ∧ meetN 10 12 = 1 ∧ meetB 10 12 = true := by decide

set_option maxHeartbeats 400000 in
theorem alive_any (w : World) : Calls Try.prog 19 #[] w fun e w' => e = .returned (.bool true) ∧ w = w' := by
  obtain ⟨x1, x2, x3, x4, x5, x6, x7, x8, x9⟩ := tw_ex
  go_enter Try.func19, Try.ntmps19
  go_wp2_with (first
    | (go_at_call 15; refine (ends_any _ _ _ (by omega) (by omega) (by omega) (by omega)).mono ?_; rintro e w1 ⟨rfl, rfl⟩)
    | (go_at_call 13; refine (depth_any _ _ (by omega) (by omega)).mono ?_; rintro e w1 ⟨rfl, rfl⟩)
    | (go_at_call 9; refine (leaf_any _ _ _ (by omega) (by omega) (by omega) (by omega)).mono ?_; rintro e w1 ⟨rfl, rfl⟩)
    | (go_at_call 26; refine (meet_any _ _ _ (by omega) (by omega) (by omega) (by omega)).mono ?_; rintro e w1 ⟨rfl, rfl⟩))
  go_ret
  exact ⟨rfl, rfl⟩

set_option maxHeartbeats 800000 in
theorem walk_twigTells (l id x : Int) (L0 : -9223372036854775808 ≤ l) (L1 : l ≤ 9223372036854775807) (N0 : -9223372036854775808 ≤ id) (N1 : id ≤ 9223372036854775807) (X0 : -9223372036854775808 ≤ x) (X1 : x ≤ 9223372036854775807) (w : World) :
    Calls Try.prog 3 #[.int .i64 l, .int .i64 id, .int .i64 x] w fun e w' => e = .returned (.bool true) ∧ Below w.heap.size w w' := by
  go_enter Try.func3, Try.ntmps3
  go_wp2_with (first
    | (go_at_call 9; refine (leaf_any _ _ _ L0 L1 X0 X1).mono ?_; rintro e w1 ⟨rfl, rfl⟩)
    | (go_at_call 10; refine (rleaf_any _ _ _ L0 L1 X0 X1).mono ?_; rintro e w1 ⟨rfl, rfl⟩)
    | (go_at_call 11; refine (value_any _ _ _ L0 L1 N0 N1).mono ?_; rintro e w1 ⟨rfl, rfl⟩)
    | (go_at_call 12; refine (rvalue_any _ _ _ L0 L1 N0 N1).mono ?_; rintro e w1 ⟨rfl, rfl⟩)
    | (go_at_call 13; refine (depth_any _ _ N0 N1).mono ?_; rintro e w1 ⟨rfl, rfl⟩)
    | (go_at_call 14; refine (rdepth_any _ _ N0 N1).mono ?_; rintro e w1 ⟨rfl, rfl⟩)
    | (go_at_call 15; refine (ends_any _ _ _ L0 L1 N0 N1).mono ?_; rintro e w1 ⟨rfl, rfl⟩)
    | (go_at_call 16; refine (rends_any _ _ _ L0 L1 N0 N1).mono ?_; rintro e w1 ⟨rfl, rfl⟩)
    | (go_at_call 17; refine (right_any _ _ _ L0 L1 N0 N1).mono ?_; rintro e w1 ⟨rfl, rfl⟩)
    | (go_at_call 18; refine (rright_any _ _ _ L0 L1 N0 N1).mono ?_; rintro e w1 ⟨rfl, rfl⟩)
    | (go_at_call 19; refine (alive_any _).mono ?_; rintro e w1 ⟨rfl, rfl⟩))
  go_ret
  exact ⟨rfl, Below.refl _ _⟩

set_option maxHeartbeats 800000 in
theorem walk_twigSteps (l id b : Int) (L0 : -9223372036854775808 ≤ l) (L1 : l ≤ 9223372036854775807) (N0 : -9223372036854775808 ≤ id) (N1 : id ≤ 9223372036854775807) (X0 : -9223372036854775808 ≤ b) (X1 : b ≤ 9223372036854775807) (w : World) :
    Calls Try.prog 4 #[.int .i64 l, .int .i64 id, .int .i64 b] w fun e w' => e = .returned (.bool true) ∧ Below w.heap.size w w' := by
  go_enter Try.func4, Try.ntmps4
  go_wp2_with (first
    | (go_at_call 20; refine (tUp_any _ _ _ N0 N1 X0 X1).mono ?_; rintro e w1 ⟨rfl, rfl⟩)
    | (go_at_call 21; refine (rtUp_any _ _ _ N0 N1 X0 X1).mono ?_; rintro e w1 ⟨rfl, rfl⟩)
    | (go_at_call 22; refine (pair_any _ _ N0 N1).mono ?_; rintro e w1 ⟨rfl, rfl⟩)
    | (go_at_call 23; refine (rpair_any _ _ N0 N1).mono ?_; rintro e w1 ⟨rfl, rfl⟩)
    | (go_at_call 24; refine (kids_any _ _ _ L0 L1 N0 N1).mono ?_; rintro e w1 ⟨rfl, rfl⟩)
    | (go_at_call 25; refine (rkids_any _ _ _ L0 L1 N0 N1).mono ?_; rintro e w1 ⟨rfl, rfl⟩)
    | (go_at_call 19; refine (alive_any _).mono ?_; rintro e w1 ⟨rfl, rfl⟩))
  go_ret
  exact ⟨rfl, Below.refl _ _⟩

set_option maxHeartbeats 800000 in
theorem walk_twigMeets (a b : Int) (N0 : -9223372036854775808 ≤ a) (N1 : a ≤ 9223372036854775807) (X0 : -9223372036854775808 ≤ b) (X1 : b ≤ 9223372036854775807) (w : World) :
    Calls Try.prog 5 #[.int .i64 a, .int .i64 b] w fun e w' => e = .returned (.bool true) ∧ Below w.heap.size w w' := by
  go_enter Try.func5, Try.ntmps5
  go_wp2_with (first
    | (go_at_call 26; refine (meet_any _ _ _ N0 N1 X0 X1).mono ?_; rintro e w1 ⟨rfl, rfl⟩)
    | (go_at_call 27; refine (rmeet_any _ _ _ N0 N1 X0 X1).mono ?_; rintro e w1 ⟨rfl, rfl⟩)
    | (go_at_call 28; refine (above_any _ _ _ N0 N1 X0 X1).mono ?_; rintro e w1 ⟨rfl, rfl⟩)
    | (go_at_call 29; refine (rabove_any _ _ _ N0 N1 X0 X1).mono ?_; rintro e w1 ⟨rfl, rfl⟩)
    | (go_at_call 19; refine (alive_any _).mono ?_; rintro e w1 ⟨rfl, rfl⟩))
  go_ret
  exact ⟨rfl, Below.refl _ _⟩

set_option maxHeartbeats 800000 in
theorem walk_twigMoves (id b d : Int) (N0 : -9223372036854775808 ≤ id) (N1 : id ≤ 9223372036854775807) (X0 : -9223372036854775808 ≤ b) (X1 : b ≤ 9223372036854775807) (D0 : -9223372036854775808 ≤ d) (D1 : d ≤ 9223372036854775807) (w : World) :
    Calls Try.prog 6 #[.int .i64 id, .int .i64 b, .int .i64 d] w fun e w' => e = .returned (.bool true) ∧ Below w.heap.size w w' := by
  go_enter Try.func6, Try.ntmps6
  go_wp2_with fail
  refine (gra_any _ _ _ N0 N1 X0 X1).mono ?_
  rintro e w1 ⟨rfl, G1⟩
  go_wp2_with (first
    | (go_at_call 31; refine (rgra_any _ _ _ N0 N1 X0 X1).mono ?_; rintro e w2 ⟨rfl, rfl⟩)
    | (go_at_call 32; refine (pru_any _ _ _ N0 N1 D0 D1).mono ?_; rintro e w2 ⟨rfl, rfl⟩)
    | (go_at_call 33; refine (rpru_any _ _ _ N0 N1 D0 D1).mono ?_; rintro e w2 ⟨rfl, rfl⟩)
    | (go_at_call 19; refine (alive_any _).mono ?_; rintro e w2 ⟨rfl, rfl⟩))
  go_ret
  exact ⟨rfl, G1⟩

end Go.Proofs.Ytemfgiogecgdgaa
