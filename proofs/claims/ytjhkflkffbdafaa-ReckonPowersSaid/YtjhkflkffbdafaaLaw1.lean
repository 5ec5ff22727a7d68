/- The walks of the statements of layer reckon, part 1: ReckonSums, ReckonProducts, ReckonParts, ReckonShares, ReckonOrders: for every input each returns true, and nothing that was there before is changed. -/
import Derived.Test.YtjhkflkffbdafaaRec3
import Derived.OpenShut
namespace Go.Proofs.Ytjhkflkffbdafaa
set_option linter.unusedVariables false
open Go.RowKit

theorem int_bd {a : Int} (h : (Lit.int .i64 a).wf = true) : -9223372036854775808 ≤ a ∧ a ≤ 9223372036854775807 := by
  have := bounds_i64 h; omega

/-- what a statement's walk says -/
def IsTrue (w w' : World) (e : Ending) : Prop := e = .returned (.bool true) ∧ Below w.heap.size w w'

set_option maxHeartbeats 800000 in
theorem walk_reckonSums (a b : Int) (A0 : -9223372036854775808 ≤ a) (A1 : a ≤ 9223372036854775807) (B0 : -9223372036854775808 ≤ b) (B1 : b ≤ 9223372036854775807) (w : World) :
    Calls Try.prog 3 #[.int .i64 a, .int .i64 b] w fun e w' => e = .returned (.bool true) ∧ Below w.heap.size w w' := by
  go_enter Try.func3, Try.ntmps3
  go_wp2_with fail
  refine (add_any _ _ _ A0 A1 B0 B1).mono ?_
  rintro e w1 ⟨rfl, G1⟩
  go_wp2_with fail
  refine (radd_any _ _ _ A0 A1 B0 B1).mono ?_
  rintro e w2 ⟨rfl, G2⟩
  go_wp2_with fail
  refine (sub_any _ _ _ A0 A1 B0 B1).mono ?_
  rintro e w3 ⟨rfl, G3⟩
  go_wp2_with fail
  refine (rsub_any _ _ _ A0 A1 B0 B1).mono ?_
  rintro e w4 ⟨rfl, G4⟩
  go_wp2_with fail
  refine (alive_any _).mono ?_
  rintro e w5 ⟨rfl, G5⟩
  go_wp2_with fail
  go_ret
  have z1 := G1.size
  have z2 := G2.size
  have z3 := G3.size
  have z4 := G4.size
  exact ⟨rfl, (((G1.trans (G2.mono z1)).trans (G3.mono (by omega))).trans (G4.mono (by omega))).trans (G5.mono (by omega))⟩


set_option maxHeartbeats 800000 in
theorem walk_reckonProducts (a b : Int) (A0 : -9223372036854775808 ≤ a) (A1 : a ≤ 9223372036854775807) (B0 : -9223372036854775808 ≤ b) (B1 : b ≤ 9223372036854775807) (w : World) :
    Calls Try.prog 4 #[.int .i64 a, .int .i64 b] w fun e w' => e = .returned (.bool true) ∧ Below w.heap.size w w' := by
  go_enter Try.func4, Try.ntmps4
  go_wp2_with fail
  refine (mul_any _ _ _ A0 A1 B0 B1).mono ?_
  rintro e w1 ⟨rfl, G1⟩
  go_wp2_with fail
  refine (rmul_any _ _ _ A0 A1 B0 B1).mono ?_
  rintro e w2 ⟨rfl, G2⟩
  go_wp2_with fail
  refine (alive_any _).mono ?_
  rintro e w3 ⟨rfl, G3⟩
  go_wp2_with fail
  go_ret
  have z1 := G1.size
  have z2 := G2.size
  exact ⟨rfl, ((G1.trans (G2.mono (by omega))).trans (G3.mono (by omega)))⟩

set_option maxHeartbeats 800000 in
theorem walk_reckonParts (a b : Int) (A0 : -9223372036854775808 ≤ a) (A1 : a ≤ 9223372036854775807) (B0 : -9223372036854775808 ≤ b) (B1 : b ≤ 9223372036854775807) (w : World) :
    Calls Try.prog 5 #[.int .i64 a, .int .i64 b] w fun e w' => e = .returned (.bool true) ∧ Below w.heap.size w w' := by
  go_enter Try.func5, Try.ntmps5
  go_wp2_with fail
  refine (div_any _ _ _ A0 A1 B0 B1).mono ?_
  rintro e w1 ⟨rfl, rfl⟩
  go_wp2_with fail
  refine (rdiv_any _ _ _ A0 A1 B0 B1).mono ?_
  rintro e w2 ⟨rfl, G2⟩
  go_wp2_with fail
  refine (up_any _ _ _ A0 A1 B0 B1).mono ?_
  rintro e w3 ⟨rfl, rfl⟩
  go_wp2_with fail
  refine (rup_any _ _ _ A0 A1 B0 B1).mono ?_
  rintro e w4 ⟨rfl, G4⟩
  go_wp2_with fail
  refine (alive_any _).mono ?_
  rintro e w5 ⟨rfl, G5⟩
  go_wp2_with fail
  go_ret
  have z2 := G2.size
  have z4 := G4.size
  exact ⟨rfl, ((G2.trans (G4.mono (by omega))).trans (G5.mono (by omega)))⟩

set_option maxHeartbeats 800000 in
theorem walk_reckonShares (n m d : Int) (N0 : -9223372036854775808 ≤ n) (N1 : n ≤ 9223372036854775807) (M0 : -9223372036854775808 ≤ m) (M1 : m ≤ 9223372036854775807) (D0 : -9223372036854775808 ≤ d) (D1 : d ≤ 9223372036854775807) (w : World) :
    Calls Try.prog 6 #[.int .i64 n, .int .i64 m, .int .i64 d] w fun e w' => e = .returned (.bool true) ∧ Below w.heap.size w w' := by
  go_enter Try.func6, Try.ntmps6
  go_wp2_with fail
  refine (part_any _ _ _ _ N0 N1 M0 M1 D0 D1).mono ?_
  rintro e w1 ⟨rfl, G1⟩
  go_wp2_with fail
  refine (rpart_any _ _ _ _ N0 N1 M0 M1 D0 D1).mono ?_
  rintro e w2 ⟨rfl, G2⟩
  go_wp2_with fail
  refine (partUp_any _ _ _ _ N0 N1 M0 M1 D0 D1).mono ?_
  rintro e w3 ⟨rfl, G3⟩
  go_wp2_with fail
  refine (rpartUp_any _ _ _ _ N0 N1 M0 M1 D0 D1).mono ?_
  rintro e w4 ⟨rfl, G4⟩
  go_wp2_with fail
  refine (alive_any _).mono ?_
  rintro e w5 ⟨rfl, G5⟩
  go_wp2_with fail
  go_ret
  have z1 := G1.size
  have z2 := G2.size
  have z3 := G3.size
  have z4 := G4.size
  exact ⟨rfl, ((((G1.trans (G2.mono (by omega))).trans (G3.mono (by omega))).trans (G4.mono (by omega))).trans (G5.mono (by omega)))⟩

set_option maxHeartbeats 800000 in
theorem walk_reckonOrders (a b c d : Int) (A0 : -9223372036854775808 ≤ a) (A1 : a ≤ 9223372036854775807) (B0 : -9223372036854775808 ≤ b) (B1 : b ≤ 9223372036854775807) (C0 : -9223372036854775808 ≤ c) (C1 : c ≤ 9223372036854775807) (D0 : -9223372036854775808 ≤ d) (D1 : d ≤ 9223372036854775807) (w : World) :
    Calls Try.prog 7 #[.agg #[.int .i64 a, .int .i64 b, .int .i64 c, .int .i64 d]] w fun e w' => e = .returned (.bool true) ∧ Below w.heap.size w w' := by
  go_enter Try.func7, Try.ntmps7
  go_wp2_with fail
  refine (order_any _ _ _ _ _ A0 A1 B0 B1 C0 C1 D0 D1).mono ?_
  rintro e w1 ⟨rfl, G1⟩
  have c0 : w1.cell? ⟨w.heap.size, 0, none⟩ = some (.int .i64 a) := (G1.cell (p := ⟨w.heap.size, 0, none⟩) (by simp)).trans (by rw [World.cell?_alloc_at _ _ _ _ rfl]; rfl)
  have c1 : w1.cell? ⟨w.heap.size, 1, none⟩ = some (.int .i64 b) := (G1.cell (p := ⟨w.heap.size, 1, none⟩) (by simp)).trans (by rw [World.cell?_alloc_at _ _ _ _ rfl]; rfl)
  have c2 : w1.cell? ⟨w.heap.size, 2, none⟩ = some (.int .i64 c) := (G1.cell (p := ⟨w.heap.size, 2, none⟩) (by simp)).trans (by rw [World.cell?_alloc_at _ _ _ _ rfl]; rfl)
  have c3 : w1.cell? ⟨w.heap.size, 3, none⟩ = some (.int .i64 d) := (G1.cell (p := ⟨w.heap.size, 3, none⟩) (by simp)).trans (by rw [World.cell?_alloc_at _ _ _ _ rfl]; rfl)
  go_wp2_with fail
  refine (rord_any _ _ _ _ _ A0 A1 B0 B1 C0 C1 D0 D1).mono ?_
  rintro e w2 ⟨rfl, G2⟩
  go_wp2_with fail
  refine (alive_any _).mono ?_
  rintro e w3 ⟨rfl, G3⟩
  go_wp2_with fail
  go_ret
  have z1 := G1.size
  simp at z1
  have z2 := G2.size
  exact ⟨rfl, (((below_one w _).trans (G1.mono (by simp))).trans (G2.mono (by omega))).trans (G3.mono (by omega))⟩

end Go.Proofs.Ytjhkflkffbdafaa
