/- The project's package sample: what an interface value holds, asked by assertions and by a type switch; each call answers what the plain numbers say; nothing that was there before is changed. -/
import Derived.Test.YtondnligmagomaaSm
namespace Go.Proofs.Ytondnligmagomaa
set_option linter.unusedVariables false
open Go.RowKit

theorem asI_yes (v : Value) (w : World) : (Instr.typeAssert (.iface 3 v) 20 3 true).run Try.prog w = .ok (.tuple #[v, .bool true]) w := by kernel_rfl
theorem asI_bare (v : Value) (w : World) : (Instr.typeAssert (.iface 3 v) 20 3 false).run Try.prog w = .ok v w := by kernel_rfl
theorem asP_yes (v : Value) (w : World) : (Instr.typeAssert (.iface 27 v) 20 27 true).run Try.prog w = .ok (.tuple #[v, .bool true]) w := by kernel_rfl
theorem asC_yes (v : Value) (w : World) : (Instr.typeAssert (.iface 38 v) 20 38 true).run Try.prog w = .ok (.tuple #[v, .bool true]) w := by kernel_rfl
theorem asR_yes (v : Value) (w : World) : (Instr.typeAssert (.iface 23 v) 20 23 true).run Try.prog w = .ok (.tuple #[v, .bool true]) w := by kernel_rfl
theorem zI (w : World) : (do pure (Value.tuple #[← zeroValue 3, .bool false]) : Sem Value).run Try.prog w = .ok (.tuple #[.int .i64 0, .bool false]) w := by kernel_rfl
theorem zP (w : World) : (do pure (Value.tuple #[← zeroValue 27, .bool false]) : Sem Value).run Try.prog w = .ok (.tuple #[.agg #[.int .i64 0, .int .i64 0], .bool false]) w := by kernel_rfl
theorem zC (w : World) : (do pure (Value.tuple #[← zeroValue 38, .bool false]) : Sem Value).run Try.prog w = .ok (.tuple #[.complex .f64 0 0, .bool false]) w := by kernel_rfl
theorem zR (w : World) : (do pure (Value.tuple #[← zeroValue 23, .bool false]) : Sem Value).run Try.prog w = .ok (.tuple #[.agg #[.int .i64 0, .int .i64 0], .bool false]) w := by kernel_rfl
theorem asI_no (u : TypeId) (v : Value) (w : World) (h : u ≠ 3) : (Instr.typeAssert (.iface u v) 20 3 true).run Try.prog w = .ok (.tuple #[.int .i64 0, .bool false]) w := by
  have e : (Instr.typeAssert (.iface u v) 20 3 true).run Try.prog w = (if u = 3 then (pure (Value.tuple #[v, .bool true]) : Sem Value) else (do pure (Value.tuple #[← zeroValue 3, .bool false]))).run Try.prog w := by kernel_rfl
  rw [e, if_neg h]; exact zI w
theorem asP_no (u : TypeId) (v : Value) (w : World) (h : u ≠ 27) : (Instr.typeAssert (.iface u v) 20 27 true).run Try.prog w = .ok (.tuple #[.agg #[.int .i64 0, .int .i64 0], .bool false]) w := by
  have e : (Instr.typeAssert (.iface u v) 20 27 true).run Try.prog w = (if u = 27 then (pure (Value.tuple #[v, .bool true]) : Sem Value) else (do pure (Value.tuple #[← zeroValue 27, .bool false]))).run Try.prog w := by kernel_rfl
  rw [e, if_neg h]; exact zP w
theorem asC_no (u : TypeId) (v : Value) (w : World) (h : u ≠ 38) : (Instr.typeAssert (.iface u v) 20 38 true).run Try.prog w = .ok (.tuple #[.complex .f64 0 0, .bool false]) w := by
  have e : (Instr.typeAssert (.iface u v) 20 38 true).run Try.prog w = (if u = 38 then (pure (Value.tuple #[v, .bool true]) : Sem Value) else (do pure (Value.tuple #[← zeroValue 38, .bool false]))).run Try.prog w := by kernel_rfl
  rw [e, if_neg h]; exact zC w
theorem asR_no (u : TypeId) (v : Value) (w : World) (h : u ≠ 23) : (Instr.typeAssert (.iface u v) 20 23 true).run Try.prog w = .ok (.tuple #[.agg #[.int .i64 0, .int .i64 0], .bool false]) w := by
  have e : (Instr.typeAssert (.iface u v) 20 23 true).run Try.prog w = (if u = 23 then (pure (Value.tuple #[v, .bool true]) : Sem Value) else (do pure (Value.tuple #[← zeroValue 23, .bool false]))).run Try.prog w := by kernel_rfl
  rw [e, if_neg h]; exact zR w
theorem asI_nil (w : World) : (Instr.typeAssert .nilIface 20 3 true).run Try.prog w = .ok (.tuple #[.int .i64 0, .bool false]) w := by kernel_rfl
theorem asP_nil (w : World) : (Instr.typeAssert .nilIface 20 27 true).run Try.prog w = .ok (.tuple #[.agg #[.int .i64 0, .int .i64 0], .bool false]) w := by kernel_rfl
theorem asC_nil (w : World) : (Instr.typeAssert .nilIface 20 38 true).run Try.prog w = .ok (.tuple #[.complex .f64 0 0, .bool false]) w := by kernel_rfl
theorem asR_nil (w : World) : (Instr.typeAssert .nilIface 20 23 true).run Try.prog w = .ok (.tuple #[.agg #[.int .i64 0, .int .i64 0], .bool false]) w := by kernel_rfl

/-- an interface value that holds none of the four types -/
def Strange (v : Value) : Prop := v = .nilIface ∨ ∃ u x, v = .iface u x ∧ u ≠ 3 ∧ u ≠ 27 ∧ u ≠ 38 ∧ u ≠ 23
theorem strange_facts {v : Value} (h : Strange v) :
    (∀ w, (Instr.typeAssert v 20 3 true).run Try.prog w = .ok (.tuple #[.int .i64 0, .bool false]) w) ∧
    (∀ w, (Instr.typeAssert v 20 27 true).run Try.prog w = .ok (.tuple #[.agg #[.int .i64 0, .int .i64 0], .bool false]) w) ∧
    (∀ w, (Instr.typeAssert v 20 38 true).run Try.prog w = .ok (.tuple #[.complex .f64 0 0, .bool false]) w) ∧
    (∀ w, (Instr.typeAssert v 20 23 true).run Try.prog w = .ok (.tuple #[.agg #[.int .i64 0, .int .i64 0], .bool false]) w) := by
  rcases h with rfl | ⟨u, x, rfl, h1, h2, h3, h4⟩
  · exact ⟨asI_nil, asP_nil, asC_nil, asR_nil⟩
  · exact ⟨fun w => asI_no u x w h1, fun w => asP_no u x w h2, fun w => asC_no u x w h3, fun w => asR_no u x w h4⟩

theorem smKind_int (v : Value) (w : World) : Calls Try.prog 10 #[.iface 3 v] w fun e w' => e = .returned (.int .i64 1) ∧ w = w' := by
  have h1 := asI_yes v
  go_enter Try.func10, Try.ntmps10
  go_wp2_with fail
  go_ret
  exact ⟨rfl, rfl⟩
theorem smKind_pair (v : Value) (w : World) : Calls Try.prog 10 #[.iface 27 v] w fun e w' => e = .returned (.int .i64 2) ∧ w = w' := by
  have h1 := fun w => asI_no 27 v w (by decide)
  have h2 := asP_yes v
  go_enter Try.func10, Try.ntmps10
  go_wp2_with fail
  go_ret
  exact ⟨rfl, rfl⟩
theorem smKind_none (v : Value) (w : World) (h : Strange v) : Calls Try.prog 10 #[v] w fun e w' => e = .returned (.int .i64 0) ∧ w = w' := by
  obtain ⟨h1, h2, h3, h4⟩ := strange_facts h
  clear h
  go_enter Try.func10, Try.ntmps10
  go_wp2_with fail
  go_ret
  exact ⟨rfl, rfl⟩
theorem smExact_int (v : Value) (w : World) : Calls Try.prog 12 #[.iface 3 v] w fun e w' => e = .returned v ∧ w = w' := by
  have h1 := asI_bare v
  go_enter Try.func12, Try.ntmps12
  go_wp2_with fail
  go_ret
  exact ⟨rfl, rfl⟩
/-- what a held value is, as a reading -/
def HeldAs (v : Value) (a b : Int) (ok : Bool) : Prop := ∀ w, Calls Try.prog 18 #[v] w fun e w' => e = .returned (.tuple #[.agg #[.int .i64 a, .int .i64 b], .bool ok]) ∧ Below w.heap.size w w'
set_option maxHeartbeats 400000 in
theorem held_int (n : Int) : HeldAs (.iface 3 (.int .i64 n)) n 1 true := by
  intro w
  have h1 := asI_yes (.int .i64 n)
  go_enter Try.func18, Try.ntmps18
  go_wp2_with fail
  exact bodyPost_ret (v := .tuple #[.agg #[.int .i64 n, .int .i64 1], .bool true]) (by simp [results, Try.results18, go_sem]) rfl ⟨rfl, (Below.refl _ _).alloc (Nat.le_refl _) _⟩
set_option maxHeartbeats 400000 in
theorem held_pair (a b : Int) : HeldAs (.iface 27 (.agg #[.int .i64 a, .int .i64 b])) a b true := by
  intro w
  have h1 := fun w => asI_no 27 (.agg #[.int .i64 a, .int .i64 b]) w (by decide)
  have h2 := asP_yes (.agg #[.int .i64 a, .int .i64 b])
  go_enter Try.func18, Try.ntmps18
  go_wp2_with fail
  exact bodyPost_ret (v := .tuple #[.agg #[.int .i64 a, .int .i64 b], .bool true]) (by simp [results, Try.results18, go_sem]) rfl ⟨rfl, ((Below.refl _ _).alloc (Nat.le_refl _) _).alloc (by simp) _⟩
set_option maxHeartbeats 400000 in
theorem held_reading (a b : Int) : HeldAs (.iface 23 (.agg #[.int .i64 a, .int .i64 b])) a b true := by
  intro w
  have h1 := fun w => asI_no 23 (.agg #[.int .i64 a, .int .i64 b]) w (by decide)
  have h2 := fun w => asP_no 23 (.agg #[.int .i64 a, .int .i64 b]) w (by decide)
  have h3 := fun w => asC_no 23 (.agg #[.int .i64 a, .int .i64 b]) w (by decide)
  have h4 := asR_yes (.agg #[.int .i64 a, .int .i64 b])
  go_enter Try.func18, Try.ntmps18
  go_wp2_with fail
  exact bodyPost_ret (v := .tuple #[.agg #[.int .i64 a, .int .i64 b], .bool true]) (by simp [results, Try.results18, go_sem]) rfl ⟨rfl, (((Below.refl _ _).alloc (Nat.le_refl _) _).alloc (by simp) _).alloc (by simp; omega) _⟩
set_option maxHeartbeats 400000 in
theorem held_strange (v : Value) (h : Strange v) : HeldAs v 0 0 false := by
  intro w
  obtain ⟨h1, h2, h3, h4⟩ := strange_facts h
  clear h
  go_enter Try.func18, Try.ntmps18
  go_wp2_with fail
  exact bodyPost_ret (v := .tuple #[.agg #[.int .i64 0, .int .i64 0], .bool false]) (by simp [results, Try.results18, go_sem]) rfl ⟨rfl, (((Below.refl _ _).alloc (Nat.le_refl _) _).alloc (by simp) _).alloc (by simp; omega) _⟩

end Go.Proofs.Ytondnligmagomaa
