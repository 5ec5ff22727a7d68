/- The project's package roll: Total, Find, Right, Same. -/
import Derived.Test.YtafkkhjhdfmhpaaRk
import Derived.Test.YtafkkhjhdfmhpaaTw
import Derived.Test.YtafkkhjhdfmhpaaRoNum
import Derived.Test.YtafkkhjhdfmhpaaNdMem
import Derived.Deep.QuietTactic
import Derived.BigQuiet
import Derived.Laws.StructEq
namespace Go.Proofs.Ytafkkhjhdfmhpaa
set_option linter.unusedVariables false
open Go.RowKit

/-- one round more: the box of the round's node, and what was called -/
theorem round_below {W wr w1 : World} {o : Obj} (hb : Below W.heap.size W wr) (hb1 : Below (wr.alloc o).heap.size (wr.alloc o) w1) : Below W.heap.size W w1 :=
  (hb.alloc hb.size _).trans (hb1.mono (by have := hb.size; simp; omega))
def TotPost (L : List Nd) (w : World) (e : Ending) (w' : World) : Prop := e = .returned (.tuple #[.int .i64 (totN L), .bool (totB L)]) ∧ Below w.heap.size w w'
theorem tot_post {L : List Nd} {w w' : World} {n : Int} {b : Bool} (h : totN L = n ∧ totB L = b) (hb : Below w.heap.size w w') : TotPost L w (.returned (.tuple #[.int .i64 n, .bool b])) w' := by
  obtain ⟨rfl, rfl⟩ := h
  exact ⟨rfl, hb⟩
theorem tot_nil : TotC ([] : List Nd) := ⟨fun n h => by simp at h, by simp [sumC]⟩
def FindPost (L : List Nd) (id : Int) (w : World) (e : Ending) (w' : World) : Prop := e = .returned (.int .i64 (findN L id)) ∧ Below w.heap.size w w'
theorem find_post {L : List Nd} {id x : Int} {w w' : World} (h : findN L id = x) (hb : Below w.heap.size w w') : FindPost L id w (.returned (.int .i64 x)) w' := by
  subst h
  exact ⟨rfl, hb⟩
theorem find_step {L : List Nd} {k : Nat} {id : Int} (hk : k < L.length) (h : ∀ n ∈ L.take k, n.1 ≠ id) (he : ¬ (L.getD k nz).1 = id) : ∀ n ∈ L.take (k + 1), n.1 ≠ id := by
  intro n hn
  rw [nd_take hk] at hn
  rcases List.mem_append.1 hn with hn | hn
  · exact h n hn
  · simp only [List.mem_singleton] at hn; subst hn; exact he
def RightPost (l : Int) (L : List Nd) (w : World) (e : Ending) (w' : World) : Prop := e = .returned (.bool (rollB l L)) ∧ Below w.heap.size w w'
theorem right_post {l : Int} {L : List Nd} {b : Bool} {w w' : World} (h : rollB l L = b) (hb : Below w.heap.size w w') : RightPost l L w (.returned (.bool b)) w' := by
  subst h
  exact ⟨rfl, hb⟩
/-- two nodes held against each other -/
theorem run_neq_nodes (i1 x1 i2 x2 : Int) (w : World) : (binOp .neq 47 (.agg #[.int .i64 i1, .int .i64 x1]) (.agg #[.int .i64 i2, .int .i64 x2])).run Try.prog w = .ok (.bool (!(i1 == i2 && x1 == x2))) w := by
  have i3 := fun (a b : Int) (w : World) => run_equalIn_int (P := Try.prog) w 9998 3 .i64 .i64 a b Try.underlying3
  rw [run_neq_struct, run_equalIn_agg _ _ _ _ _ (by kernel_rfl) (by kernel_rfl)]
  unfold Program.fieldsOf
  rw [Try.underlying47]
  have p0 : ∀ (a b : Value) w, (part 3 #[a, b] 0).run Try.prog w = .ok a w := fun _ _ _ => by kernel_rfl
  have p1 : ∀ (a b : Value) w, (part 3 #[a, b] 1).run Try.prog w = .ok b w := fun _ _ _ => by kernel_rfl
  simp only [Op.eqFields, Sem.run_bind, Sem.run_ite, p0, p1, Result.andThen_ok, i3]
  by_cases h1 : i1 = i2 <;> by_cases h2 : x1 = x2 <;> simp [h1, h2, Result.andThen]
def SamePost (L M : List Nd) (w : World) (e : Ending) (w' : World) : Prop := e = .returned (.bool (sameB L M)) ∧ ∃ q, w' = w.drewN q
theorem same_post {L M : List Nd} {b : Bool} {w w' : World} (h : sameB L M = b) (hb : ∃ q, w' = w.drewN q) : SamePost L M w (.returned (.bool b)) w' := by
  subst h
  exact ⟨rfl, hb⟩
end Go.Proofs.Ytafkkhjhdfmhpaa
