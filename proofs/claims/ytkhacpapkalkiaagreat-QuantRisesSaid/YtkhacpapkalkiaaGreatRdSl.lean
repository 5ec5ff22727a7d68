/- The library's slices.Equal, slices.Grow and slices.Concat at readings: as at nodes (made of those texts by exchange of names). -/
import Derived.Test.YtkhacpapkalkiaaGreatMmy
import Derived.Test.YtkhacpapkalkiaaGreatPln
import Derived.Test.YtkhacpapkalkiaaGreatRk
import Derived.Lib.SliceRun
import Derived.Lib.AppendZeros
import Derived.Laws.AppendOwnNone
import Derived.Laws.StructEq
import Derived.Deep.QuietTactic
import Derived.BigQuiet
import Derived.Deep.RegionHeld3
import Derived.Deep.RegionWith
import Derived.Deep.DrawnRows
import Derived.WalkSpells
import Derived.StillTactics
namespace Go.Proofs.YtkhacpapkalkiaaGreat
set_option linter.unusedVariables false
open Go.RowKit
attribute [local go_sem ↓] Go.wp_at_zero Go.wp_at_succ

theorem read_info : (Tryz.prog.info? 97).map (fun i => (i.zero, i.size, i.bytes)) = some (some (.agg #[.int .i64 0, .int .i64 0]), 2, 16) := by kernel_rfl
def RdOwn (S : List Nd) (w : World) (e : Ending) (w' : World) : Prop := ∃ v, e = .returned v ∧ OwnNd 97 w' w.heap.size v S ∧ Below w.heap.size w w'
def RdSPost (S : List Nd) (w : World) (e : Ending) (w' : World) : Prop := ∃ v, e = .returned v ∧ NodesAt w' v S ∧ Below w.heap.size w w'
theorem run_neq_reads (i1 x1 i2 x2 : Int) (w : World) : (binOp .neq 97 (.agg #[.int .i64 i1, .int .i64 x1]) (.agg #[.int .i64 i2, .int .i64 x2])).run Tryz.prog w = .ok (.bool (!(i1 == i2 && x1 == x2))) w := by
  have i3 := fun (a b : Int) (w : World) => run_equalIn_int (P := Tryz.prog) w 9998 3 .i64 .i64 a b Tryz.underlying3
  rw [run_neq_struct, run_equalIn_agg _ _ _ _ _ (by kernel_rfl) (by kernel_rfl)]
  unfold Program.fieldsOf
  rw [Tryz.underlying97]
  have p0 : ∀ (a b : Value) w, (part 3 #[a, b] 0).run Tryz.prog w = .ok a w := fun _ _ _ => by kernel_rfl
  have p1 : ∀ (a b : Value) w, (part 3 #[a, b] 1).run Tryz.prog w = .ok b w := fun _ _ _ => by kernel_rfl
  simp only [Op.eqFields, Sem.run_bind, Sem.run_ite, p0, p1, Result.andThen_ok, i3]
  by_cases h1 : i1 = i2 <;> by_cases h2 : x1 = x2 <;> simp [h1, h2, Result.andThen]
def RSame (L M : List Nd) (w : World) (e : Ending) (w' : World) : Prop := e = .returned (.bool (sameB L M)) ∧ ∃ q, w' = w.drewN q
theorem rsame_post {L M : List Nd} {b : Bool} {w w' : World} (h : sameB L M = b) (hb : ∃ q, w' = w.drewN q) : RSame L M w (.returned (.bool b)) w' := by
  subst h
  exact ⟨rfl, hb⟩
end Go.Proofs.YtkhacpapkalkiaaGreat
