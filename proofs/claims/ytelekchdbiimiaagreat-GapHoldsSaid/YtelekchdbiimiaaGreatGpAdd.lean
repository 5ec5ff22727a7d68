/- One more, in a great frame: a step of the walk. -/
import Derived.Test.YtelekchdbiimiaaGreatGpLaw
import Derived.BigGuard
namespace Go.Proofs.YtelekchdbiimiaaGreat
set_option linter.unusedVariables false
set_option maxRecDepth 100000
open Go.RowKit
theorem gp_add1 {o : Oper} {a : Act} {w : World} {K : Act → World → Prop} {Q : Exit → Act → World → Prop} (i d : Nat) (j : Int) (h : o.op = .binOp .add 3 (.tmp i) (.const (.int .i64 1)) 3) (hd : o.dst = some d) (hi : a.eval (.tmp i) = .int .i64 j) (hw : IntKind.i64.wrap (j + 1) = j + 1)
    (hk : K (a.put (some d) (.int .i64 (j + 1))) w) : o.wp Tryz.prog a w K Q := by
  obtain ⟨dst, op, ty, pos, after, guard⟩ := o
  simp only at h hd
  subst h hd
  have e2 : a.eval (.const (.int .i64 1)) = .int .i64 1 := rfl
  unfold Oper.wp execOp
  simp only [hi, e2]
  go_simp
  exact hk
end Go.Proofs.YtelekchdbiimiaaGreat
