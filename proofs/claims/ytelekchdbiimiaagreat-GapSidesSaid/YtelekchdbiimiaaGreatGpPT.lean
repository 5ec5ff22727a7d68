/- The project's package gap: a share as a table tells it. -/
import Derived.Test.YtelekchdbiimiaaGreatGpP1
import Derived.Test.YtelekchdbiimiaaGreatRnT
namespace Go.Proofs.YtelekchdbiimiaaGreat
set_option linter.unusedVariables false
set_option maxRecDepth 100000
open Go.RowKit
set_option maxHeartbeats 1600000 in
theorem gpShareAt_any {B t : Nat} {l : Int} {L : List Nd} (x : Int) (w : World) (d : rnkTB w B t l L) :
    Calls Tryz.prog 32 #[.pointer (some ⟨t, 0, none⟩), .int .i64 x] w fun e w' => e = .returned (.agg #[.int .i64 (lowR l L x), .int .i64 (highR l L x), .int .i64 (sumC L)]) ∧ Below w.heap.size w w' := by
  have BO := Lib.hid (fun v (hb : Below w.heap.size w v) => rnkTBoth_any x v (rnkTB_below d hb))
  have NN := Lib.hid (fun v (hb : Below w.heap.size w v) => rnkTN_any v (rnkTB_below d hb))
  clear d
  generalize lowR l L x = lo at *
  generalize highR l L x = hi at *
  generalize sumC L = s at *
  have X0 := Lib.hid (tri_nw w 81 (.int .i64 0) (.int .i64 0) (.int .i64 0))
  have B0 := Lib.hid (below_one w (.cells #[.int .i64 0, .int .i64 0, .int .i64 0] 81))
  go_enter Tryz.func32, Tryz.ntmps32
  go_wp2_with fail
  generalize w.alloc (.cells #[.int .i64 0, .int .i64 0, .int .i64 0] 81) = W at *
  refine (BO.out _ B0.out).mono ?_
  rintro e w1 ⟨rfl, hb1⟩
  have B1 := Lib.hid (B0.out.trans (hb1.mono B0.out.size))
  have X1 := Lib.hid (own_below X0.out hb1)
  clear hb1
  go_wp2_with fail
  refine (NN.out _ B1.out).mono ?_
  rintro e w3 ⟨rfl, hb3⟩
  have X3 := Lib.hid (own_below X1.out hb3)
  obtain ⟨y0, y1, y2, f0, f1, f2, hz2⟩ := tri_all X3.out
  obtain ⟨q0, q1, q2⟩ := set_three X3.out (.int .i64 lo) (.int .i64 hi) (.int .i64 s)
  have B3 := Lib.hid ((B1.out.trans (hb3.mono B1.out.size)).trans (tri_set X3.out (.int .i64 lo) (.int .i64 hi) (.int .i64 s)).2.2.1)
  clear hb3
  go_wp2_with fail
  exact bodyPost_ret (v := .agg #[.int .i64 lo, .int .i64 hi, .int .i64 s]) (by simp [results, Tryz.results32, go_sem, q0, q1, q2]) rfl ⟨rfl, B3.out⟩
end Go.Proofs.YtelekchdbiimiaaGreat
