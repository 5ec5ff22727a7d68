/- The walk of the statement DigestStands of layer digest: for every input it returns true, and nothing that was there before is changed. -/
import Derived.Test.YtkhacpapkalkiaaGreatDgLaw7
import Derived.Test.YtkhacpapkalkiaaGreatDgX
import Derived.Test.YtkhacpapkalkiaaGreatPrR
import Derived.Deep.Cut
namespace Go.Proofs.YtkhacpapkalkiaaGreat
set_option linter.unusedVariables false
set_option maxRecDepth 100000
open Go.RowKit

set_option maxHeartbeats 3200000 in
theorem dgMade_no (l k kd : Int) (A : Option Addr) (n c : Nat) (w : World) (hc : ¬ (kIs k = true ∧ isP kd l = true)) (L0 : -9223372036854775808 ≤ l) (L1 : l ≤ 9223372036854775807) :
    Calls Tryz.prog 20 #[.agg #[.int .i64 l, .int .i64 k, .int .i64 kd], .slice A n c] w fun e w' => e = .returned (.tuple #[.pointer none, .agg #[.int .i64 0, .slice none 0 0]]) ∧ Below w.heap.size w w' := by
  have e1 : (w.alloc (.cells #[.int .i64 l, .int .i64 k, .int .i64 kd] 23)).heap.size = w.heap.size + 1 := by simp
  have X0 := Lib.hid ((tri_nw w 23 (.int .i64 l) (.int .i64 k) (.int .i64 kd)).alloc (.cells #[.int .i64 0, .slice none 0 0] 59))
  have Y0 : Hid (((w.alloc (.cells #[.int .i64 l, .int .i64 k, .int .i64 kd] 23)).alloc (.cells #[.int .i64 0, .slice none 0 0] 59)).ownsRow w.heap.size 59 2 (.slice (some ⟨w.heap.size + 1, 0, none⟩) 1 1) 1 [.int .i64 0, .slice none 0 0]) := by
    have z := box2 (w.alloc (.cells #[.int .i64 l, .int .i64 k, .int .i64 kd] 23)) 59 (.int .i64 0) (.slice none 0 0)
    rw [e1] at z
    exact own_low z (Nat.le_succ _)
  have HB0 : Hid (Below w.heap.size w ((w.alloc (.cells #[.int .i64 l, .int .i64 k, .int .i64 kd] 23)).alloc (.cells #[.int .i64 0, .slice none 0 0] 59))) := ((Below.refl _ _).alloc (Nat.le_refl _) _).alloc (by simp) _
  obtain ⟨x0, x1, x2, _, _, _, hz⟩ := tri_all X0.out
  have NW := Lib.hid (fun w => dgNew_no kd l k w hc L0 L1)
  clear hc e1
  go_enter Tryz.func20, Tryz.ntmps20
  go_wp2_with fail
  generalize (w.alloc (.cells #[.int .i64 l, .int .i64 k, .int .i64 kd] 23)).alloc (.cells #[.int .i64 0, .slice none 0 0] 59) = W at *
  refine (NW.out _).mono ?_
  rintro e w1 ⟨rfl, hb1⟩
  have Y1 := Lib.hid (own_below Y0.out hb1)
  have B1 := Lib.hid (HB0.out.trans (hb1.mono HB0.out.size))
  have ST := Lib.hid (box_set Y1.out (.int .i64 0) (.slice none 0 0)).2.2.1
  obtain ⟨y0, y1, y2, y3, hy⟩ := box_cells Y1.out
  obtain ⟨q0, q1⟩ := set_two y0 y1
  clear hb1 NW x0 x1 x2
  go_wp2_with fail
  exact bodyPost_ret (v := .tuple #[.pointer none, .agg #[.int .i64 0, .slice none 0 0]]) (by simp [results, Tryz.results20, go_sem, q0, q1]) rfl ⟨rfl, B1.out.trans ST.out⟩
end Go.Proofs.YtkhacpapkalkiaaGreat
