/- The walk of the statement BoundNobody of layer bound, over the project's contracts: for every input it returns true, and nothing that was there before is changed. -/
import Derived.Test.YtkoefclkpdpdpaaGreatBoLaw
namespace Go.Proofs.YtkoefclkpdpdpaaGreat
set_option linter.unusedVariables false
set_option maxRecDepth 100000
open Go.RowKit

set_option maxHeartbeats 12800000 in
theorem walk_boundNobodyK (KE : BoE) (KS : BoS) (KM : BoM) (KW : BoW) (KI : BoI) (a b : Int) (A0 : -9223372036854775808 ≤ a) (A1 : a ≤ 9223372036854775807) (B0 : -9223372036854775808 ≤ b) (B1 : b ≤ 9223372036854775807) (w : World) :
    Calls Tryz.prog 7 #[.int .i64 a, .int .i64 b] w fun e w' => e = .returned (.bool true) ∧ Below w.heap.size w w' := by
  have AL := Lib.hid (fun v => boAlive_any KE KM KW v)
  have N1 := Lib.hid KE.least_nil
  have N2 := Lib.hid KE.greatest_nil
  have N3 := Lib.hid KE.spread_nil
  have N4 := Lib.hid KS.sum_nil
  have N5 := Lib.hid KM.mean_nil
  have N6 := Lib.hid KW.worst_nil
  have N7 := Lib.hid (KI.within_nil a b)
  clear KE KS KM KW KI
  go_enter Tryz.func7, Tryz.ntmps7
  go_wp2_with fail
  refine (N1.out _).mono ?_
  rintro e u1 ⟨rfl, hu1⟩
  have hv1 := hu1.alloc hu1.size (.cells #[.int .i64 0, .int .i64 0] 36)
  have X1 := Lib.hid (box2 u1 36 (.int .i64 0) (.int .i64 0))
  have V1 := Lib.hid hv1
  clear hu1 hv1 N1 
  go_wp2_with fail
  refine (N2.out _).mono ?_
  rintro e u2 ⟨rfl, hu2⟩
  have hv2 := hu2.alloc hu2.size (.cells #[.int .i64 0, .int .i64 0] 36)
  have X2 := Lib.hid (box2 u2 36 (.int .i64 0) (.int .i64 0))
  have X1n := Lib.hid (own_below X1.out hv2)
  have V2 := Lib.hid (re_next V1.out hv2)
  clear hu2 hv2 N2 X1
  go_wp2_with fail
  refine (N3.out _).mono ?_
  rintro e u3 ⟨rfl, hu3⟩
  have hv3 := hu3.alloc hu3.size (.cells #[.int .i64 0, .int .i64 0] 36)
  have X3 := Lib.hid (box2 u3 36 (.int .i64 0) (.int .i64 0))
  have X1nn := Lib.hid (own_below X1n.out hv3)
  have X2n := Lib.hid (own_below X2.out hv3)
  have V3 := Lib.hid (re_next V2.out hv3)
  clear hu3 hv3 N3 X1n X2
  go_wp2_with fail
  refine (N4.out _).mono ?_
  rintro e u4 ⟨rfl, hu4⟩
  have X8 := Lib.hid (box2 u4 46 (.int .u64 0) (.int .u64 0))
  have X9 := Lib.hid (box2 (u4.alloc (.cells #[.int .u64 0, .int .u64 0] 46)) 46 (.int .u64 0) (.int .u64 0))
  have h8 := Lib.hid (own_below X8.out ((Below.refl _ _).alloc (Nat.le_refl _) (.cells #[.int .u64 0, .int .u64 0] 46)))
  have hv4 := (hu4.alloc hu4.size (.cells #[.int .u64 0, .int .u64 0] 46)).alloc (Nat.le_trans hu4.size (by simp)) (.cells #[.int .u64 0, .int .u64 0] 46)
  have X1nnn := Lib.hid (own_below X1nn.out hv4)
  have X2nn := Lib.hid (own_below X2n.out hv4)
  have X3n := Lib.hid (own_below X3.out hv4)
  have V4 := Lib.hid (re_next V3.out hv4)
  clear hu4 hv4 N4 X1nn X2n X3
  go_wp2_with fail
  refine (N5.out _).mono ?_
  rintro e u5 ⟨rfl, hu5⟩
  have hv5 := hu5.alloc hu5.size (.cells #[.int .i64 0, .int .i64 0] 36)
  have X5 := Lib.hid (box2 u5 36 (.int .i64 0) (.int .i64 0))
  have X1nnnn := Lib.hid (own_below X1nnn.out hv5)
  have X2nnn := Lib.hid (own_below X2nn.out hv5)
  have X3nn := Lib.hid (own_below X3n.out hv5)
  have h8n := Lib.hid (own_below h8.out hv5)
  have X9n := Lib.hid (own_below X9.out hv5)
  have V5 := Lib.hid (re_next V4.out hv5)
  clear hu5 hv5 N5 X1nnn X2nn X3n h8 X9
  go_wp2_with fail
  refine (N6.out _).mono ?_
  rintro e u6 ⟨rfl, hu6⟩
  have hv6 := hu6
  have X1nnnnn := Lib.hid (own_below X1nnnn.out hv6)
  have X2nnnn := Lib.hid (own_below X2nnn.out hv6)
  have X3nnn := Lib.hid (own_below X3nn.out hv6)
  have h8nn := Lib.hid (own_below h8n.out hv6)
  have X9nn := Lib.hid (own_below X9n.out hv6)
  have X5n := Lib.hid (own_below X5.out hv6)
  have V6 := Lib.hid (re_next V5.out hv6)
  clear hu6 hv6 N6 X1nnnn X2nnn X3nn h8n X9n X5
  go_wp2_with fail
  refine (N7.out _).mono ?_
  rintro e u7 ⟨rfl, hu7⟩
  have hv7 := hu7
  have X1nnnnnn := Lib.hid (own_below X1nnnnn.out hv7)
  have X2nnnnn := Lib.hid (own_below X2nnnn.out hv7)
  have X3nnnn := Lib.hid (own_below X3nnn.out hv7)
  have h8nnn := Lib.hid (own_below h8nn.out hv7)
  have X9nnn := Lib.hid (own_below X9nn.out hv7)
  have X5nn := Lib.hid (own_below X5n.out hv7)
  have V7 := Lib.hid (re_next V6.out hv7)
  clear hu7 hv7 N7 X1nnnnn X2nnnn X3nnn h8nn X9nn X5n
  have q1 := both_same 0 0
  have q2 : ∀ w, (binOp .eql 46 (.agg #[.int .u64 0, .int .u64 0]) (.agg #[.int .u64 0, .int .u64 0])).run Tryz.prog w = .ok (.bool true) w := fun _ => by kernel_rfl
  obtain ⟨a0, a1, _, _, _⟩ := box_cells X1nnnnnn.out
  obtain ⟨b0, b1, _, _, _⟩ := box_cells X2nnnnn.out
  obtain ⟨c0, c1, _, _, _⟩ := box_cells X3nnnn.out
  obtain ⟨d0, d1, _, _, _⟩ := box_cells h8nnn.out
  obtain ⟨e0, e1, _, _, _⟩ := box_cells X9nnn.out
  rw [show (u4.alloc (.cells #[.int .u64 0, .int .u64 0] 46)).heap.size = u4.heap.size + 1 by simp] at e0 e1
  obtain ⟨f0, f1, _, _, _⟩ := box_cells X5nn.out
  go_wp2_with (go_at_call 9; refine (AL.out _).mono ?_; rintro e v7 ⟨rfl, hbv7⟩)
  go_ret
  exact ⟨rfl, re_next V7.out hbv7⟩

end Go.Proofs.YtkoefclkpdpdpaaGreat
