/- The walk of the statement GapNobody of layer gap, over the project's contracts: for every input it returns true, and nothing that was there before is changed. -/
import Derived.Test.YtelekchdbiimiaaGreatGpLaw
import Derived.Deep.Cut
namespace Go.Proofs.YtelekchdbiimiaaGreat
set_option linter.unusedVariables false
set_option maxRecDepth 100000
open Go.RowKit
set_option maxHeartbeats 12800000 in
theorem walk_gapNobodyK (KS : GpSd) (KA : GpAp) (KM : GpMo) (l k kd : Int) (A : Option Addr) (n c : Nat) (L : List Nd) (t : Int) (L0 : -9223372036854775808 ≤ l) (L1 : l ≤ 9223372036854775807) (K0 : -9223372036854775808 ≤ k) (K1 : k ≤ 9223372036854775807) (D0 : -9223372036854775808 ≤ kd) (D1 : kd ≤ 9223372036854775807) (NB : NBds L) (m1 : n ≤ 9223372036854775807)
    (T0 : -9223372036854775808 ≤ t) (T1 : t ≤ 9223372036854775807) (w : World) (hv : NodesAt w (.slice A n c) L) :
    Calls Tryz.prog 7 #[.agg #[.int .i64 l, .int .i64 k, .int .i64 kd, .slice A n c], .int .i64 t] w fun e w' => e = .returned (.bool true) ∧ Below w.heap.size w w' := by
  have X0 := Lib.hid (quad_new w 26 (.int .i64 l) (.int .i64 k) (.int .i64 kd) (.slice A n c))
  have HB0 : Hid (Below w.heap.size w (w.alloc (.cells #[.int .i64 l, .int .i64 k, .int .i64 kd, .slice A n c] 26))) := (Below.refl _ _).alloc (Nat.le_refl _) _
  have HV := Lib.hid hv
  have HNB : Hid (NBds L) := NB
  have LL := Lib.hid (And.intro L0 L1)
  have AL := Lib.hid (fun v => gpAlive_any KS KA KM v)
  have PS := Lib.hid KS
  have PA := Lib.hid KA
  have PM := Lib.hid KM
  have q1' := both_same 0 0
  clear KS KA KM K0 K1 D0 D1 m1 hv NB L0 L1 T0 T1
  go_enter Tryz.func7, Tryz.ntmps7
  go_upto_region 1 with fail
  generalize w.alloc (.cells #[.int .i64 l, .int .i64 k, .int .i64 kd, .slice A n c] 26) = W at *
  obtain ⟨x0, x1, x2, x3, _, _, _, _, hz⟩ := quad_all X0.out
  have fin : ∀ (pv : Option Addr) (v : World) (hb : Below w.heap.size w v) (S1 : ∀ u, Below v.heap.size v u → Calls Tryz.prog 10 #[.pointer pv, .pointer none, .int .i64 t] u fun e w' => e = .returned (.tuple #[.int .i64 0, .int .i64 1]) ∧ Below u.heap.size u w'), True := fun _ _ _ _ => trivial
  clear fin
  cases hld : rnkLdB kd l k n L
  · have LD := Lib.hid (rnkLoad_no l k kd A n c L W (HV.out.below HB0.out) HNB.out LL.out.1 LL.out.2 hld)
    clear hld
    go_wp2_with fail
    refine LD.out.mono ?_
    rintro e w7 ⟨rfl, hb7⟩
    have q0 := HB0.out.trans (hb7.mono HB0.out.size)
    have Q1 := Lib.hid (q0.alloc q0.size (.cells #[.int .i64 0, .int .i64 0, .slice none 0 0] 31))
    clear hb7 LD x0 x1 x2 x3 hz q0
    go_wp2_with fail
    generalize w7.alloc (.cells #[.int .i64 0, .int .i64 0, .slice none 0 0] 31) = W7 at *
    refine (PS.out.side_nn t _).mono ?_
    rintro e u1 ⟨rfl, hu1⟩
    have V1 := Lib.hid (Q1.out.trans (hu1.mono Q1.out.size))
    clear hu1
    go_wp2_with fail
    refine (PA.out.apart_nn _).mono ?_
    rintro e u2 ⟨rfl, hu2⟩
    have V2 := Lib.hid (V1.out.trans (hu2.mono V1.out.size))
    clear hu2
    go_wp2_with fail
    refine (PM.out.most_nn t _).mono ?_
    rintro e u3 ⟨rfl, hu3⟩
    have X3 := Lib.hid (box2 u3 46 (.int .i64 0) (.int .i64 0))
    have hv3 := hu3.alloc hu3.size (.cells #[.int .i64 0, .int .i64 0] 46)
    have V3 := Lib.hid (V2.out.trans (hv3.mono V2.out.size))
    obtain ⟨a0, a1, _, _, _⟩ := box_cells X3.out
    clear hu3 hv3
    go_wp2_with (go_at_call 9; refine (AL.out _).mono ?_; rintro e v7 ⟨rfl, hbv7⟩)
    go_ret
    exact ⟨rfl, V3.out.trans (hbv7.mono V3.out.size)⟩
  · have LD := Lib.hid (rnkLoad_yes l k kd A n c L W (HV.out.below HB0.out) HNB.out LL.out.1 LL.out.2 hld)
    have NL : Hid (¬ 150 < n) := (of_decide_eq_true hld).1
    clear hld
    go_wp2_with fail
    refine LD.out.mono ?_
    rintro e w7 ⟨q, p, g, h, rfl, hd7, hb7⟩
    have q0 := HB0.out.trans (hb7.mono HB0.out.size)
    have Q1 := Lib.hid (q0.alloc q0.size (.cells #[.int .i64 k, .int .i64 l, .slice A n c] 31))
    have D7 := Lib.hid (hd7.below (below_one w7 (.cells #[.int .i64 k, .int .i64 l, .slice A n c] 31)))
    clear hb7 LD x0 x1 x2 x3 hz hd7 q0
    go_wp2_with fail
    generalize w7.alloc (.cells #[.int .i64 k, .int .i64 l, .slice A n c] 31) = W7 at *
    refine (PS.out.side_dn t _ D7.out (by omega)).mono ?_
    rintro e u1 ⟨rfl, hu1⟩
    have V1 := Lib.hid (Q1.out.trans (hu1.mono Q1.out.size))
    have D8 := Lib.hid (D7.out.below hu1)
    clear hu1
    go_wp2_with fail
    refine (PA.out.apart_nd _ D8.out (by omega)).mono ?_
    rintro e u2 ⟨rfl, hu2⟩
    have V2 := Lib.hid (V1.out.trans (hu2.mono V1.out.size))
    clear hu2
    go_wp2_with fail
    refine (PM.out.most_nn t _).mono ?_
    rintro e u3 ⟨rfl, hu3⟩
    have X3 := Lib.hid (box2 u3 46 (.int .i64 0) (.int .i64 0))
    have hv3 := hu3.alloc hu3.size (.cells #[.int .i64 0, .int .i64 0] 46)
    have V3 := Lib.hid (V2.out.trans (hv3.mono V2.out.size))
    obtain ⟨a0, a1, _, _, _⟩ := box_cells X3.out
    clear hu3 hv3
    go_wp2_with (go_at_call 9; refine (AL.out _).mono ?_; rintro e v7 ⟨rfl, hbv7⟩)
    go_ret
    exact ⟨rfl, V3.out.trans (hbv7.mono V3.out.size)⟩
end Go.Proofs.YtelekchdbiimiaaGreat
