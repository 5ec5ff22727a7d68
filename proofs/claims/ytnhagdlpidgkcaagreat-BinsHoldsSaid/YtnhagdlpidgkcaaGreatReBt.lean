/- The project's package reach: Between; Part of reckon. -/
import Derived.Test.YtnhagdlpidgkcaaGreatReK
import Derived.Test.YtnhagdlpidgkcaaGreatReWg
import Derived.Test.YtnhagdlpidgkcaaGreatDvQ
import Derived.Test.YtnhagdlpidgkcaaGreatMmy
import Derived.Deep.RegionWith
namespace Go.Proofs.YtnhagdlpidgkcaaGreat
set_option linter.unusedVariables false
set_option maxRecDepth 100000
open Go.RowKit
/-- two numbers' boxes, and the result's -/
structure ReB3 (TI TB : TypeId) (W w : World) (a b : Int) : Prop where
  ba : w.ownsRow W.heap.size TI 1 (.slice (some ⟨W.heap.size, 0, none⟩) 1 1) 1 [.int .i64 a]
  bb : w.ownsRow W.heap.size TI 1 (.slice (some ⟨W.heap.size + 1, 0, none⟩) 1 1) 1 [.int .i64 b]
  r : w.ownsRow W.heap.size TB 2 (.slice (some ⟨W.heap.size + 1 + 1, 0, none⟩) 1 1) 1 [.int .i64 0, .int .i64 0]
  hb : Below W.heap.size W w
theorem ReB3.below {TI TB : TypeId} {W w w' : World} {a b : Int} (h : ReB3 TI TB W w a b) (q : Below w.heap.size w w') : ReB3 TI TB W w' a b := ⟨own_below h.ba q, own_below h.bb q, own_below h.r q, h.hb.trans (q.mono h.hb.size)⟩
theorem ReB3.cells {TI TB : TypeId} {W w : World} {a b : Int} (h : ReB3 TI TB W w a b) :
    w.cell? ⟨W.heap.size, 0, none⟩ = some (.int .i64 a) ∧ w.cell? ⟨W.heap.size + 1, 0, none⟩ = some (.int .i64 b) ∧ W.heap.size < w.heap.size ∧ W.heap.size + 1 < w.heap.size ∧ w.cell? ⟨W.heap.size + 1 + 1, 0, none⟩ = some (.int .i64 0) ∧ w.cell? ⟨W.heap.size + 1 + 1, 1, none⟩ = some (.int .i64 0) ∧ w.frozen? ⟨W.heap.size + 1 + 1, 0, none⟩ = false ∧ w.frozen? ⟨W.heap.size + 1 + 1, 1, none⟩ = false ∧ W.heap.size + 1 + 1 < w.heap.size ∧ True :=
  ⟨h.ba.cellAt 0 (by omega), h.bb.cellAt 0 (by omega), (h.ba.lt _ rfl).2, (h.bb.lt _ rfl).2, h.r.cellAt 0 (by omega), h.r.cellAt 1 (by omega), h.r.frozenAt 0, h.r.frozenAt 1, (h.r.lt _ rfl).2, trivial⟩
theorem ReB3.new (TI TB : TypeId) (W : World) (a b : Int) : ReB3 TI TB W (((W.alloc (.cells #[.int .i64 a] TI)).alloc (.cells #[.int .i64 b] TI)).alloc (.cells #[.int .i64 0, .int .i64 0] TB)) a b := by
  have e1 : (W.alloc (.cells #[.int .i64 a] TI)).heap.size = W.heap.size + 1 := by simp
  have e2 : ((W.alloc (.cells #[.int .i64 a] TI)).alloc (.cells #[.int .i64 b] TI)).heap.size = W.heap.size + 1 + 1 := by simp
  have x := ((box1 W TI (.int .i64 a)).alloc (.cells #[.int .i64 b] TI)).alloc (.cells #[.int .i64 0, .int .i64 0] TB)
  have y := (box1 (W.alloc (.cells #[.int .i64 a] TI)) TI (.int .i64 b)).alloc (.cells #[.int .i64 0, .int .i64 0] TB)
  have z := box2 ((W.alloc (.cells #[.int .i64 a] TI)).alloc (.cells #[.int .i64 b] TI)) TB (.int .i64 0) (.int .i64 0)
  rw [e1] at y
  rw [e2] at z
  exact ⟨x, own_low y (by omega), own_low z (by omega), (((Below.refl W.heap.size W).alloc (Nat.le_refl _) _).alloc (by simp) _).alloc (by simp; omega) _⟩
set_option maxHeartbeats 1600000 in
theorem reBet_any {B q p g h : Nat} {kd l k : Int} {n : Nat} {L : List Nd} (a b : Int) (w : World) (d : DgA w B q p g h kd l k n L) (hn : n ≤ 1000) (A0 : -9223372036854775808 ≤ a) (A1 : a ≤ 9223372036854775807) (B0 : -9223372036854775808 ≤ b) (B1 : b ≤ 9223372036854775807) :
    Calls Tryz.prog 41 #[.pointer (some ⟨q, 0, none⟩), .int .i64 a, .int .i64 b] w fun e w' => e = .returned (.tuple #[.agg #[.int .i64 (beL l L a b), .int .i64 (beH l L a b)], .int .i64 (beE a b)]) ∧ Below w.heap.size w w' := by
  have N0 := Lib.hid (ReB3.new 3 50 w a b)
  by_cases hab : b < a
  · obtain ⟨e1, e2, e3⟩ := be_no (l := l) (L := L) hab
    rw [e1, e2, e3]
    obtain ⟨x0, x1, z0, z1, y0, y3, _, _, _, _⟩ := N0.out.cells
    obtain ⟨q0, q1⟩ := set_two y0 y3
    clear d e1 e2 e3
    go_enter Tryz.func41, Tryz.ntmps41
    go_upto_region 1 with fail
    generalize (((w.alloc (.cells #[.int .i64 a] 3)).alloc (.cells #[.int .i64 b] 3)).alloc (.cells #[.int .i64 0, .int .i64 0] 50)) = W at *
    go_wp2_with fail
    exact bodyPost_ret (v := .tuple #[.agg #[.int .i64 0, .int .i64 0], .int .i64 2]) (by simp [results, Tryz.results41, go_sem, q0, q1]) rfl ⟨rfl, (N0.out.hb.setCell (p := ⟨w.heap.size + 1 + 1, 0, none⟩) (by show w.heap.size ≤ w.heap.size + 1 + 1; omega) _).setCell (p := ⟨w.heap.size + 1 + 1, 1, none⟩) (by show w.heap.size ≤ w.heap.size + 1 + 1; omega) _⟩
  · obtain ⟨e1, e2, e3⟩ := be_yes (l := l) (L := L) (a := a) (b := b) (by omega)
    rw [e1, e2, e3]
    have WG := Lib.hid (reWeigh_any (F := 78) (caps := #[.pointer (some ⟨w.heap.size, 0, none⟩), .pointer (some ⟨w.heap.size + 1, 0, none⟩)]) (PA := inP l a b) (PO := meP l a b) _ (d.below N0.out.hb) hn
      ⟨enters_of Tryz.func78 (by kernel_rfl) rfl, fun j hj v hv => by
        obtain ⟨x0, x1, z0, z1, _⟩ := (N0.out.below hv).cells
        exact reBtw1_any a b _ _ v x0 x1⟩)
    have mf : ∀ (fn : Fn) (first cap : Array Value) (w : World), (Instr.makeFunc fn first cap).run Tryz.prog w = .ok (.func fn first cap) w := fun _ _ _ _ => rfl
    obtain ⟨x0, x1, z0, z1, _⟩ := N0.out.cells
    clear d e1 e2 e3
    go_enter Tryz.func41, Tryz.ntmps41
    go_upto_region 1 with fail
    generalize (((w.alloc (.cells #[.int .i64 a] 3)).alloc (.cells #[.int .i64 b] 3)).alloc (.cells #[.int .i64 0, .int .i64 0] 50)) = W at *
    go_wp2_with fail
    refine WG.out.mono ?_
    rintro e w1 ⟨rfl, hb1⟩
    have N1 := Lib.hid (N0.out.below hb1)
    clear hb1 WG x0 x1 z0 z1 N0
    obtain ⟨_, _, _, _, y0, y3, _, _, _, _⟩ := N1.out.cells
    obtain ⟨q0, q1⟩ := set_two y0 y3
    go_wp2_with fail
    exact bodyPost_ret (v := .tuple #[.agg #[.int .i64 (btwL l L a b), .int .i64 (btwH l L a b)], .int .i64 0]) (by simp [results, Tryz.results41, go_sem, q0, q1, btwL, btwH]) rfl ⟨rfl, (N1.out.hb.setCell (p := ⟨w.heap.size + 1 + 1, 0, none⟩) (by show w.heap.size ≤ w.heap.size + 1 + 1; omega) _).setCell (p := ⟨w.heap.size + 1 + 1, 1, none⟩) (by show w.heap.size ≤ w.heap.size + 1 + 1; omega) _⟩
set_option maxHeartbeats 400000 in
theorem rePart_any (n m d : Int) (w : World) (N0 : -9223372036854775808 ≤ n) (N1 : n ≤ 9223372036854775807) (M0 : -9223372036854775808 ≤ m) (M1 : m ≤ 9223372036854775807) (D0 : -9223372036854775808 ≤ d) (D1 : d ≤ 9223372036854775807) :
    Calls Tryz.prog 51 #[.int .i64 n, .int .i64 m, .int .i64 d] w fun e w' => Ans2 (partN n m d) (partB n m d) w w' e := by
  go_enter Tryz.func51, Tryz.ntmps51
  go_wp2_with (go_at_call 93; refine (share_any n m d _ N0 N1 M0 M1 D0 D1).mono ?_; rintro e w' ⟨rfl, B1⟩)
  go_ret2
  exact ans2 ⟨rfl, rfl⟩ B1
end Go.Proofs.YtnhagdlpidgkcaaGreat
