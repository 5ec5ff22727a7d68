/- The project's package bound: Worst, Within. -/
import Derived.Test.YtkoefclkpdpdpaaGreatBoP1
import Derived.Test.YtkoefclkpdpdpaaGreatRkPlus
import Derived.Test.YtkoefclkpdpdpaaGreatRnT
import Derived.Deep.Cut
namespace Go.Proofs.YtkoefclkpdpdpaaGreat
set_option linter.unusedVariables false
set_option maxRecDepth 100000
open Go.RowKit

/-- two boxes of one cell each, stored anew -/
theorem bo_pair {T : TypeId} {w : World} {B p q : Nat} {x y : Value} (r1 : w.ownsRow B T 1 (.slice (some ⟨p, 0, none⟩) 1 1) 1 [x]) (r2 : w.ownsRow B T 1 (.slice (some ⟨q, 0, none⟩) 1 1) 1 [y]) (ne : p ≠ q) (u v : Value) :
    ((w.setCell ⟨p, 0, none⟩ u).setCell ⟨q, 0, none⟩ v).cell? ⟨p, 0, none⟩ = some u ∧ ((w.setCell ⟨p, 0, none⟩ u).setCell ⟨q, 0, none⟩ v).cell? ⟨q, 0, none⟩ = some v ∧ Below B w ((w.setCell ⟨p, 0, none⟩ u).setCell ⟨q, 0, none⟩ v) := by
  have own : ∀ {a b : Nat}, a ≠ b → ∀ i, (Value.slice (some ⟨a, 0, none⟩) 1 1).ownBlock = some i → ¬ i = b := fun h i e q => by
    simp [Value.ownBlock] at e; exact h (e.trans q)
  have s1 := (r1.stored 0 u).1
  have s2 := own_kp r2 (Kp.setCell w ⟨p, 0, none⟩ u) (own (Ne.symm ne))
  exact ⟨(own_kp s1 (Kp.setCell _ ⟨q, 0, none⟩ v) (own ne)).cellAt 0 (by omega), (s2.stored 0 v).1.cellAt 0 (by omega), ((Below.refl _ _).setCell (p := ⟨p, 0, none⟩) (r1.lt p rfl).1 _).setCell (p := ⟨q, 0, none⟩) (r2.lt q rfl).1 _⟩
theorem bo_two (w : World) (T : TypeId) (x y : Value) : Below w.heap.size w ((w.alloc (.cells #[x] T)).alloc (.cells #[y] T)) ∧ ((w.alloc (.cells #[x] T)).alloc (.cells #[y] T)).ownsRow w.heap.size T 1 (.slice (some ⟨w.heap.size, 0, none⟩) 1 1) 1 [x] ∧ ((w.alloc (.cells #[x] T)).alloc (.cells #[y] T)).ownsRow w.heap.size T 1 (.slice (some ⟨w.heap.size + 1, 0, none⟩) 1 1) 1 [y] := by
  have e : (w.alloc (.cells #[x] T)).heap.size = w.heap.size + 1 := by simp
  have b := box1 (w.alloc (.cells #[x] T)) T y
  rw [e] at b
  exact ⟨((Below.refl _ _).alloc (Nat.le_refl _) _).alloc (by simp) _, (box1 w T x).alloc _, own_low b (by omega)⟩
/-- what looks for the worst gap: the value, the gap, and the table in memory -/
structure BoWo (TI : TypeId) (W w : World) (bx bg bt B t : Nat) (l : Int) (L : List Nd) (x g : Int) : Prop where
  rx : w.ownsRow W.heap.size TI 1 (.slice (some ⟨bx, 0, none⟩) 1 1) 1 [.int .i64 x]
  rg : w.ownsRow W.heap.size TI 1 (.slice (some ⟨bg, 0, none⟩) 1 1) 1 [.int .i64 g]
  ct : w.cell? ⟨bt, 0, none⟩ = some (.pointer (some ⟨t, 0, none⟩))
  zt : bt < w.heap.size
  tb : rnkTB w B t l L
  ne : bx ≠ bg ∧ bt ≠ bx ∧ bt ≠ bg
  lt : bx < B ∧ bg < B
  hb : Below W.heap.size W w
section
variable {TI : TypeId} {W w : World} {bx bg bt B t : Nat} {l : Int} {L : List Nd} {x g : Int}
theorem BoWo.below {w' : World} (h : BoWo TI W w bx bg bt B t l L x g) (q : Below w.heap.size w w') : BoWo TI W w' bx bg bt B t l L x g :=
  ⟨own_below h.rx q, own_below h.rg q, (q.cell h.zt).trans h.ct, Nat.lt_of_lt_of_le h.zt q.size, rnkTB_below h.tb q, h.ne, h.lt, h.hb.trans (q.mono h.hb.size)⟩
theorem BoWo.set (h : BoWo TI W w bx bg bt B t l L x g) (u v : Int) : BoWo TI W ((w.setCell ⟨bx, 0, none⟩ (.int .i64 u)).setCell ⟨bg, 0, none⟩ (.int .i64 v)) bx bg bt B t l L u v ∧ Kp (fun i => i = bx ∨ i = bg) w ((w.setCell ⟨bx, 0, none⟩ (.int .i64 u)).setCell ⟨bg, 0, none⟩ (.int .i64 v)) := by
  have k1 := Kp.setCell w ⟨bx, 0, none⟩ (.int .i64 u)
  have k2 := Kp.setCell (w.setCell ⟨bx, 0, none⟩ (.int .i64 u)) ⟨bg, 0, none⟩ (.int .i64 v)
  have k : Kp (fun i => i = bx ∨ i = bg) w ((w.setCell ⟨bx, 0, none⟩ (.int .i64 u)).setCell ⟨bg, 0, none⟩ (.int .i64 v)) := (k1.mono fun _ _ q => .inl q).trans k2 fun _ _ q => .inr q
  have zt := h.zt
  have own : ∀ {a b : Nat}, a ≠ b → ∀ i, (Value.slice (some ⟨a, 0, none⟩) 1 1).ownBlock = some i → ¬ i = b := fun h i e q => by
    simp [Value.ownBlock] at e; exact h (e.trans q)
  refine ⟨⟨own_kp (h.rx.stored 0 (.int .i64 u)).1 k2 (own h.ne.1), ((own_kp h.rg k1 (own (Ne.symm h.ne.1))).stored 0 (.int .i64 v)).1, (k.cell h.zt fun e => e.elim h.ne.2.1 h.ne.2.2).trans h.ct, by simpa using zt, rnkTB_kp h.tb k (fun i q => by have := h.lt; rcases q with q | q <;> omega), h.ne, h.lt, ?_⟩, k⟩
  exact (h.hb.setCell (p := ⟨bx, 0, none⟩) (h.rx.lt bx rfl).1 _).setCell (p := ⟨bg, 0, none⟩) (h.rg.lt bg rfl).1 _
theorem BoWo.cells (h : BoWo TI W w bx bg bt B t l L x g) : w.cell? ⟨bx, 0, none⟩ = some (.int .i64 x) ∧ w.cell? ⟨bg, 0, none⟩ = some (.int .i64 g) ∧ w.cell? ⟨bt, 0, none⟩ = some (.pointer (some ⟨t, 0, none⟩)) ∧ w.frozen? ⟨bx, 0, none⟩ = false ∧ w.frozen? ⟨bg, 0, none⟩ = false ∧ bx < w.heap.size ∧ bg < w.heap.size ∧ bt < w.heap.size :=
  ⟨h.rx.cellAt 0 (by omega), h.rg.cellAt 0 (by omega), h.ct, h.rx.frozenAt 0, h.rg.frozenAt 0, (h.rx.lt bx rfl).2, (h.rg.lt bg rfl).2, h.zt⟩
theorem BoWo.new {TI TT TF : TypeId} {w w1 w2 : World} {t : Nat} {l : Int} {L : List Nd} (vk : Value) (T2 : rnkTB w2 w1.heap.size t l L) (X2 : w2.ownsRow w.heap.size TI 1 (.slice (some ⟨w.heap.size, 0, none⟩) 1 1) 1 [.int .i64 0]) (Y2 : w2.ownsRow w.heap.size TI 1 (.slice (some ⟨w.heap.size + 1, 0, none⟩) 1 1) 1 [.int .i64 0])
    (B2 : Below w.heap.size w w2) (Z1 : w.heap.size + 2 ≤ w1.heap.size) (z2 : w1.heap.size ≤ w2.heap.size) :
    BoWo TI w ((w2.alloc (.cells #[.pointer (some ⟨t, 0, none⟩)] TT)).alloc (.cells #[vk] TF)) w.heap.size (w.heap.size + 1) w2.heap.size w1.heap.size t l L 0 0 ∧ ((w2.alloc (.cells #[.pointer (some ⟨t, 0, none⟩)] TT)).alloc (.cells #[vk] TF)).cell? ⟨w2.heap.size + 1, 0, none⟩ = some vk ∧ w2.heap.size + 1 < ((w2.alloc (.cells #[.pointer (some ⟨t, 0, none⟩)] TT)).alloc (.cells #[vk] TF)).heap.size := by
  have e0 : (w2.alloc (.cells #[.pointer (some ⟨t, 0, none⟩)] TT)).heap.size = w2.heap.size + 1 := by simp
  have e1 : ((w2.alloc (.cells #[.pointer (some ⟨t, 0, none⟩)] TT)).alloc (.cells #[vk] TF)).heap.size = w2.heap.size + 2 := by simp
  have hb : Below w2.heap.size w2 ((w2.alloc (.cells #[.pointer (some ⟨t, 0, none⟩)] TT)).alloc (.cells #[vk] TF)) := ((Below.refl _ _).alloc (Nat.le_refl _) _).alloc (by simp) _
  have ct : ((w2.alloc (.cells #[.pointer (some ⟨t, 0, none⟩)] TT)).alloc (.cells #[vk] TF)).cell? ⟨w2.heap.size, 0, none⟩ = some (.pointer (some ⟨t, 0, none⟩)) := (World.cell?_alloc_lt _ _ _ (by simp)).trans (by simp)
  have ck : ((w2.alloc (.cells #[.pointer (some ⟨t, 0, none⟩)] TT)).alloc (.cells #[vk] TF)).cell? ⟨w2.heap.size + 1, 0, none⟩ = some vk := by rw [← e0]; simp
  exact ⟨⟨own_below X2 hb, own_below Y2 hb, ct, by omega, rnkTB_below T2 hb, ⟨by omega, by omega, by omega⟩, ⟨by omega, by omega⟩, B2.trans (hb.mono B2.size)⟩, ck, by omega⟩
end
set_option maxHeartbeats 1600000 in
theorem boWorst1_any (v : Int) {W w : World} {bx bg bt B t : Nat} {l : Int} {L : List Nd} {x g : Int} (h : BoWo 3 W w bx bg bt B t l L x g) :
    Calls Tryz.prog 50 #[.int .i64 v, .pointer (some ⟨bt, 0, none⟩), .pointer (some ⟨bg, 0, none⟩), .pointer (some ⟨bx, 0, none⟩)] w fun e w' => e = .returned (.tuple #[]) ∧
      BoWo 3 W w' bx bg bt B t l L (wcS l L v (x, g)).1 (wcS l L v (x, g)).2 ∧ Kp (fun i => i = bx ∨ i = bg) w w' := by
  have lb := low_bd h.tb.1 v
  have hb := high_bd h.tb.1 v
  have H0 := Lib.hid h
  have BT := Lib.hid (fun (u : World) (q : Below w.heap.size w u) => rnkTBoth_any v u (rnkTB_below h.tb q))
  have GY : Hid (g < highR l L v - lowR l L v ∨ (highR l L v - lowR l L v = g ∧ v < x) → (wcS l L v (x, g)).1 = v ∧ (wcS l L v (x, g)).2 = highR l L v - lowR l L v) := fun h => wcS_yes h
  have GN : Hid (¬ (g < highR l L v - lowR l L v ∨ (highR l L v - lowR l L v = g ∧ v < x)) → (wcS l L v (x, g)).1 = x ∧ (wcS l L v (x, g)).2 = g) := fun h => wcS_no h
  obtain ⟨cx, cg, ct, fx, fg, zx, zg, zt⟩ := h.cells
  clear h
  generalize highR l L v = hi at *
  generalize lowR l L v = lo at *
  have wm : IntKind.i64.wrap (hi - lo) = hi - lo := wrap_lit rfl (by omega) (by omega)
  generalize (wcS l L v (x, g)).1 = u0 at *
  generalize (wcS l L v (x, g)).2 = u1 at *
  go_enter Tryz.func50, Tryz.ntmps50
  go_wp2_with fail
  refine (BT.out _ (Below.refl _ _)).mono ?_
  rintro e w1 ⟨rfl, hb1⟩
  have H1 := hb1.alloc hb1.size (.cells #[.int .i64 lo, .int .i64 hi] 36)
  have S1 := Lib.hid (H0.out.below H1)
  have K1 := Lib.hid (Kp.of (F := fun i => i = bx ∨ i = bg) H1)
  have Y1 := Lib.hid (box2 w1 36 (.int .i64 lo) (.int .i64 hi))
  clear hb1 H1 cx cg ct fx fg zx zg zt
  go_upto_region 1 with fail
  generalize w1.alloc (.cells #[.int .i64 lo, .int .i64 hi] 36) = W1 at *
  obtain ⟨y0, y1, _, _, yz⟩ := box_cells Y1.out
  obtain ⟨cx, cg, ct, fx, fg, zx, zg, zt⟩ := S1.out.cells
  obtain ⟨nbx, ntx, ntg⟩ := S1.out.ne
  have nxb : ¬ bg = bx := fun e => nbx e.symm
  obtain ⟨S2, K2⟩ := S1.out.set v (hi - lo)
  have S2 := Lib.hid S2
  have K2 := Lib.hid (K1.out.trans K2 fun _ _ q => q)
  rcases (show g < (hi - lo) ∨ (¬ g < (hi - lo) ∧ (hi - lo) = g ∧ v < x) ∨ (¬ g < (hi - lo) ∧ (hi - lo) = g ∧ ¬ v < x) ∨ (¬ g < (hi - lo) ∧ ¬ (hi - lo) = g) by omega) with q | q | q | q
  · obtain ⟨e1, e2⟩ := GY.out (.inl q)
    subst e1 e2
    go_wp2_with fail
    go_end0
    exact ⟨rfl, S2.out, K2.out⟩
  · obtain ⟨e1, e2⟩ := GY.out (.inr q.2)
    subst e1 e2
    obtain ⟨q1, q2, q3⟩ := q
    rw [q2] at S2 K2
    go_wp2_with fail
    go_end0
    exact ⟨rfl, S2.out, K2.out⟩
  · obtain ⟨q1, q2, q3⟩ := q
    obtain ⟨e1, e2⟩ := GN.out (by omega)
    subst e1 e2
    go_wp2_with fail
    go_end0
    exact ⟨rfl, S1.out, K1.out⟩
  · obtain ⟨q1, q2⟩ := q
    have q3 : (hi - lo == g) = false := by simpa using q2
    obtain ⟨e1, e2⟩ := GN.out (by omega)
    subst e1 e2
    go_wp2_with fail
    go_end0
    exact ⟨rfl, S1.out, K1.out⟩
theorem boWorst2_any (v a b : Int) {W w : World} {bx bg bt B t bk : Nat} {l : Int} {L : List Nd} {x g : Int} (h : BoWo 3 W w bx bg bt B t l L x g) (ck : w.cell? ⟨bk, 0, none⟩ = some (.func (.func 50) #[] #[.pointer (some ⟨bt, 0, none⟩), .pointer (some ⟨bg, 0, none⟩), .pointer (some ⟨bx, 0, none⟩)])) (zk : bk < w.heap.size) :
    Calls Tryz.prog 52 #[.int .i64 v, .int .i64 a, .int .i64 b, .pointer (some ⟨bk, 0, none⟩)] w fun e w' => e = .returned (.tuple #[]) ∧
      BoWo 3 W w' bx bg bt B t l L (wcS l L v (x, g)).1 (wcS l L v (x, g)).2 ∧ Kp (fun i => i = bx ∨ i = bg) w w' := by
  have C1 := Lib.hid (boWorst1_any v h)
  generalize (wcS l L v (x, g)).1 = u0 at *
  generalize (wcS l L v (x, g)).2 = u1 at *
  have eg := enters_of Tryz.func50 (by kernel_rfl) rfl
  clear h
  go_enter Tryz.func52, Tryz.ntmps52
  go_wp2_with fail
  refine C1.out.mono ?_
  rintro e w1 ⟨rfl, h1, k1⟩
  have S1 := Lib.hid h1
  have K1 := Lib.hid k1
  clear h1 k1
  go_wp2_with fail
  go_end0
  exact ⟨rfl, S1.out, K1.out⟩
set_option maxHeartbeats 1600000 in
theorem boWorst_nil (w : World) : Calls Tryz.prog 21 #[.pointer none] w fun e w' => e = .returned (.tuple #[.int .i64 0, .int .i64 0, .int .i64 1]) ∧ Below w.heap.size w w' := by
  obtain ⟨h2, hr1, hr2⟩ := bo_two w 3 (.int .i64 0) (.int .i64 0)
  have B0 := Lib.hid h2
  have X0 := Lib.hid hr1
  have Y0 := Lib.hid hr2
  clear h2 hr1 hr2
  go_enter Tryz.func21, Tryz.ntmps21
  go_wp2_with fail
  generalize (w.alloc (.cells #[.int .i64 0] 3)).alloc (.cells #[.int .i64 0] 3) = W at *
  refine (boRefused_nil _).mono ?_
  rintro e w1 ⟨rfl, hb1⟩
  have X1 := own_below X0.out hb1
  have Y1 := own_below Y0.out hb1
  have cx := X1.cellAt 0 (by omega)
  have fx := X1.frozenAt 0
  have zx := (X1.lt _ rfl).2
  have cy := Y1.cellAt 0 (by omega)
  have fy := Y1.frozenAt 0
  have zy := (Y1.lt _ rfl).2
  obtain ⟨t0, t1, tb⟩ := bo_pair X1 Y1 (by omega) (.int .i64 0) (.int .i64 0)
  have BE := Lib.hid ((B0.out.trans (hb1.mono B0.out.size)).trans tb)
  clear hb1 tb X1 Y1
  go_wp2_with fail
  exact bodyPost_ret (v := .tuple #[.int .i64 0, .int .i64 0, .int .i64 1]) (by simp [results, Tryz.results21, go_sem, t0, t1]) rfl ⟨rfl, BE.out⟩
set_option maxHeartbeats 3200000 in
theorem boWorst_any {B q p g h : Nat} {kd l k : Int} {n : Nat} {L : List Nd} (w : World) (d : DgA w B q p g h kd l k n L) (hn : n ≤ 400) :
    Calls Tryz.prog 21 #[.pointer (some ⟨q, 0, none⟩)] w fun e w' => e = .returned (.tuple #[.int .i64 (boV L (woF l L L).1), .int .i64 (boV L (woF l L L).2), .int .i64 (boE L)]) ∧ Below w.heap.size w w' := by
  obtain ⟨h2, hr1, hr2⟩ := bo_two w 3 (.int .i64 0) (.int .i64 0)
  have B0 := Lib.hid h2
  have X0 := Lib.hid hr1
  have Y0 := Lib.hid hr2
  clear h2 hr1 hr2
  have RF := Lib.hid (fun v (hb : Below w.heap.size w v) => boRefused_any v (d.below hb) hn)
  by_cases hs : sumC L = 0
  · obtain ⟨e1, e2⟩ := bo_no hs
    rw [e1] at RF
    rw [e1, e2, e2]
    clear d e1 e2 hs
    go_enter Tryz.func21, Tryz.ntmps21
    go_wp2_with fail
    generalize (w.alloc (.cells #[.int .i64 0] 3)).alloc (.cells #[.int .i64 0] 3) = W at *
    refine (RF.out _ B0.out).mono ?_
    rintro e w1 ⟨rfl, hb1⟩
    have X1 := own_below X0.out hb1
    have Y1 := own_below Y0.out hb1
    have cx := X1.cellAt 0 (by omega)
    have fx := X1.frozenAt 0
    have zx := (X1.lt _ rfl).2
    have cy := Y1.cellAt 0 (by omega)
    have fy := Y1.frozenAt 0
    have zy := (Y1.lt _ rfl).2
    obtain ⟨t0, t1, tb⟩ := bo_pair X1 Y1 (by omega) (.int .i64 0) (.int .i64 0)
    have BE := Lib.hid ((B0.out.trans (hb1.mono B0.out.size)).trans tb)
    clear hb1 tb X1 Y1
    go_wp2_with fail
    exact bodyPost_ret (v := .tuple #[.int .i64 0, .int .i64 0, .int .i64 7]) (by simp [results, Tryz.results21, go_sem, t0, t1]) rfl ⟨rfl, BE.out⟩
  · obtain ⟨e1, e2⟩ := bo_yes hs
    rw [e1] at RF
    rw [e1, e2, e2, ← wc_is d.v.roll]
    have OF := Lib.hid (fun v (hb : Below w.heap.size w v) => rnkOf_any v (d.below hb) hn)
    have SF : ∀ (a : Addr) (fn : Fn) (x y : Array Value) (w : World), (store a (.func fn x y)).run Tryz.prog w = stored Tryz.prog w a (.func fn x y) .plain := fun a fn x y w => run_store Tryz.prog w a _ _ rfl
    have mf : ∀ (fn : Fn) (first cap : Array Value) (w : World), (Instr.makeFunc fn first cap).run Tryz.prog w = .ok (.func fn first cap) w := fun _ _ _ _ => rfl
    have EA := Lib.hid (fun (w1 w2 : World) (t : Nat) (T2 : rnkTB w2 w1.heap.size t l L) (X2 : w2.ownsRow w.heap.size 3 1 (.slice (some ⟨w.heap.size, 0, none⟩) 1 1) 1 [.int .i64 0]) (Y2 : w2.ownsRow w.heap.size 3 1 (.slice (some ⟨w.heap.size + 1, 0, none⟩) 1 1) 1 [.int .i64 0])
      (B2 : Below w.heap.size w w2) (Z1 : w.heap.size + 2 ≤ w1.heap.size) (z2 : w1.heap.size ≤ w2.heap.size) =>
      have N0 := BoWo.new (TI := 3) (TT := 107) (TF := 110) (.func (.func 50) #[] #[.pointer (some ⟨w2.heap.size, 0, none⟩), .pointer (some ⟨w.heap.size + 1, 0, none⟩), .pointer (some ⟨w.heap.size, 0, none⟩)]) T2 X2 Y2 B2 Z1 z2
      boEach_any (F := 52) (caps := #[.pointer (some ⟨w2.heap.size + 1, 0, none⟩)])
        (I := fun j v => BoWo 3 w v w.heap.size (w.heap.size + 1) w2.heap.size w1.heap.size t l L (wcF l L (L.take j)).1 (wcF l L (L.take j)).2 ∧ v.cell? ⟨w2.heap.size + 1, 0, none⟩ = some (.func (.func 50) #[] #[.pointer (some ⟨w2.heap.size, 0, none⟩), .pointer (some ⟨w.heap.size + 1, 0, none⟩), .pointer (some ⟨w.heap.size, 0, none⟩)]) ∧ w2.heap.size + 1 < v.heap.size)
        _ (d.below N0.1.hb) (by omega)
        ⟨enters_of Tryz.func52 (by kernel_rfl) rfl, fun j v v' ⟨a, c, z⟩ hv => ⟨a.below hv, (hv.cell (p := ⟨w2.heap.size + 1, 0, none⟩) z).trans c, Nat.lt_of_lt_of_le z hv.size⟩, fun j hj v ⟨a, c, z⟩ => by
          refine (boWorst2_any (loN l (L.getD j nz).1) (hiN l (L.getD j nz).1) (L.getD j nz).2 a c z).mono ?_
          rintro e v' ⟨rfl, h1, hk⟩
          refine ⟨rfl, ⟨?_, (hk.cell z fun q => ?_).trans c, Nat.lt_of_lt_of_le z hk.size⟩, EachKp.kp hk fun i q => ?_⟩
          · show BoWo _ _ _ _ _ _ _ _ _ _ _ _
            rw [wcF_take l L hj]
            exact h1
          · rcases q with q | q <;> omega
          · have z4 := N0.2.2
            rcases q with q | q <;> omega⟩
        N0)
    rw [List.take_length] at EA
    generalize wcF l L L = P at *
    go_enter Tryz.func21, Tryz.ntmps21
    go_wp2_with fail
    have hz : ((w.alloc (.cells #[.int .i64 0] 3)).alloc (.cells #[.int .i64 0] 3)).heap.size = w.heap.size + 2 := by simp
    generalize (w.alloc (.cells #[.int .i64 0] 3)).alloc (.cells #[.int .i64 0] 3) = W at *
    refine (RF.out _ B0.out).mono ?_
    rintro e w1 ⟨rfl, hb1⟩
    have X1 := Lib.hid (own_below X0.out hb1)
    have Y1 := Lib.hid (own_below Y0.out hb1)
    have B1 := Lib.hid (B0.out.trans (hb1.mono B0.out.size))
    have Z1 : Hid (w.heap.size + 2 ≤ w1.heap.size) := by show _ ≤ _; have := hb1.size; omega
    clear hb1 hz
    go_wp2_with fail
    refine (OF.out _ B1.out).mono ?_
    rintro e w2 ⟨⟨t, rfl, ht⟩, hb2⟩
    have T2 := Lib.hid ht
    have X2 := Lib.hid (own_below X1.out hb2)
    have Y2 := Lib.hid (own_below Y1.out hb2)
    have B2 := Lib.hid (B1.out.trans (hb2.mono B1.out.size))
    have Z2 : Hid (w.heap.size + 2 ≤ w2.heap.size) := by show _ ≤ _; have := hb2.size; have := Z1.out; omega
    have E2 := Lib.hid (EA.out w1 w2 t T2.out X2.out Y2.out B2.out Z1.out hb2.size)
    clear ht hb2 EA T2 X2 Y2 X1 Y1
    go_wp2_with fail
    refine E2.out.mono ?_
    rintro e w3 ⟨rfl, hE, _, _⟩
    have E3 := Lib.hid hE
    obtain ⟨cx, cg, _, fx, fg, zx, zg, _⟩ := hE.cells
    obtain ⟨t0, t1, tb⟩ := bo_pair hE.rx hE.rg (by omega) (.int .i64 P.1) (.int .i64 P.2)
    have BE := Lib.hid ((hE.hb.trans tb).trans ((below_drew _).mono (hE.hb.trans tb).size))
    clear hE tb E3 E2
    go_wp2_with fail
    go_region
    all_goals (go_wp2_with fail; exact bodyPost_ret (v := .tuple #[.int .i64 P.1, .int .i64 P.2, .int .i64 0]) (by simp [results, Tryz.results21, go_sem, t0, t1]) rfl ⟨rfl, BE.out⟩)
theorem boWithin_nil (a b : Int) (w : World) : Calls Tryz.prog 22 #[.pointer none, .int .i64 a, .int .i64 b] w fun e w' => e = .returned (.tuple #[.bool false, .int .i64 1]) ∧ Below w.heap.size w w' := by
  go_enter Tryz.func22, Tryz.ntmps22
  go_wp2_with fail
  refine (boWorst_nil _).mono ?_
  rintro e w1 ⟨rfl, hb1⟩
  have B1 := Lib.hid hb1
  clear hb1
  go_wp2_with fail
  go_ret2
  exact ⟨rfl, B1.out⟩
set_option maxHeartbeats 1600000 in
theorem boWithin_any (a b : Int) {B q p g h : Nat} {kd l k : Int} {n : Nat} {L : List Nd} (w : World) (d : DgA w B q p g h kd l k n L) (hn : n ≤ 400) (a0 : -9223372036854775808 ≤ a) (a1 : a ≤ 9223372036854775807) (b0 : -9223372036854775808 ≤ b) (b1 : b ≤ 9223372036854775807) :
    Calls Tryz.prog 22 #[.pointer (some ⟨q, 0, none⟩), .int .i64 a, .int .i64 b] w fun e w' => e = .returned (.tuple #[.bool (wiB l L a b), .int .i64 (wiE L a b)]) ∧ Below w.heap.size w w' := by
  have WO := Lib.hid (boWorst_any w d hn)
  by_cases hs : sumC L = 0
  · obtain ⟨e1, e2⟩ := bo_no hs
    rw [e1, e2, e2] at WO
    have E : wiE L a b = 7 := if_pos hs
    have Wb : wiB l L a b = false := decide_eq_false fun q => by rw [E] at q; omega
    rw [E, Wb]
    clear d e1 e2 hs E Wb
    go_enter Tryz.func22, Tryz.ntmps22
    go_wp2_with fail
    refine WO.out.mono ?_
    rintro e w1 ⟨rfl, hb1⟩
    have B1 := Lib.hid hb1
    clear hb1
    go_wp2_with fail
    go_ret2
    exact ⟨rfl, B1.out⟩
  · obtain ⟨e1, e2⟩ := bo_yes hs
    rw [e1, e2, e2] at WO
    by_cases hab : a < 0 ∨ b < 1
    · have E : wiE L a b = 2 := by unfold wiE; rw [if_neg hs, if_pos hab]
      have Wb : wiB l L a b = false := decide_eq_false fun q => by rw [E] at q; omega
      rw [E, Wb]
      clear d e1 e2 hs E Wb
      generalize (woF l L L).1 = x at *
      generalize (woF l L L).2 = y at *
      rcases (show a < 0 ∨ (¬ a < 0 ∧ b < 1) by omega) with q | q
      · clear hab
        go_enter Tryz.func22, Tryz.ntmps22
        go_wp2_with fail
        refine WO.out.mono ?_
        rintro e w1 ⟨rfl, hb1⟩
        have B1 := Lib.hid hb1
        clear hb1
        go_wp2_with fail
        go_ret2
        exact ⟨rfl, B1.out⟩
      · clear hab
        obtain ⟨q1, q2⟩ := q
        go_enter Tryz.func22, Tryz.ntmps22
        go_wp2_with fail
        refine WO.out.mono ?_
        rintro e w1 ⟨rfl, hb1⟩
        have B1 := Lib.hid hb1
        clear hb1
        go_wp2_with fail
        go_ret2
        exact ⟨rfl, B1.out⟩
    · have E : wiE L a b = 0 := by unfold wiE; rw [if_neg hs, if_neg hab]
      have wo := wo_is d.v.roll
      have g0 : 0 ≤ (woF l L L).2 ∧ (woF l L L).2 ≤ 72057594037927935 := by
        have q1 := wo.at'
        have q2 := low_high d.v.roll (woF l L L).1
        have q3 := high_bd d.v.roll (woF l L L).1
        have q4 := low_bd d.v.roll (woF l L L).1
        unfold gW at q1
        omega
      have nn := mean_parts d.v.roll hs (loN l) (roll_val d.v.roll).1
      have OC : ordC (woF l L L).2 b a (sumC L) := ⟨g0.1, by omega, by omega, by omega⟩
      have OY := ord_yes OC
      have OR := Lib.hid (fun v => rpOrder_any (woF l L L).2 b a (sumC L) v (by omega) (by omega) b0 b1 a0 a1 (by omega) (by omega))
      rw [OY.1, OY.2] at OR
      have NN := Lib.hid (fun v (hb : Below w.heap.size w v) => dgN_any v (d.below hb).box (d.below hb).po (by omega))
      have Wb : wiB l L a b = decide (cmp3 ((woF l L L).2 * b) (a * sumC L) ≤ 0) := by
        unfold wiB
        rw [E, decide_eq_decide, cmp3]
        split
        · omega
        · split <;> omega
      rw [E, Wb]
      clear d e1 e2 hs E Wb wo OC OY
      have h1 : (a < 0) = False := by simp; omega
      obtain ⟨ha, hb⟩ : ¬ a < 0 ∧ ¬ b < 1 := by omega
      generalize cmp3 ((woF l L L).2 * b) (a * sumC L) = cc at *
      generalize (woF l L L).1 = x at *
      generalize (woF l L L).2 = y at *
      generalize sumC L = N at *
      clear hab h1
      go_enter Tryz.func22, Tryz.ntmps22
      go_wp2_with fail
      refine WO.out.mono ?_
      rintro e w1 ⟨rfl, hb1⟩
      have B1 := Lib.hid hb1
      clear hb1
      go_wp2_with fail
      refine (NN.out _ B1.out).mono ?_
      rintro e w2 ⟨rfl, hb2⟩
      have B2 := Lib.hid (B1.out.trans (hb2.mono B1.out.size))
      clear hb2
      go_wp2_with fail
      refine (OR.out _).mono ?_
      rintro e w3 ⟨rfl, hb3⟩
      have B3 := Lib.hid (B2.out.trans (hb3.mono B2.out.size))
      clear hb3
      go_wp2_with fail
      go_ret2
      exact ⟨rfl, B3.out⟩

end Go.Proofs.YtkoefclkpdpdpaaGreat
