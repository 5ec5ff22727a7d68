/- The project's package gap: Most. -/
import Derived.Test.YtelekchdbiimiaaGreatGpP3
namespace Go.Proofs.YtelekchdbiimiaaGreat
set_option linter.unusedVariables false
set_option maxRecDepth 100000
open Go.RowKit Go.Shelf
attribute [local go_sem] Oper.semAt_some
/-- what the loop goes on with: both tables' boxes, the two greatest numbers, the closures that gather them, and what is told -/
structure GpMs (TT TI TG TB : TypeId) (F B : Nat) (w : World) (bA bB b1 b2 bl bh bm t1 t2 : Nat) (m1 m2 y1 y2 : Int) : Prop where
  ra : w.ownsRow B TT 1 (.slice (some ⟨bA, 0, none⟩) 1 1) 1 [.pointer (some ⟨t1, 0, none⟩)]
  rb : w.ownsRow B TT 1 (.slice (some ⟨bB, 0, none⟩) 1 1) 1 [.pointer (some ⟨t2, 0, none⟩)]
  r1 : w.ownsRow B TI 1 (.slice (some ⟨b1, 0, none⟩) 1 1) 1 [.int .i64 m1]
  r2 : w.ownsRow B TI 1 (.slice (some ⟨b2, 0, none⟩) 1 1) 1 [.int .i64 m2]
  rl : w.ownsRow B TG 1 (.slice (some ⟨bl, 0, none⟩) 1 1) 1 [.func (.func F) #[] #[.pointer (some ⟨b1, 0, none⟩)]]
  rh : w.ownsRow B TG 1 (.slice (some ⟨bh, 0, none⟩) 1 1) 1 [.func (.func F) #[] #[.pointer (some ⟨b2, 0, none⟩)]]
  rm : w.ownsRow B TB 2 (.slice (some ⟨bm, 0, none⟩) 1 1) 1 [.int .i64 y1, .int .i64 y2]
  ne : bA < bB ∧ bB < b1 ∧ b1 < b2 ∧ b2 < bl ∧ bl < bh ∧ bh < bm
section
variable {TT TI TG TB : TypeId} {F B : Nat} {w : World} {bA bB b1 b2 bl bh bm t1 t2 : Nat} {m1 m2 y1 y2 : Int}
theorem GpMs.below {w' : World} (h : GpMs TT TI TG TB F B w bA bB b1 b2 bl bh bm t1 t2 m1 m2 y1 y2) (q : Below w.heap.size w w') : GpMs TT TI TG TB F B w' bA bB b1 b2 bl bh bm t1 t2 m1 m2 y1 y2 :=
  ⟨own_below h.ra q, own_below h.rb q, own_below h.r1 q, own_below h.r2 q, own_below h.rl q, own_below h.rh q, own_below h.rm q, h.ne⟩
theorem GpMs.grown {w' : World} {row : Option Nat} (h : GpMs TT TI TG TB F B w bA bB b1 b2 bl bh bm t1 t2 m1 m2 y1 y2) (hg : w.grownBy w' row) (hr : ∀ r, row = some r → ∃ o : Obj, w.heap[r]? = some o ∧ o.isCells = false) : GpMs TT TI TG TB F B w' bA bB b1 b2 bl bh bm t1 t2 m1 m2 y1 y2 :=
  ⟨row_grown h.ra hg hr, row_grown h.rb hg hr, row_grown h.r1 hg hr, row_grown h.r2 hg hr, row_grown h.rl hg hr, row_grown h.rh hg hr, row_grown h.rm hg hr, h.ne⟩
theorem GpMs.set1 (h : GpMs TT TI TG TB F B w bA bB b1 b2 bl bh bm t1 t2 m1 m2 y1 y2) (u : Int) : GpMs TT TI TG TB F B (w.setCell ⟨b1, 0, none⟩ (.int .i64 u)) bA bB b1 b2 bl bh bm t1 t2 u m2 y1 y2 := by
  have k : Kp (fun i => i = b1) w (w.setCell ⟨b1, 0, none⟩ (.int .i64 u)) := Kp.setCell w ⟨b1, 0, none⟩ (.int .i64 u)
  have n := h.ne
  exact ⟨own_kp h.ra k (gp_own (by omega)), own_kp h.rb k (gp_own (by omega)), (h.r1.stored 0 _).1, own_kp h.r2 k (gp_own (by omega)), own_kp h.rl k (gp_own (by omega)), own_kp h.rh k (gp_own (by omega)), own_kp h.rm k (gp_own (by omega)), n⟩
theorem GpMs.set2 (h : GpMs TT TI TG TB F B w bA bB b1 b2 bl bh bm t1 t2 m1 m2 y1 y2) (u : Int) : GpMs TT TI TG TB F B (w.setCell ⟨b2, 0, none⟩ (.int .i64 u)) bA bB b1 b2 bl bh bm t1 t2 m1 u y1 y2 := by
  have k : Kp (fun i => i = b2) w (w.setCell ⟨b2, 0, none⟩ (.int .i64 u)) := Kp.setCell w ⟨b2, 0, none⟩ (.int .i64 u)
  have n := h.ne
  exact ⟨own_kp h.ra k (gp_own (by omega)), own_kp h.rb k (gp_own (by omega)), own_kp h.r1 k (gp_own (by omega)), (h.r2.stored 0 _).1, own_kp h.rl k (gp_own (by omega)), own_kp h.rh k (gp_own (by omega)), own_kp h.rm k (gp_own (by omega)), n⟩
theorem GpMs.setL (h : GpMs TT TI TG TB F B w bA bB b1 b2 bl bh bm t1 t2 m1 m2 y1 y2) (u : Int) : GpMs TT TI TG TB F B (w.setCell ⟨bm, 0, none⟩ (.int .i64 u)) bA bB b1 b2 bl bh bm t1 t2 m1 m2 u y2 := by
  have k : Kp (fun i => i = bm) w (w.setCell ⟨bm, 0, none⟩ (.int .i64 u)) := Kp.setCell w ⟨bm, 0, none⟩ (.int .i64 u)
  have n := h.ne
  exact ⟨own_kp h.ra k (gp_own (by omega)), own_kp h.rb k (gp_own (by omega)), own_kp h.r1 k (gp_own (by omega)), own_kp h.r2 k (gp_own (by omega)), own_kp h.rl k (gp_own (by omega)), own_kp h.rh k (gp_own (by omega)), (h.rm.stored 0 _).1, n⟩
theorem GpMs.setH (h : GpMs TT TI TG TB F B w bA bB b1 b2 bl bh bm t1 t2 m1 m2 y1 y2) (u : Int) : GpMs TT TI TG TB F B (w.setCell ⟨bm, 1, none⟩ (.int .i64 u)) bA bB b1 b2 bl bh bm t1 t2 m1 m2 y1 u := by
  have k : Kp (fun i => i = bm) w (w.setCell ⟨bm, 1, none⟩ (.int .i64 u)) := Kp.setCell w ⟨bm, 1, none⟩ (.int .i64 u)
  have n := h.ne
  exact ⟨own_kp h.ra k (gp_own (by omega)), own_kp h.rb k (gp_own (by omega)), own_kp h.r1 k (gp_own (by omega)), own_kp h.r2 k (gp_own (by omega)), own_kp h.rl k (gp_own (by omega)), own_kp h.rh k (gp_own (by omega)), (h.rm.stored 1 _).1, n⟩
theorem GpMs.cells (h : GpMs TT TI TG TB F B w bA bB b1 b2 bl bh bm t1 t2 m1 m2 y1 y2) : w.cell? ⟨bA, 0, none⟩ = some (.pointer (some ⟨t1, 0, none⟩)) ∧ w.cell? ⟨bB, 0, none⟩ = some (.pointer (some ⟨t2, 0, none⟩)) ∧ w.cell? ⟨bl, 0, none⟩ = some (.func (.func F) #[] #[.pointer (some ⟨b1, 0, none⟩)]) ∧ w.cell? ⟨bh, 0, none⟩ = some (.func (.func F) #[] #[.pointer (some ⟨b2, 0, none⟩)])
    ∧ w.cell? ⟨bm, 0, none⟩ = some (.int .i64 y1) ∧ w.cell? ⟨bm, 1, none⟩ = some (.int .i64 y2) ∧ w.frozen? ⟨bm, 0, none⟩ = false ∧ w.frozen? ⟨bm, 1, none⟩ = false ∧ bA < w.heap.size ∧ bB < w.heap.size ∧ bl < w.heap.size ∧ bh < w.heap.size ∧ bm < w.heap.size :=
  ⟨h.ra.cellAt 0 (by omega), h.rb.cellAt 0 (by omega), h.rl.cellAt 0 (by omega), h.rh.cellAt 0 (by omega), h.rm.cellAt 0 (by omega), h.rm.cellAt 1 (by omega), h.rm.frozenAt 0, h.rm.frozenAt 1, (h.ra.lt _ rfl).2, (h.rb.lt _ rfl).2, (h.rl.lt _ rfl).2, (h.rh.lt _ rfl).2, (h.rm.lt _ rfl).2⟩
theorem GpMs.blk (h : GpMs TT TI TG TB F B w bA bB b1 b2 bl bh bm t1 t2 m1 m2 y1 y2) : ∀ k, k < w.heap.size → (k = b1 ∨ k = b2 ∨ k = bm) → ∃ o : Obj, w.heap[k]? = some o ∧ o.isCells = true := fun k _ q => by
  rcases q with rfl | rfl | rfl
  · exact cells_of_cell (h.r1.cellAt 0 (by omega) : w.cell? ⟨k, 0, none⟩ = some _)
  · exact cells_of_cell (h.r2.cellAt 0 (by omega) : w.cell? ⟨k, 0, none⟩ = some _)
  · exact cells_of_cell (h.rm.cellAt 0 (by omega) : w.cell? ⟨k, 0, none⟩ = some _)
end
/-- the elements of a row of places -/
theorem gp_mapall (C : List Int) : (List.range C.length).map (gpEl C) = C := by
  refine List.ext_getElem (by simp) fun i h1 h2 => ?_
  rw [List.getElem_map, List.getElem_range]
  unfold gpEl
  rw [List.getD_eq_getElem?_getD, List.getElem?_eq_getElem h2, Option.getD_some]
theorem gp_kp {T : TypeId} {w : World} {B p q o : Nat} {e : TypeId} {xs : List Value} (r : w.ownsRow B e 2 (.slice (some ⟨p, 0, none⟩) 1 1) 1 xs) (h : p ≠ q) (u : Value) : (w.setCell ⟨q, o, none⟩ u).ownsRow B e 2 (.slice (some ⟨p, 0, none⟩) 1 1) 1 xs :=
  own_kp (F := fun i => i = q) r (Kp.setCell w ⟨q, o, none⟩ u) (gp_own h)
theorem gpMx_snoc (f : Int → Int) (C : List Int) (pre : List Nat) (x : Nat) : mxF f ((pre ++ [x]).map (gpEl C)) = max (mxF f (pre.map (gpEl C))) (f (gpEl C x)) := by
  rw [List.map_append]; exact mxF_snoc f _ _
/-- two boxes that may have been made, and what they hold -/
structure GpR (T : TypeId) (W u : World) (s t : Option (Nat × Value × Value)) : Prop where
  hb : Below W.heap.size W u
  hs : ∀ g a b, s = some (g, a, b) → u.ownsRow W.heap.size T 2 (.slice (some ⟨g, 0, none⟩) 1 1) 1 [a, b]
  ht : ∀ g a b, t = some (g, a, b) → u.ownsRow W.heap.size T 2 (.slice (some ⟨g, 0, none⟩) 1 1) 1 [a, b]
  ne : ∀ g a b h c d, s = some (g, a, b) → t = some (h, c, d) → g ≠ h
section
variable {T : TypeId} {W u : World} {s t : Option (Nat × Value × Value)}
theorem GpR.call {v : World} (r : GpR T W u s t) (h : Below u.heap.size u v) : GpR T W v s t := ⟨r.hb.trans (h.mono r.hb.size), fun g a b e => own_below (r.hs g a b e) h, fun g a b e => own_below (r.ht g a b e) h, r.ne⟩
theorem GpR.al1 (r : GpR T W u none t) : GpR T W (u.alloc (.cells #[.int .i64 0, .int .i64 0] T)) (some (u.heap.size, .int .i64 0, .int .i64 0)) t :=
  ⟨r.hb.alloc r.hb.size _, fun g a b e => by cases e; exact own_low (box2 ..) r.hb.size, fun g a b e => (r.ht g a b e).alloc _, fun g a b h c d e f => by cases e; have := ((r.ht h c d f).lt h rfl).2; omega⟩
theorem GpR.al2 (r : GpR T W u s none) : GpR T W (u.alloc (.cells #[.int .i64 0, .int .i64 0] T)) s (some (u.heap.size, .int .i64 0, .int .i64 0)) :=
  ⟨r.hb.alloc r.hb.size _, fun g a b e => (r.hs g a b e).alloc _, fun g a b e => by cases e; exact own_low (box2 ..) r.hb.size, fun g a b h c d e f => by cases f; have := ((r.hs g a b e).lt g rfl).2; omega⟩
theorem GpR.st1 {g h : Nat} {x y z v : Value} (r : GpR T W u (some (g, x, y)) (some (h, z, v))) (a b : Value) : GpR T W ((u.setCell ⟨g, 0, none⟩ a).setCell ⟨g, 1, none⟩ b) (some (g, a, b)) (some (h, z, v)) := by
  have s := box_set (r.hs _ _ _ rfl) a b
  have n := r.ne _ _ _ _ _ _ rfl rfl
  exact ⟨r.hb.trans s.2.2.1, fun g' a' b' e => by cases e; exact s.1, fun g' a' b' e => by cases e; exact gp_kp (T := T) (gp_kp (T := T) (r.ht _ _ _ rfl) (Ne.symm n) a) (Ne.symm n) b, fun g' a' b' h' c' d' e f => by cases e; cases f; exact n⟩
theorem GpR.st2 {g h : Nat} {x y z v : Value} (r : GpR T W u (some (g, x, y)) (some (h, z, v))) (a b : Value) : GpR T W ((u.setCell ⟨h, 0, none⟩ a).setCell ⟨h, 1, none⟩ b) (some (g, x, y)) (some (h, a, b)) := by
  have s := box_set (r.ht _ _ _ rfl) a b
  have n := r.ne _ _ _ _ _ _ rfl rfl
  exact ⟨r.hb.trans s.2.2.1, fun g' a' b' e => by cases e; exact gp_kp (T := T) (gp_kp (T := T) (r.hs _ _ _ rfl) n a) n b, fun g' a' b' e => by cases e; exact s.1, fun g' a' b' h' c' d' e f => by cases e; cases f; exact n⟩
end
theorem gp_funs (w : World) (TG TB : TypeId) (f g : Value) : ∃ W, W = ((w.alloc (.cells #[f] TG)).alloc (.cells #[g] TG)).alloc (.cells #[.int .i64 0, .int .i64 0] TB)
    ∧ Below w.heap.size w W ∧ W.ownsRow w.heap.size TG 1 (.slice (some ⟨w.heap.size, 0, none⟩) 1 1) 1 [f] ∧ W.ownsRow w.heap.size TG 1 (.slice (some ⟨w.heap.size + 1, 0, none⟩) 1 1) 1 [g] ∧ W.ownsRow w.heap.size TB 2 (.slice (some ⟨w.heap.size + 1 + 1, 0, none⟩) 1 1) 1 [.int .i64 0, .int .i64 0] := by
  obtain ⟨hb, r1, r2, sz⟩ := gp_two w TG TG f g
  have sz2 : ((w.alloc (.cells #[f] TG)).alloc (.cells #[g] TG)).heap.size = w.heap.size + 1 + 1 := by simp
  have r3 := box2 ((w.alloc (.cells #[f] TG)).alloc (.cells #[g] TG)) TB (.int .i64 0) (.int .i64 0)
  rw [sz2] at r3
  exact ⟨_, rfl, hb.alloc hb.size _, r1.alloc _, r2.alloc _, own_low r3 (by omega)⟩
theorem gpHeld3 {W a b : World} {p q r : Nat} {x y z : Value} (h : a.cell? ⟨p, 0, none⟩ = some x ∧ a.cell? ⟨q, 0, none⟩ = some y ∧ a.cell? ⟨r, 0, none⟩ = some z) (hb : Below W.heap.size a b) (hp : p < W.heap.size) (hq : q < W.heap.size) (hr : r < W.heap.size) : b.cell? ⟨p, 0, none⟩ = some x ∧ b.cell? ⟨q, 0, none⟩ = some y ∧ b.cell? ⟨r, 0, none⟩ = some z :=
  ⟨(hb.cell (p := ⟨p, 0, none⟩) hp).trans h.1, (hb.cell (p := ⟨q, 0, none⟩) hq).trans h.2.1, (hb.cell (p := ⟨r, 0, none⟩) hr).trans h.2.2⟩
theorem gpGreatest_any (w : World) : Calls Tryz.prog 34 #[] w fun e w' => e = .returned (.func (.func 70) #[] #[.pointer (some ⟨w.heap.size, 0, none⟩)]) ∧ w' = w.alloc (.cells #[.int .i64 0] 3) := by
  have mf : ∀ (fn : Fn) (first cap : Array Value) (w : World), (Instr.makeFunc fn first cap).run Tryz.prog w = .ok (.func fn first cap) w := fun _ _ _ _ => rfl
  go_enter Tryz.func34, Tryz.ntmps34
  go_wp2_with fail
  go_ret
  exact ⟨rfl, rfl⟩
set_option maxHeartbeats 1600000 in
theorem gpGreatest1_any {b g : Nat} {m x y : Int} (w : World) (c0 : w.cell? ⟨g, 0, none⟩ = some (.int .i64 x)) (c1 : w.cell? ⟨g, 1, none⟩ = some (.int .i64 y)) (gz : g < w.heap.size) (cb : w.cell? ⟨b, 0, none⟩ = some (.int .i64 m)) (fb : w.frozen? ⟨b, 0, none⟩ = false) (bz : b < w.heap.size) (ne : ¬ g = b) :
    Calls Tryz.prog 70 #[.slice (some ⟨g, 0, none⟩) 2 2, .pointer (some ⟨b, 0, none⟩)] w fun e w' => e = .returned (.int .i64 (max m (max x y))) ∧ w' = (w.setCell ⟨b, 0, none⟩ (.int .i64 (max m x))).setCell ⟨b, 0, none⟩ (.int .i64 (max m (max x y))) := by
  have ne2 : ¬ b = g := fun e => ne e.symm
  go_enter Tryz.func70, Tryz.ntmps70
  go_wp2_with fail
  refine wp_loop_rounds 3 ?_
  rw [rounds_succ]
  go_wp2_with fail
  rw [rounds_succ]
  go_wp2_with fail
  rw [rounds_succ]
  go_wp2_with fail
  go_ret
  exact ⟨rfl, rfl⟩
abbrev GpMsA (B : Nat) (w : World) (bA bB b1 b2 bl bh bm t1 t2 : Nat) (m1 m2 y1 y2 : Int) : Prop := GpMs 85 3 93 46 70 B w bA bB b1 b2 bl bh bm t1 t2 m1 m2 y1 y2
theorem gpGat1 {B bA bB b1 b2 bl bh bm t1 t2 : Nat} {m1 m2 y1 y2 : Int} (x y : Int) (w : World) (h : GpMsA B w bA bB b1 b2 bl bh bm t1 t2 m1 m2 y1 y2) :
    Calls Tryz.prog 70 #[.slice (some ⟨w.heap.size, 0, none⟩) 2 2, .pointer (some ⟨b1, 0, none⟩)] (w.alloc (.cells #[.int .i64 x, .int .i64 y] 3)) fun e w' => e = .returned (.int .i64 (max m1 (max x y))) ∧ GpMsA B w' bA bB b1 b2 bl bh bm t1 t2 (max m1 (max x y)) m2 y1 y2 ∧ Kp (fun i => i = b1) w w' := by
  have hb := below_one w (.cells #[.int .i64 x, .int .i64 y] 3)
  have h2 := h.below hb
  have x2 := box2 w 3 (.int .i64 x) (.int .i64 y)
  have l1 := (h.r1.lt b1 rfl).2
  refine (gpGreatest1_any (b := b1) (g := w.heap.size) _ (x2.cellAt 0 (by omega)) (x2.cellAt 1 (by omega)) (x2.lt _ rfl).2 (h2.r1.cellAt 0 (by omega)) (h2.r1.frozenAt 0) (h2.r1.lt _ rfl).2 (by omega)).mono ?_
  rintro e w' ⟨rfl, rfl⟩
  exact ⟨rfl, (h2.set1 _).set1 _, (Kp.of (F := fun i => i = b1) hb).trans ((Kp.setCell _ ⟨b1, 0, none⟩ _).trans (Kp.setCell _ ⟨b1, 0, none⟩ _) fun _ _ q => q) fun _ _ q => q⟩
theorem gpGat2 {B bA bB b1 b2 bl bh bm t1 t2 : Nat} {m1 m2 y1 y2 : Int} (x y : Int) (w : World) (h : GpMsA B w bA bB b1 b2 bl bh bm t1 t2 m1 m2 y1 y2) :
    Calls Tryz.prog 70 #[.slice (some ⟨w.heap.size, 0, none⟩) 2 2, .pointer (some ⟨b2, 0, none⟩)] (w.alloc (.cells #[.int .i64 x, .int .i64 y] 3)) fun e w' => e = .returned (.int .i64 (max m2 (max x y))) ∧ GpMsA B w' bA bB b1 b2 bl bh bm t1 t2 m1 (max m2 (max x y)) y1 y2 ∧ Kp (fun i => i = b2) w w' := by
  have hb := below_one w (.cells #[.int .i64 x, .int .i64 y] 3)
  have h2 := h.below hb
  have x2 := box2 w 3 (.int .i64 x) (.int .i64 y)
  have l1 := (h.r2.lt b2 rfl).2
  refine (gpGreatest1_any (b := b2) (g := w.heap.size) _ (x2.cellAt 0 (by omega)) (x2.cellAt 1 (by omega)) (x2.lt _ rfl).2 (h2.r2.cellAt 0 (by omega)) (h2.r2.frozenAt 0) (h2.r2.lt _ rfl).2 (by omega)).mono ?_
  rintro e w' ⟨rfl, rfl⟩
  exact ⟨rfl, (h2.set2 _).set2 _, (Kp.of (F := fun i => i = b2) hb).trans ((Kp.setCell _ ⟨b2, 0, none⟩ _).trans (Kp.setCell _ ⟨b2, 0, none⟩ _) fun _ _ q => q) fun _ _ q => q⟩
set_option maxHeartbeats 12800000 in
theorem gpMost_in {B1 q1 p1 g1 h1 B2 q2 p2 g2 h2 : Nat} {kd1 l k1 kd2 k2 : Int} {n1 n2 : Nat} {L M : List Nd} (den : Int) (w : World) (d1 : DgA w B1 q1 p1 g1 h1 kd1 l k1 n1 L) (hn1 : n1 ≤ 400) (d2 : DgA w B2 q2 p2 g2 h2 kd2 l k2 n2 M) (hn2 : n2 ≤ 400) (hg : gpE l l L M = 0) (e1 : 1 ≤ den) (e2 : den ≤ 9223372036854775807) :
    CallsIn Fence.wide 5 Tryz.prog 14 #[.pointer (some ⟨q1, 0, none⟩), .pointer (some ⟨q2, 0, none⟩), .int .i64 den] w fun e w' => e = .returned (.tuple #[.agg #[.int .i64 (mxF (mtL l L M den) (gpP l L M)), .int .i64 (mxF (mtH l L M den) (gpP l L M))], .int .i64 0]) ∧ Below w.heap.size w w' := by
  have RF := Lib.hid (fun v (hb : Below w.heap.size w v) => gpRefused_any v (d1.below hb) hn1 (d2.below hb) hn2)
  rw [hg] at RF
  obtain ⟨_, s1, s2⟩ := gpE_yes hg
  have rL := d1.v.roll
  have rM := d2.v.roll
  have hL : 0 < L.length := List.length_pos_iff.2 (fun e => s1 (by rw [e]; rfl))
  have hM : 0 < M.length := List.length_pos_iff.2 (fun e => s2 (by rw [e]; rfl))
  have sL : 1 ≤ sumC L := by have := (gp_all (x := 0) rL).2.2.1; omega
  have sM : 1 ≤ sumC M := by have := (gp_all (x := 0) rM).2.2.1; omega
  rw [← mtL_C rL rM sL sM e1 e2, ← mtH_C rL rM sL sM e1 e2]
  have OF1 := Lib.hid (fun v (hb : Below w.heap.size w v) => rnkOf_any v (d1.below hb) hn1)
  have OF2 := Lib.hid (fun v (hb : Below w.heap.size w v) => rnkOf_any v (d2.below hb) hn2)
  have P1 := Lib.hid (fun v x => gpParts_any den v (gp_all (x := x) rL) (by omega) e2)
  have P2 := Lib.hid (fun v x => gpParts_any den v (gp_all (x := x) rM) (by omega) e2)
  have BL := Lib.hid (fun x => gp_dn_bd (x := x) rL sL e1 e2)
  have BM := Lib.hid (fun x => gp_dn_bd (x := x) rM sM e1 e2)
  have CS := Lib.hid (fun n ba bb W ca cb za zb (hb : Below w.heap.size w W) (F : Nat → Prop) (hN : ∀ W' W2 k, Below W.heap.size W W' → Below W'.heap.size W' W2 → W'.heap.size ≤ k → (∃ o : Obj, W2.heap[k]? = some o ∧ o.isCells = true) → FrF F W2 k) => gpChanges_stops n ba bb (q1 := q1) (q2 := q2) hn1 hn2 hL hM (FrF F) (frF _) W ca cb za zb (d1.below hb) (d2.below hb) hN)
  clear d1 d2 hg s1 s2
  generalize gpC l L M = C at *
  have eg := enters_of Tryz.func70 (by kernel_rfl) rfl
  obtain ⟨W1, hW1⟩ : ∃ W1, W1 = (w.alloc (.cells #[.int .i64 den] 3)).alloc (.cells #[.int .i64 0, .int .i64 0] 46) := ⟨_, rfl⟩
  have hz1 : (w.alloc (.cells #[.int .i64 den] 3)).heap.size = w.heap.size + 1 := by simp
  have hb0 : Below w.heap.size w W1 := by rw [hW1]; exact ((Below.refl _ _).alloc (Nat.le_refl _) _).alloc (by simp) _
  have dr : W1.ownsRow w.heap.size 3 1 (.slice (some ⟨w.heap.size, 0, none⟩) 1 1) 1 [.int .i64 den] := by rw [hW1]; exact (box1 w _ _).alloc _
  have rr : W1.ownsRow w.heap.size 46 2 (.slice (some ⟨w.heap.size + 1, 0, none⟩) 1 1) 1 [.int .i64 0, .int .i64 0] := by
    have q := box2 (w.alloc (.cells #[.int .i64 den] 3)) 46 (.int .i64 0) (.int .i64 0)
    rw [hz1] at q
    rw [hW1]
    exact own_low q (Nat.le_succ _)
  have B0 := Lib.hid hb0
  have DR := Lib.hid dr
  have RR := Lib.hid rr
  have HW1 := Lib.hid hW1
  clear hb0 dr rr hz1 hW1
  refine callsIn_of_wp_marks Tryz.func14 rfl trivial ?_ rfl
  simp only [Tryz.ntmps14, List.size_toArray, List.length_cons, List.length_nil, Nat.reduceAdd, Nat.reduceSub, Array.replicate_succ, Array.replicate_zero, List.push_toArray, List.append_toArray, List.nil_append, List.cons_append]
  gi_wp2
  rw [← HW1.out]
  refine ⟨trivial, (callsIn_wide.2 (RF.out _ B0.out)).mono ?_⟩
  rintro e w1 ⟨rfl, hb1⟩
  have S1 := Lib.hid (B0.out.trans (hb1.mono B0.out.size))
  have D1 := Lib.hid (own_below DR.out hb1)
  have R1 := Lib.hid (own_below RR.out hb1)
  have c2 : w1.cell? ⟨w.heap.size, 0, none⟩ = some (.int .i64 den) := D1.out.cellAt 0 (by omega)
  have z2 : w.heap.size < w1.heap.size := (D1.out.lt _ rfl).2
  have hlt : ¬ den < 1 := by omega
  clear hb1 DR RR HW1
  gi_wp2
  refine ⟨trivial, (callsIn_wide.2 (OF1.out _ S1.out)).mono ?_⟩
  rintro e w2 ⟨⟨t1, rfl, ht1⟩, hb2⟩
  have S2 := Lib.hid (S1.out.trans (hb2.mono S1.out.size))
  have D2 := Lib.hid (own_below D1.out hb2)
  have R2 := Lib.hid (own_below R1.out hb2)
  have T1 := Lib.hid ht1
  clear hb2 ht1 D1 R1 c2 z2
  gi_wp2
  refine ⟨trivial, (callsIn_wide.2 (OF2.out _ S2.out)).mono ?_⟩
  rintro e w3 ⟨⟨t2, rfl, ht2⟩, hb3⟩
  have S3 := Lib.hid (S2.out.trans (hb3.mono S2.out.size))
  have D3 := Lib.hid (own_below D2.out hb3)
  have R3 := Lib.hid (own_below R2.out hb3)
  have T3 := Lib.hid (rnkTB_below T1.out hb3)
  have U3 := Lib.hid ht2
  clear hb3 ht2 D2 R2 T1 OF1 OF2 RF
  obtain ⟨hb4, ra, rb, sz4⟩ := gp_two w3 85 85 (.pointer (some ⟨t1, 0, none⟩)) (.pointer (some ⟨t2, 0, none⟩))
  have H4 := Lib.hid hb4
  have RA := Lib.hid ra
  have RB := Lib.hid rb
  have Z4 := Lib.hid sz4
  clear hb4 ra rb sz4
  gi_wp2
  generalize (w3.alloc (.cells #[.pointer (some ⟨t1, 0, none⟩)] 85)).alloc (.cells #[.pointer (some ⟨t2, 0, none⟩)] 85) = W4 at *
  refine ⟨trivial, (callsIn_wide.2 (gpGreatest_any _)).mono ?_⟩
  rintro e w5 ⟨rfl, rfl⟩
  gi_wp2
  refine ⟨trivial, (callsIn_wide.2 (gpGreatest_any _)).mono ?_⟩
  rintro e w6 ⟨rfl, rfl⟩
  obtain ⟨hb6, r1, r2, sz6⟩ := gp_two W4 3 3 (.int .i64 0) (.int .i64 0)
  have H6 := Lib.hid hb6
  have RA6 := Lib.hid (own_below RA.out hb6)
  have RB6 := Lib.hid (own_below RB.out hb6)
  have R16 := Lib.hid (own_low r1 H4.out.size)
  have R26 := Lib.hid (own_low r2 H4.out.size)
  have Z6 := Lib.hid sz6
  clear hb6 r1 r2 sz6 RA RB
  generalize (W4.alloc (.cells #[.int .i64 0] 3)).alloc (.cells #[.int .i64 0] 3) = W6 at *
  have H46 := Lib.hid (H4.out.trans (H6.out.mono H4.out.size))
  obtain ⟨W7, hW7, hb7, rl, rh, rm⟩ := gp_funs W6 93 46 (.func (.func 70) #[] #[.pointer (some ⟨W4.heap.size, 0, none⟩)]) (.func (.func 70) #[] #[.pointer (some ⟨W4.heap.size + 1, 0, none⟩)])
  have H7 := Lib.hid (H46.out.trans (hb7.mono H46.out.size))
  have MS : Hid (GpMsA w3.heap.size W7 w3.heap.size (w3.heap.size + 1) W4.heap.size (W4.heap.size + 1) W6.heap.size (W6.heap.size + 1) (W6.heap.size + 1 + 1) t1 t2 0 0 0 0) :=
    ⟨own_below RA6.out hb7, own_below RB6.out hb7, own_below R16.out hb7, own_below R26.out hb7, own_low rl H46.out.size, own_low rh H46.out.size, own_low rm H46.out.size, by have := Z4.out; have := Z6.out; omega⟩
  have HW7 := Lib.hid hW7
  clear hW7 hb7 rl rh rm RA6 RB6 R16 R26
  have SF : ∀ (a : Addr) (fn : Fn) (x y : Array Value) (w : World), (store a (.func fn x y)).run Tryz.prog w = stored Tryz.prog w a (.func fn x y) .plain := fun a fn x y w => run_store Tryz.prog w a _ _ rfl
  gi_wp2
  rw [← HW7.out]
  have S7 := Lib.hid (S3.out.trans (H7.out.mono S3.out.size))
  refine ⟨trivial, (callsIn_wide.2 (gpChanges_any _ _ _)).mono ?_⟩
  rintro e w8 ⟨rfl, rfl⟩
  obtain ⟨hb8, rc, rd, sz8⟩ := gp_two W7 27 27 (.pointer (some ⟨q1, 0, none⟩)) (.pointer (some ⟨q2, 0, none⟩))
  have ca8 := rc.cellAt 0 (by omega)
  have za8 := (rc.lt _ rfl).2
  have cb8 := rd.cellAt 0 (by omega)
  have zb8 := (rd.lt _ rfl).2
  have H8 := Lib.hid (H7.out.trans (hb8.mono H7.out.size))
  have S8 := Lib.hid (S7.out.trans (hb8.mono S7.out.size))
  have M8 := Lib.hid (MS.out.below hb8)
  have Z7 := Lib.hid (MS.out.rm.lt _ rfl).2
  clear hb8 rc rd sz8 MS HW7 SF
  gi_wp2
  generalize (W7.alloc (.cells #[.pointer (some ⟨q1, 0, none⟩)] 27)).alloc (.cells #[.pointer (some ⟨q2, 0, none⟩)] 27) = W0 at *
  refine wpIn_rangeFunc_ownF rfl (by decide) (gf := 63) (lb := #[.pointer (some ⟨W7.heap.size, 0, none⟩), .pointer (some ⟨W7.heap.size + 1, 0, none⟩)]) rfl trivial (enters_of Tryz.func63 (by kernel_rfl) rfl)
    (CS.out 4 W7.heap.size (W7.heap.size + 1) W0 ca8 cb8 za8 zb8 S8.out (fun i => i = W4.heap.size ∨ i = W4.heap.size + 1 ∨ i = W6.heap.size + 1 + 1) (frF_new (B := W0.heap.size) (fun k q => by have := Z7.out; have := Z6.out; have z8 : W7.heap.size < W0.heap.size := za8; rcases q with q | q | q <;> omega) (Nat.le_refl _))) kpF_t (fun W l' o o' _ hl ho _ => kpF_b (frF _) W l' o o' hl ho) (Below.refl _ _) (fun _ => rfl)
    (fun pre W => GpMsA w3.heap.size W w3.heap.size (w3.heap.size + 1) W4.heap.size (W4.heap.size + 1) W6.heap.size (W6.heap.size + 1) (W6.heap.size + 1 + 1) t1 t2 (mxF (mtL l L M den) (pre.map (gpEl C))) (mxF (mtH l L M den) (pre.map (gpEl C))) (mxF (mtL l L M den) (pre.map (gpEl C))) (mxF (mtH l L M den) (pre.map (gpEl C))) ∧ Below w3.heap.size w3 W)
    (fun _ _ _ => False)
    (OwnFrom.and (Own.from (fun s A C row h hg hr => h.grown hg hr) _) (ownFrom_below (Nat.le_refl _) H8.out.size))
    (fun _ _ _ _ _ hs _ _ => hs)
    ⟨M8.out, H8.out⟩
    ?a1 ?assign ?body ?done ?stop
  case assign =>
    intro l' x W K hK
    gi_wp2
    exact hK
  case body =>
    rintro l' pre x W ⟨hm, hB⟩ hpl
    have HM := Lib.hid hm
    have HB := Lib.hid hB
    obtain ⟨c0, c1, _, _, _, _, _, _, z0, z1, _, _, _⟩ := hm.cells
    have dw := own_below D3.out hB
    have c2 : W.cell? ⟨w.heap.size, 0, none⟩ = some (.int .i64 den) := dw.cellAt 0 (by omega)
    have z2 := (dw.lt _ rfl).2
    have hw0 : Below W.heap.size W W.drew := below_drew W
    have LA := Lib.hid (fun v1 (hv : Below W.heap.size W v1) => gpShareAt_any (gpEl C x) v1 (rnkTB_below T3.out (hB.trans (hv.mono hB.size))))
    have LB := Lib.hid (fun v1 (hv : Below W.heap.size W v1) => gpShareAt_any (gpEl C x) v1 (rnkTB_below U3.out (hB.trans (hv.mono hB.size))))
    have PA := Lib.hid (fun v => P1.out v (gpEl C x))
    have PB := Lib.hid (fun v => P2.out v (gpEl C x))
    have HS := Lib.hid (fun v (hv : Below W.heap.size W v) => gpHeld3 ⟨c0, c1, c2⟩ hv z0 z1 z2)
    have EL : Hid (partN (lowR l L (gpEl C x)) den (sumC L) = gdnN l L den (gpEl C x)) := rfl
    have R : GpR 46 W W.drew none none := ⟨hw0, fun _ _ _ e => (by cases e), fun _ _ _ e => (by cases e), fun _ _ _ _ _ _ e => (by cases e)⟩
    have b1 := BL.out (gpEl C x)
    have b2 := BM.out (gpEl C x)
    obtain ⟨fl, hfl⟩ : ∃ fl, fl = mtL l L M den (gpEl C x) := ⟨_, rfl⟩
    obtain ⟨fh, hfh⟩ : ∃ fh, fh = mtH l L M den (gpEl C x) := ⟨_, rfl⟩
    have NX : Hid (mxF (mtL l L M den) ((pre ++ [x]).map (gpEl C)) = max (mxF (mtL l L M den) (pre.map (gpEl C))) fl ∧ mxF (mtH l L M den) ((pre ++ [x]).map (gpEl C)) = max (mxF (mtH l L M den) (pre.map (gpEl C))) fh) := by rw [hfl, hfh]; exact ⟨gpMx_snoc _ _ _ _, gpMx_snoc _ _ _ _⟩
    unfold mtL at hfl
    unfold mtH at hfh
    unfold gdnN gupN at hfl hfh b1 b2
    generalize mxF (mtL l L M den) (pre.map (gpEl C)) = m1 at *
    generalize mxF (mtH l L M den) (pre.map (gpEl C)) = m2 at *
    generalize partN (lowR l L (gpEl C x)) den (sumC L) = aD at *
    generalize partUpN (highR l L (gpEl C x)) den (sumC L) = aU at *
    generalize partN (lowR l M (gpEl C x)) den (sumC M) = bD at *
    generalize partUpN (highR l M (gpEl C x)) den (sumC M) = bU at *
    clear hm hB dw EL BL BM P1 P2
    gi_wp2
    gi_cut [15, 16] from 17 (fun s15 s16 wx => ∃ g3 g4, s15 = .pointer (some ⟨g3, 0, none⟩) ∧ s16 = .pointer (some ⟨g4, 0, none⟩) ∧ wx.ownsRow W.heap.size 46 2 (.slice (some ⟨g3, 0, none⟩) 1 1) 1 [.int .i64 aD, .int .i64 aU] ∧ wx.ownsRow W.heap.size 46 2 (.slice (some ⟨g4, 0, none⟩) 1 1) 1 [.int .i64 bD, .int .i64 bU] ∧ Below W.heap.size W wx)
    case rest =>
      obtain ⟨g3, g4, rfl, rfl, r3, r4, hb5⟩ := hcut
      have H5 := Lib.hid hb5
      have M5 := Lib.hid (HM.out.below hb5)
      have Q3 := Lib.hid r3
      have Q4 := Lib.hid r4
      have l3 := (r3.lt g3 rfl).1
      have l4 := (r4.lt g4 rfl).1
      have lm := (HM.out.rm.lt (W6.heap.size + 1 + 1) rfl).2
      have nn := HM.out.ne
      have n3 : ¬ g3 = W6.heap.size + 1 + 1 := by omega
      have n4 : ¬ g4 = W6.heap.size + 1 + 1 := by omega
      have n5 : ¬ W6.heap.size + 1 + 1 = g3 := by omega
      have n6 : ¬ W6.heap.size + 1 + 1 = g4 := by omega
      have n7 : ¬ g3 = W4.heap.size := by omega
      have n8 : ¬ g4 = W4.heap.size := by omega
      obtain ⟨x0, x1, _, _, sz⟩ := box_cells r3
      obtain ⟨y0, y1, _, _, tz⟩ := box_cells r4
      obtain ⟨_, _, cl, ch, cm0, cm1, fm0, fm1, _, _, zl, zh, zm⟩ := M5.out.cells
      have wa : IntKind.i64.wrap (aD - bU) = aD - bU := wrap_lit rfl (by omega) (by omega)
      have wb : IntKind.i64.wrap (bD - aU) = bD - aU := wrap_lit rfl (by omega) (by omega)
      have wc1 : IntKind.i64.wrap (aU - bD) = aU - bD := wrap_lit rfl (by omega) (by omega)
      have wd : IntKind.i64.wrap (bU - aD) = bU - aD := wrap_lit rfl (by omega) (by omega)
      have G1 := Lib.hid (gpGat1 (aD - bU) (bD - aU) wc M5.out)
      have G2 := Lib.hid (fun v h => gpGat2 (B := w3.heap.size) (bA := w3.heap.size) (bB := w3.heap.size + 1) (b1 := W4.heap.size) (b2 := W4.heap.size + 1) (bl := W6.heap.size) (bh := W6.heap.size + 1) (bm := W6.heap.size + 1 + 1) (t1 := t1) (t2 := t2) (m1 := max m1 fl) (m2 := m2) (y1 := max m1 fl) (y2 := m2) (aU - bD) (bU - aD) v h)
      rw [← hfl] at G1
      rw [← hfh] at G2
      clear r3 r4 hb5 hfl hfh LA LB PA PB HS R hw0 nn c0 c1 c2 z0 z1 z2 l3 l4
      gi_wp2
      refine ⟨trivial, (CallsIn.inRound l' (callsIn_wide.2 G1.out)).mono ?_⟩
      rintro e v ⟨rfl, hM6, hk6⟩
      have x0 := (hk6.cell (o := 0) sz n7).trans x0
      have x1 := (hk6.cell (o := 1) sz n7).trans x1
      have y0 := (hk6.cell (o := 0) tz n8).trans y0
      have y1 := (hk6.cell (o := 1) tz n8).trans y1
      have sz := Nat.lt_of_lt_of_le sz hk6.size
      have tz := Nat.lt_of_lt_of_le tz hk6.size
      obtain ⟨_, _, cl, ch, cm0, cm1, fm0, fm1, _, _, zl, zh, zm⟩ := hM6.cells
      have M7 := Lib.hid (hM6.setL (max m1 fl))
      have k7 : Kp (fun i => i = W6.heap.size + 1 + 1) v (v.setCell ⟨W6.heap.size + 1 + 1, 0, none⟩ (.int .i64 (max m1 fl))) := Kp.setCell v ⟨W6.heap.size + 1 + 1, 0, none⟩ (.int .i64 (max m1 fl))
      have x0' := (k7.cell (o := 0) sz n3).trans x0
      have x1' := (k7.cell (o := 1) sz n3).trans x1
      have y0' := (k7.cell (o := 0) tz n4).trans y0
      have y1' := (k7.cell (o := 1) tz n4).trans y1
      have sz' := Nat.lt_of_lt_of_le sz k7.size
      have tz' := Nat.lt_of_lt_of_le tz k7.size
      have K7 := Lib.hid ((hk6.mono (G := fun i => i = W4.heap.size ∨ i = W4.heap.size + 1 ∨ i = W6.heap.size + 1 + 1) fun _ _ q => .inl q).trans k7 fun _ _ q => .inr (.inr q))
      clear hk6 hM6 k7 M5 G1
      gi_upto_region 13 with fail
      clear x0 x1 y0 y1 sz tz cl ch cm0 cm1 fm0 fm1 zl zh zm
      generalize v.setCell ⟨W6.heap.size + 1 + 1, 0, none⟩ (.int .i64 (max m1 fl)) = v7 at *
      obtain ⟨_, _, cl, ch, cm0, cm1, fm0, fm1, _, _, zl, zh, zm⟩ := M7.out.cells
      have G3 := Lib.hid (G2.out v7 M7.out)
      clear G2
      gi_wp2
      refine ⟨trivial, (CallsIn.inRound l' (callsIn_wide.2 G3.out)).mono ?_⟩
      rintro e v8 ⟨rfl, hM8, hk8⟩
      obtain ⟨_, _, cl, ch, cm0, cm1, fm0, fm1, _, _, zl, zh, zm⟩ := hM8.cells
      have M9 := Lib.hid (hM8.setH (max m2 fh))
      have k9 : Kp (fun i => i = W6.heap.size + 1 + 1) v8 (v8.setCell ⟨W6.heap.size + 1 + 1, 1, none⟩ (.int .i64 (max m2 fh))) := Kp.setCell v8 ⟨W6.heap.size + 1 + 1, 1, none⟩ (.int .i64 (max m2 fh))
      have K9 := Lib.hid ((((Kp.of (F := fun i => i = W4.heap.size ∨ i = W4.heap.size + 1 ∨ i = W6.heap.size + 1 + 1) H5.out).trans K7.out fun _ _ q => q).trans hk8 fun _ _ q => .inr (.inl q)).trans k9 fun _ _ q => .inr (.inr q))
      clear hk8 hM8 k9 G3 M7 K7
      gi_wp2
      have z4 := Z4.out
      have z6 := Z6.out
      refine ⟨frF_others K9.out HM.out.blk, frF_kp K9.out, ?_, HB.out.trans (K9.out.below (fun k _ q => by rcases q with q | q | q <;> omega) HB.out.size)⟩
      rw [NX.out.1, NX.out.2]
      exact M9.out
    case first =>
      refine rnd_region (S := fun w' => w'.cell? ⟨w3.heap.size, 0, none⟩ = some (.pointer (some ⟨t1, 0, none⟩)) ∧ w'.cell? ⟨w3.heap.size + 1, 0, none⟩ = some (.pointer (some ⟨t2, 0, none⟩)) ∧ w'.cell? ⟨w.heap.size, 0, none⟩ = some (.int .i64 den)) (by kernel_rfl) (by kernel_rfl) ⟨c0, c1, c2⟩ (fun hHeld => ?_)
      refine wpAnyH_take (i := 0) (oi := { dst := some 37, op := _, type := _, pos := _, after := _, guard := _ }) (v := ?va0_1) rfl (by kernel_rfl) (by kernel_rfl) (by kernel_rfl) (fun _ _ _ h => h) (Or.inl ⟨by rfl, ?hya0_1⟩) (by assumption) ?resta0_1
      case hya0_1 => (intro w hSw; obtain ⟨hs1, hs2, hs3⟩ := hSw; (try dsimp only at *); go_simp <;> with_reducible rfl)
      try simp only [Act.put, List.setIfInBounds_toArray, List.set_cons_zero, List.set_cons_succ]
      refine wpAnyH_take (i := 1) (oi := { dst := some 38, op := _, type := _, pos := _, after := _, guard := _ }) (v := ?va1_2) rfl (by kernel_rfl) (by kernel_rfl) (by kernel_rfl) (fun _ _ _ h => h) (Or.inl ⟨by rfl, ?hya1_2⟩) (by assumption) ?resta1_2
      case hya1_2 => (intro w hSw; obtain ⟨hs1, hs2, hs3⟩ := hSw; (try dsimp only at *); go_simp <;> with_reducible rfl)
      try simp only [Act.put, List.setIfInBounds_toArray, List.set_cons_zero, List.set_cons_succ]
      refine wpAnyH_take (i := 3) (oi := { dst := some 40, op := _, type := _, pos := _, after := _, guard := _ }) (v := ?va3_3) rfl (by kernel_rfl) (by kernel_rfl) (by kernel_rfl) (fun _ _ _ h => h) (Or.inl ⟨by rfl, ?hya3_3⟩) (by assumption) ?resta3_3
      case hya3_3 => (intro w hSw; obtain ⟨hs1, hs2, hs3⟩ := hSw; (try dsimp only at *); go_simp <;> with_reducible rfl)
      try simp only [Act.put, List.setIfInBounds_toArray, List.set_cons_zero, List.set_cons_succ]
      refine wpAnyH_take (i := 5) (oi := { dst := some 42, op := _, type := _, pos := _, after := _, guard := _ }) (v := ?va5_4) rfl (by kernel_rfl) (by kernel_rfl) (by kernel_rfl) (fun _ _ _ h => h) (Or.inl ⟨by rfl, ?hya5_4⟩) (by assumption) ?resta5_4
      case hya5_4 => (intro w hSw; obtain ⟨hs1, hs2, hs3⟩ := hSw; (try dsimp only at *); go_simp <;> with_reducible rfl)
      try simp only [Act.put, List.setIfInBounds_toArray, List.set_cons_zero, List.set_cons_succ]
      refine wpAnyH_take (i := 6) (oi := { dst := some 43, op := _, type := _, pos := _, after := _, guard := _ }) (v := ?va6_5) rfl (by kernel_rfl) (by kernel_rfl) (by kernel_rfl) (fun _ _ _ h => h) (Or.inl ⟨by rfl, ?hya6_5⟩) (by assumption) ?resta6_5
      case hya6_5 => (intro w hSw; obtain ⟨hs1, hs2, hs3⟩ := hSw; (try dsimp only at *); go_simp <;> with_reducible rfl)
      try simp only [Act.put, List.setIfInBounds_toArray, List.set_cons_zero, List.set_cons_succ]
      refine wpAnyH_take (i := 8) (oi := { dst := some 45, op := _, type := _, pos := _, after := _, guard := _ }) (v := ?va8_6) rfl (by kernel_rfl) (by kernel_rfl) (by kernel_rfl) (fun _ _ _ h => h) (Or.inl ⟨by rfl, ?hya8_6⟩) (by assumption) ?resta8_6
      case hya8_6 => (intro w hSw; obtain ⟨hs1, hs2, hs3⟩ := hSw; (try dsimp only at *); go_simp <;> with_reducible rfl)
      try simp only [Act.put, List.setIfInBounds_toArray, List.set_cons_zero, List.set_cons_succ]
      clear hHeld
      generalize W.drew = u at *
      refine wpAnyH_ready (rs := [2, 10, 11]) (by kernel_rfl) (by simp) ?_
      refine AllReadyH.cons (o := { dst := some 39, op := _, type := _, pos := _, after := _, guard := _ }) rfl (fun K hK => ?_) ?_
      · go_simp
        ((with_reducible refine (LA.out _ R.hb).mono ?_); rintro e v ⟨rfl, h⟩)
        go_wp2_with fail
        replace R := R.call h
        refine hK.out _ _ (by (try dsimp only); exact HS.out _ R.hb) (fun _ => ?_)
        clear hK K h
        try simp only [Act.put, List.setIfInBounds_toArray, List.set_cons_zero, List.set_cons_succ]
        refine wpAnyH_ready (rs := [4, 10, 11]) (by kernel_rfl) (by simp) ?_
        refine AllReadyH.cons (o := { dst := some 41, op := _, type := _, pos := _, after := _, guard := _ }) rfl (fun K hK => ?_) ?_
        · go_simp
          ((with_reducible refine (PA.out _).mono ?_); rintro e v ⟨rfl, h⟩)
          go_wp2_with fail
          replace R := R.call h
          refine hK.out _ _ (by (try dsimp only); exact HS.out _ R.hb) (fun _ => ?_)
          clear hK K h
          try simp only [Act.put, List.setIfInBounds_toArray, List.set_cons_zero, List.set_cons_succ]
          refine wpAnyH_ready (rs := [7, 10, 11]) (by kernel_rfl) (by simp) ?_
          refine AllReadyH.cons (o := { dst := some 44, op := _, type := _, pos := _, after := _, guard := _ }) rfl (fun K hK => ?_) ?_
          · go_simp
            ((with_reducible refine (LB.out _ R.hb).mono ?_); rintro e v ⟨rfl, h⟩)
            go_wp2_with fail
            replace R := R.call h
            refine hK.out _ _ (by (try dsimp only); exact HS.out _ R.hb) (fun _ => ?_)
            clear hK K h
            try simp only [Act.put, List.setIfInBounds_toArray, List.set_cons_zero, List.set_cons_succ]
            refine wpAnyH_ready (rs := [9, 10, 11]) (by kernel_rfl) (by simp) ?_
            refine AllReadyH.cons (o := { dst := some 46, op := _, type := _, pos := _, after := _, guard := _ }) rfl (fun K hK => ?_) ?_
            · go_simp
              ((with_reducible refine (PB.out _).mono ?_); rintro e v ⟨rfl, h⟩)
              go_wp2_with fail
              replace R := R.call h
              refine hK.out _ _ (by (try dsimp only); exact HS.out _ R.hb) (fun _ => ?_)
              clear hK K h
              try simp only [Act.put, List.setIfInBounds_toArray, List.set_cons_zero, List.set_cons_succ]
              refine wpAnyH_ready (rs := [10, 11]) (by kernel_rfl) (by simp) ?_
              refine AllReadyH.cons (o := { dst := some 15, op := _, type := _, pos := _, after := _, guard := _ }) rfl (fun K hK => ?_) ?_
              · go_simp
                replace R := R.al1
                refine hK.out _ _ (by (try dsimp only); exact HS.out _ R.hb) (fun _ => ?_)
                clear hK K
                try simp only [Act.put, List.setIfInBounds_toArray, List.set_cons_zero, List.set_cons_succ]
                generalize World.alloc _ (.cells #[.int .i64 0, .int .i64 0] 46) = u at *
                refine wpAnyH_ready (rs := [11]) (by kernel_rfl) (by simp) ?_
                refine AllReadyH.cons (o := { dst := some 16, op := _, type := _, pos := _, after := _, guard := _ }) rfl (fun K hK => ?_) AllReadyH.nil
                go_simp
                replace R := R.al2
                refine hK.out _ _ (by (try dsimp only); exact HS.out _ R.hb) (fun _ => ?_)
                clear hK K
                try simp only [Act.put, List.setIfInBounds_toArray, List.set_cons_zero, List.set_cons_succ]
                generalize World.alloc _ (.cells #[.int .i64 0, .int .i64 0] 46) = u at *
                refine wpAnyH_ready (rs := [12]) (by kernel_rfl) (by simp) ?_
                refine AllReadyH.cons (o := { dst := none, op := _, type := _, pos := _, after := _, guard := _ }) rfl (fun K hK => ?_) AllReadyH.nil
                obtain ⟨q0, q1, q2, q3, q4⟩ := box_cells (R.hs _ _ _ rfl)
                go_simp
                replace R := R.st1 (.int .i64 aD) (.int .i64 aU)
                refine hK.out _ _ (by (try dsimp only); exact HS.out _ R.hb) (fun _ => ?_)
                clear hK K q0 q1 q2 q3 q4
                try simp only [Act.put, List.setIfInBounds_toArray, List.set_cons_zero, List.set_cons_succ]
                skip
                refine wpAnyH_ready (rs := [13]) (by kernel_rfl) (by simp) ?_
                refine AllReadyH.cons (o := { dst := none, op := _, type := _, pos := _, after := _, guard := _ }) rfl (fun K hK => ?_) AllReadyH.nil
                obtain ⟨q0, q1, q2, q3, q4⟩ := box_cells (R.ht _ _ _ rfl)
                go_simp
                replace R := R.st2 (.int .i64 bD) (.int .i64 bU)
                refine hK.out _ _ (by (try dsimp only); exact HS.out _ R.hb) (fun _ => ?_)
                clear hK K q0 q1 q2 q3 q4
                try simp only [Act.put, List.setIfInBounds_toArray, List.set_cons_zero, List.set_cons_succ]
                skip
                refine wpAnyH_done (by kernel_rfl) ?_ _
                refine onlyN_normal ?_
                gi_wp2
                gi_meet
                exact ⟨_, _, rfl, rfl, R.hs _ _ _ rfl, R.ht _ _ _ rfl, R.hb⟩
              refine AllReadyH.cons (o := { dst := some 16, op := _, type := _, pos := _, after := _, guard := _ }) rfl (fun K hK => ?_) AllReadyH.nil
              go_simp
              replace R := R.al2
              refine hK.out _ _ (by (try dsimp only); exact HS.out _ R.hb) (fun _ => ?_)
              clear hK K
              try simp only [Act.put, List.setIfInBounds_toArray, List.set_cons_zero, List.set_cons_succ]
              generalize World.alloc _ (.cells #[.int .i64 0, .int .i64 0] 46) = u at *
              refine wpAnyH_ready (rs := [10]) (by kernel_rfl) (by simp) ?_
              refine AllReadyH.cons (o := { dst := some 15, op := _, type := _, pos := _, after := _, guard := _ }) rfl (fun K hK => ?_) AllReadyH.nil
              go_simp
              replace R := R.al1
              refine hK.out _ _ (by (try dsimp only); exact HS.out _ R.hb) (fun _ => ?_)
              clear hK K
              try simp only [Act.put, List.setIfInBounds_toArray, List.set_cons_zero, List.set_cons_succ]
              generalize World.alloc _ (.cells #[.int .i64 0, .int .i64 0] 46) = u at *
              refine wpAnyH_ready (rs := [12]) (by kernel_rfl) (by simp) ?_
              refine AllReadyH.cons (o := { dst := none, op := _, type := _, pos := _, after := _, guard := _ }) rfl (fun K hK => ?_) AllReadyH.nil
              obtain ⟨q0, q1, q2, q3, q4⟩ := box_cells (R.hs _ _ _ rfl)
              go_simp
              replace R := R.st1 (.int .i64 aD) (.int .i64 aU)
              refine hK.out _ _ (by (try dsimp only); exact HS.out _ R.hb) (fun _ => ?_)
              clear hK K q0 q1 q2 q3 q4
              try simp only [Act.put, List.setIfInBounds_toArray, List.set_cons_zero, List.set_cons_succ]
              skip
              refine wpAnyH_ready (rs := [13]) (by kernel_rfl) (by simp) ?_
              refine AllReadyH.cons (o := { dst := none, op := _, type := _, pos := _, after := _, guard := _ }) rfl (fun K hK => ?_) AllReadyH.nil
              obtain ⟨q0, q1, q2, q3, q4⟩ := box_cells (R.ht _ _ _ rfl)
              go_simp
              replace R := R.st2 (.int .i64 bD) (.int .i64 bU)
              refine hK.out _ _ (by (try dsimp only); exact HS.out _ R.hb) (fun _ => ?_)
              clear hK K q0 q1 q2 q3 q4
              try simp only [Act.put, List.setIfInBounds_toArray, List.set_cons_zero, List.set_cons_succ]
              skip
              refine wpAnyH_done (by kernel_rfl) ?_ _
              refine onlyN_normal ?_
              gi_wp2
              gi_meet
              exact ⟨_, _, rfl, rfl, R.hs _ _ _ rfl, R.ht _ _ _ rfl, R.hb⟩
            refine AllReadyH.cons (o := { dst := some 15, op := _, type := _, pos := _, after := _, guard := _ }) rfl (fun K hK => ?_) ?_
            · go_simp
              replace R := R.al1
              refine hK.out _ _ (by (try dsimp only); exact HS.out _ R.hb) (fun _ => ?_)
              clear hK K
              try simp only [Act.put, List.setIfInBounds_toArray, List.set_cons_zero, List.set_cons_succ]
              generalize World.alloc _ (.cells #[.int .i64 0, .int .i64 0] 46) = u at *
              refine wpAnyH_ready (rs := [9, 11]) (by kernel_rfl) (by simp) ?_
              refine AllReadyH.cons (o := { dst := some 46, op := _, type := _, pos := _, after := _, guard := _ }) rfl (fun K hK => ?_) ?_
              · go_simp
                ((with_reducible refine (PB.out _).mono ?_); rintro e v ⟨rfl, h⟩)
                go_wp2_with fail
                replace R := R.call h
                refine hK.out _ _ (by (try dsimp only); exact HS.out _ R.hb) (fun _ => ?_)
                clear hK K h
                try simp only [Act.put, List.setIfInBounds_toArray, List.set_cons_zero, List.set_cons_succ]
                refine wpAnyH_ready (rs := [11]) (by kernel_rfl) (by simp) ?_
                refine AllReadyH.cons (o := { dst := some 16, op := _, type := _, pos := _, after := _, guard := _ }) rfl (fun K hK => ?_) AllReadyH.nil
                go_simp
                replace R := R.al2
                refine hK.out _ _ (by (try dsimp only); exact HS.out _ R.hb) (fun _ => ?_)
                clear hK K
                try simp only [Act.put, List.setIfInBounds_toArray, List.set_cons_zero, List.set_cons_succ]
                generalize World.alloc _ (.cells #[.int .i64 0, .int .i64 0] 46) = u at *
                refine wpAnyH_ready (rs := [12]) (by kernel_rfl) (by simp) ?_
                refine AllReadyH.cons (o := { dst := none, op := _, type := _, pos := _, after := _, guard := _ }) rfl (fun K hK => ?_) AllReadyH.nil
                obtain ⟨q0, q1, q2, q3, q4⟩ := box_cells (R.hs _ _ _ rfl)
                go_simp
                replace R := R.st1 (.int .i64 aD) (.int .i64 aU)
                refine hK.out _ _ (by (try dsimp only); exact HS.out _ R.hb) (fun _ => ?_)
                clear hK K q0 q1 q2 q3 q4
                try simp only [Act.put, List.setIfInBounds_toArray, List.set_cons_zero, List.set_cons_succ]
                skip
                refine wpAnyH_ready (rs := [13]) (by kernel_rfl) (by simp) ?_
                refine AllReadyH.cons (o := { dst := none, op := _, type := _, pos := _, after := _, guard := _ }) rfl (fun K hK => ?_) AllReadyH.nil
                obtain ⟨q0, q1, q2, q3, q4⟩ := box_cells (R.ht _ _ _ rfl)
                go_simp
                replace R := R.st2 (.int .i64 bD) (.int .i64 bU)
                refine hK.out _ _ (by (try dsimp only); exact HS.out _ R.hb) (fun _ => ?_)
                clear hK K q0 q1 q2 q3 q4
                try simp only [Act.put, List.setIfInBounds_toArray, List.set_cons_zero, List.set_cons_succ]
                skip
                refine wpAnyH_done (by kernel_rfl) ?_ _
                refine onlyN_normal ?_
                gi_wp2
                gi_meet
                exact ⟨_, _, rfl, rfl, R.hs _ _ _ rfl, R.ht _ _ _ rfl, R.hb⟩
              refine AllReadyH.cons (o := { dst := some 16, op := _, type := _, pos := _, after := _, guard := _ }) rfl (fun K hK => ?_) AllReadyH.nil
              go_simp
              replace R := R.al2
              refine hK.out _ _ (by (try dsimp only); exact HS.out _ R.hb) (fun _ => ?_)
              clear hK K
              try simp only [Act.put, List.setIfInBounds_toArray, List.set_cons_zero, List.set_cons_succ]
              generalize World.alloc _ (.cells #[.int .i64 0, .int .i64 0] 46) = u at *
              refine wpAnyH_ready (rs := [9]) (by kernel_rfl) (by simp) ?_
              refine AllReadyH.cons (o := { dst := some 46, op := _, type := _, pos := _, after := _, guard := _ }) rfl (fun K hK => ?_) AllReadyH.nil
              go_simp
              ((with_reducible refine (PB.out _).mono ?_); rintro e v ⟨rfl, h⟩)
              go_wp2_with fail
              replace R := R.call h
              refine hK.out _ _ (by (try dsimp only); exact HS.out _ R.hb) (fun _ => ?_)
              clear hK K h
              try simp only [Act.put, List.setIfInBounds_toArray, List.set_cons_zero, List.set_cons_succ]
              refine wpAnyH_ready (rs := [12]) (by kernel_rfl) (by simp) ?_
              refine AllReadyH.cons (o := { dst := none, op := _, type := _, pos := _, after := _, guard := _ }) rfl (fun K hK => ?_) AllReadyH.nil
              obtain ⟨q0, q1, q2, q3, q4⟩ := box_cells (R.hs _ _ _ rfl)
              go_simp
              replace R := R.st1 (.int .i64 aD) (.int .i64 aU)
              refine hK.out _ _ (by (try dsimp only); exact HS.out _ R.hb) (fun _ => ?_)
              clear hK K q0 q1 q2 q3 q4
              try simp only [Act.put, List.setIfInBounds_toArray, List.set_cons_zero, List.set_cons_succ]
              skip
              refine wpAnyH_ready (rs := [13]) (by kernel_rfl) (by simp) ?_
              refine AllReadyH.cons (o := { dst := none, op := _, type := _, pos := _, after := _, guard := _ }) rfl (fun K hK => ?_) AllReadyH.nil
              obtain ⟨q0, q1, q2, q3, q4⟩ := box_cells (R.ht _ _ _ rfl)
              go_simp
              replace R := R.st2 (.int .i64 bD) (.int .i64 bU)
              refine hK.out _ _ (by (try dsimp only); exact HS.out _ R.hb) (fun _ => ?_)
              clear hK K q0 q1 q2 q3 q4
              try simp only [Act.put, List.setIfInBounds_toArray, List.set_cons_zero, List.set_cons_succ]
              skip
              refine wpAnyH_done (by kernel_rfl) ?_ _
              refine onlyN_normal ?_
              gi_wp2
              gi_meet
              exact ⟨_, _, rfl, rfl, R.hs _ _ _ rfl, R.ht _ _ _ rfl, R.hb⟩
            refine AllReadyH.cons (o := { dst := some 16, op := _, type := _, pos := _, after := _, guard := _ }) rfl (fun K hK => ?_) AllReadyH.nil
            go_simp
            replace R := R.al2
            refine hK.out _ _ (by (try dsimp only); exact HS.out _ R.hb) (fun _ => ?_)
            clear hK K
            try simp only [Act.put, List.setIfInBounds_toArray, List.set_cons_zero, List.set_cons_succ]
            generalize World.alloc _ (.cells #[.int .i64 0, .int .i64 0] 46) = u at *
            refine wpAnyH_ready (rs := [9, 10]) (by kernel_rfl) (by simp) ?_
            refine AllReadyH.cons (o := { dst := some 46, op := _, type := _, pos := _, after := _, guard := _ }) rfl (fun K hK => ?_) ?_
            · go_simp
              ((with_reducible refine (PB.out _).mono ?_); rintro e v ⟨rfl, h⟩)
              go_wp2_with fail
              replace R := R.call h
              refine hK.out _ _ (by (try dsimp only); exact HS.out _ R.hb) (fun _ => ?_)
              clear hK K h
              try simp only [Act.put, List.setIfInBounds_toArray, List.set_cons_zero, List.set_cons_succ]
              refine wpAnyH_ready (rs := [10]) (by kernel_rfl) (by simp) ?_
              refine AllReadyH.cons (o := { dst := some 15, op := _, type := _, pos := _, after := _, guard := _ }) rfl (fun K hK => ?_) AllReadyH.nil
              go_simp
              replace R := R.al1
              refine hK.out _ _ (by (try dsimp only); exact HS.out _ R.hb) (fun _ => ?_)
              clear hK K
              try simp only [Act.put, List.setIfInBounds_toArray, List.set_cons_zero, List.set_cons_succ]
              generalize World.alloc _ (.cells #[.int .i64 0, .int .i64 0] 46) = u at *
              refine wpAnyH_ready (rs := [12]) (by kernel_rfl) (by simp) ?_
              refine AllReadyH.cons (o := { dst := none, op := _, type := _, pos := _, after := _, guard := _ }) rfl (fun K hK => ?_) AllReadyH.nil
              obtain ⟨q0, q1, q2, q3, q4⟩ := box_cells (R.hs _ _ _ rfl)
              go_simp
              replace R := R.st1 (.int .i64 aD) (.int .i64 aU)
              refine hK.out _ _ (by (try dsimp only); exact HS.out _ R.hb) (fun _ => ?_)
              clear hK K q0 q1 q2 q3 q4
              try simp only [Act.put, List.setIfInBounds_toArray, List.set_cons_zero, List.set_cons_succ]
              skip
              refine wpAnyH_ready (rs := [13]) (by kernel_rfl) (by simp) ?_
              refine AllReadyH.cons (o := { dst := none, op := _, type := _, pos := _, after := _, guard := _ }) rfl (fun K hK => ?_) AllReadyH.nil
              obtain ⟨q0, q1, q2, q3, q4⟩ := box_cells (R.ht _ _ _ rfl)
              go_simp
              replace R := R.st2 (.int .i64 bD) (.int .i64 bU)
              refine hK.out _ _ (by (try dsimp only); exact HS.out _ R.hb) (fun _ => ?_)
              clear hK K q0 q1 q2 q3 q4
              try simp only [Act.put, List.setIfInBounds_toArray, List.set_cons_zero, List.set_cons_succ]
              skip
              refine wpAnyH_done (by kernel_rfl) ?_ _
              refine onlyN_normal ?_
              gi_wp2
              gi_meet
              exact ⟨_, _, rfl, rfl, R.hs _ _ _ rfl, R.ht _ _ _ rfl, R.hb⟩
            refine AllReadyH.cons (o := { dst := some 15, op := _, type := _, pos := _, after := _, guard := _ }) rfl (fun K hK => ?_) AllReadyH.nil
            go_simp
            replace R := R.al1
            refine hK.out _ _ (by (try dsimp only); exact HS.out _ R.hb) (fun _ => ?_)
            clear hK K
            try simp only [Act.put, List.setIfInBounds_toArray, List.set_cons_zero, List.set_cons_succ]
            generalize World.alloc _ (.cells #[.int .i64 0, .int .i64 0] 46) = u at *
            refine wpAnyH_ready (rs := [9]) (by kernel_rfl) (by simp) ?_
            refine AllReadyH.cons (o := { dst := some 46, op := _, type := _, pos := _, after := _, guard := _ }) rfl (fun K hK => ?_) AllReadyH.nil
            go_simp
            ((with_reducible refine (PB.out _).mono ?_); rintro e v ⟨rfl, h⟩)
            go_wp2_with fail
            replace R := R.call h
            refine hK.out _ _ (by (try dsimp only); exact HS.out _ R.hb) (fun _ => ?_)
            clear hK K h
            try simp only [Act.put, List.setIfInBounds_toArray, List.set_cons_zero, List.set_cons_succ]
            refine wpAnyH_ready (rs := [12]) (by kernel_rfl) (by simp) ?_
            refine AllReadyH.cons (o := { dst := none, op := _, type := _, pos := _, after := _, guard := _ }) rfl (fun K hK => ?_) AllReadyH.nil
            obtain ⟨q0, q1, q2, q3, q4⟩ := box_cells (R.hs _ _ _ rfl)
            go_simp
            replace R := R.st1 (.int .i64 aD) (.int .i64 aU)
            refine hK.out _ _ (by (try dsimp only); exact HS.out _ R.hb) (fun _ => ?_)
            clear hK K q0 q1 q2 q3 q4
            try simp only [Act.put, List.setIfInBounds_toArray, List.set_cons_zero, List.set_cons_succ]
            skip
            refine wpAnyH_ready (rs := [13]) (by kernel_rfl) (by simp) ?_
            refine AllReadyH.cons (o := { dst := none, op := _, type := _, pos := _, after := _, guard := _ }) rfl (fun K hK => ?_) AllReadyH.nil
            obtain ⟨q0, q1, q2, q3, q4⟩ := box_cells (R.ht _ _ _ rfl)
            go_simp
            replace R := R.st2 (.int .i64 bD) (.int .i64 bU)
            refine hK.out _ _ (by (try dsimp only); exact HS.out _ R.hb) (fun _ => ?_)
            clear hK K q0 q1 q2 q3 q4
            try simp only [Act.put, List.setIfInBounds_toArray, List.set_cons_zero, List.set_cons_succ]
            skip
            refine wpAnyH_done (by kernel_rfl) ?_ _
            refine onlyN_normal ?_
            gi_wp2
            gi_meet
            exact ⟨_, _, rfl, rfl, R.hs _ _ _ rfl, R.ht _ _ _ rfl, R.hb⟩
          refine AllReadyH.cons (o := { dst := some 15, op := _, type := _, pos := _, after := _, guard := _ }) rfl (fun K hK => ?_) ?_
          · go_simp
            replace R := R.al1
            refine hK.out _ _ (by (try dsimp only); exact HS.out _ R.hb) (fun _ => ?_)
            clear hK K
            try simp only [Act.put, List.setIfInBounds_toArray, List.set_cons_zero, List.set_cons_succ]
            generalize World.alloc _ (.cells #[.int .i64 0, .int .i64 0] 46) = u at *
            refine wpAnyH_ready (rs := [7, 11]) (by kernel_rfl) (by simp) ?_
            refine AllReadyH.cons (o := { dst := some 44, op := _, type := _, pos := _, after := _, guard := _ }) rfl (fun K hK => ?_) ?_
            · go_simp
              ((with_reducible refine (LB.out _ R.hb).mono ?_); rintro e v ⟨rfl, h⟩)
              go_wp2_with fail
              replace R := R.call h
              refine hK.out _ _ (by (try dsimp only); exact HS.out _ R.hb) (fun _ => ?_)
              clear hK K h
              try simp only [Act.put, List.setIfInBounds_toArray, List.set_cons_zero, List.set_cons_succ]
              refine wpAnyH_ready (rs := [9, 11]) (by kernel_rfl) (by simp) ?_
              refine AllReadyH.cons (o := { dst := some 46, op := _, type := _, pos := _, after := _, guard := _ }) rfl (fun K hK => ?_) ?_
              · go_simp
                ((with_reducible refine (PB.out _).mono ?_); rintro e v ⟨rfl, h⟩)
                go_wp2_with fail
                replace R := R.call h
                refine hK.out _ _ (by (try dsimp only); exact HS.out _ R.hb) (fun _ => ?_)
                clear hK K h
                try simp only [Act.put, List.setIfInBounds_toArray, List.set_cons_zero, List.set_cons_succ]
                refine wpAnyH_ready (rs := [11]) (by kernel_rfl) (by simp) ?_
                refine AllReadyH.cons (o := { dst := some 16, op := _, type := _, pos := _, after := _, guard := _ }) rfl (fun K hK => ?_) AllReadyH.nil
                go_simp
                replace R := R.al2
                refine hK.out _ _ (by (try dsimp only); exact HS.out _ R.hb) (fun _ => ?_)
                clear hK K
                try simp only [Act.put, List.setIfInBounds_toArray, List.set_cons_zero, List.set_cons_succ]
                generalize World.alloc _ (.cells #[.int .i64 0, .int .i64 0] 46) = u at *
                refine wpAnyH_ready (rs := [12]) (by kernel_rfl) (by simp) ?_
                refine AllReadyH.cons (o := { dst := none, op := _, type := _, pos := _, after := _, guard := _ }) rfl (fun K hK => ?_) AllReadyH.nil
                obtain ⟨q0, q1, q2, q3, q4⟩ := box_cells (R.hs _ _ _ rfl)
                go_simp
                replace R := R.st1 (.int .i64 aD) (.int .i64 aU)
                refine hK.out _ _ (by (try dsimp only); exact HS.out _ R.hb) (fun _ => ?_)
                clear hK K q0 q1 q2 q3 q4
                try simp only [Act.put, List.setIfInBounds_toArray, List.set_cons_zero, List.set_cons_succ]
                skip
                refine wpAnyH_ready (rs := [13]) (by kernel_rfl) (by simp) ?_
                refine AllReadyH.cons (o := { dst := none, op := _, type := _, pos := _, after := _, guard := _ }) rfl (fun K hK => ?_) AllReadyH.nil
                obtain ⟨q0, q1, q2, q3, q4⟩ := box_cells (R.ht _ _ _ rfl)
                go_simp
                replace R := R.st2 (.int .i64 bD) (.int .i64 bU)
                refine hK.out _ _ (by (try dsimp only); exact HS.out _ R.hb) (fun _ => ?_)
                clear hK K q0 q1 q2 q3 q4
                try simp only [Act.put, List.setIfInBounds_toArray, List.set_cons_zero, List.set_cons_succ]
                skip
                refine wpAnyH_done (by kernel_rfl) ?_ _
                refine onlyN_normal ?_
                gi_wp2
                gi_meet
                exact ⟨_, _, rfl, rfl, R.hs _ _ _ rfl, R.ht _ _ _ rfl, R.hb⟩
              refine AllReadyH.cons (o := { dst := some 16, op := _, type := _, pos := _, after := _, guard := _ }) rfl (fun K hK => ?_) AllReadyH.nil
              go_simp
              replace R := R.al2
              refine hK.out _ _ (by (try dsimp only); exact HS.out _ R.hb) (fun _ => ?_)
              clear hK K
              try simp only [Act.put, List.setIfInBounds_toArray, List.set_cons_zero, List.set_cons_succ]
              generalize World.alloc _ (.cells #[.int .i64 0, .int .i64 0] 46) = u at *
              refine wpAnyH_ready (rs := [9]) (by kernel_rfl) (by simp) ?_
              refine AllReadyH.cons (o := { dst := some 46, op := _, type := _, pos := _, after := _, guard := _ }) rfl (fun K hK => ?_) AllReadyH.nil
              go_simp
              ((with_reducible refine (PB.out _).mono ?_); rintro e v ⟨rfl, h⟩)
              go_wp2_with fail
              replace R := R.call h
              refine hK.out _ _ (by (try dsimp only); exact HS.out _ R.hb) (fun _ => ?_)
              clear hK K h
              try simp only [Act.put, List.setIfInBounds_toArray, List.set_cons_zero, List.set_cons_succ]
              refine wpAnyH_ready (rs := [12]) (by kernel_rfl) (by simp) ?_
              refine AllReadyH.cons (o := { dst := none, op := _, type := _, pos := _, after := _, guard := _ }) rfl (fun K hK => ?_) AllReadyH.nil
              obtain ⟨q0, q1, q2, q3, q4⟩ := box_cells (R.hs _ _ _ rfl)
              go_simp
              replace R := R.st1 (.int .i64 aD) (.int .i64 aU)
              refine hK.out _ _ (by (try dsimp only); exact HS.out _ R.hb) (fun _ => ?_)
              clear hK K q0 q1 q2 q3 q4
              try simp only [Act.put, List.setIfInBounds_toArray, List.set_cons_zero, List.set_cons_succ]
              skip
              refine wpAnyH_ready (rs := [13]) (by kernel_rfl) (by simp) ?_
              refine AllReadyH.cons (o := { dst := none, op := _, type := _, pos := _, after := _, guard := _ }) rfl (fun K hK => ?_) AllReadyH.nil
              obtain ⟨q0, q1, q2, q3, q4⟩ := box_cells (R.ht _ _ _ rfl)
              go_simp
              replace R := R.st2 (.int .i64 bD) (.int .i64 bU)
              refine hK.out _ _ (by (try dsimp only); exact HS.out _ R.hb) (fun _ => ?_)
              clear hK K q0 q1 q2 q3 q4
              try simp only [Act.put, List.setIfInBounds_toArray, List.set_cons_zero, List.set_cons_succ]
              skip
              refine wpAnyH_done (by kernel_rfl) ?_ _
              refine onlyN_normal ?_
              gi_wp2
              gi_meet
              exact ⟨_, _, rfl, rfl, R.hs _ _ _ rfl, R.ht _ _ _ rfl, R.hb⟩
            refine AllReadyH.cons (o := { dst := some 16, op := _, type := _, pos := _, after := _, guard := _ }) rfl (fun K hK => ?_) AllReadyH.nil
            go_simp
            replace R := R.al2
            refine hK.out _ _ (by (try dsimp only); exact HS.out _ R.hb) (fun _ => ?_)
            clear hK K
            try simp only [Act.put, List.setIfInBounds_toArray, List.set_cons_zero, List.set_cons_succ]
            generalize World.alloc _ (.cells #[.int .i64 0, .int .i64 0] 46) = u at *
            refine wpAnyH_ready (rs := [7]) (by kernel_rfl) (by simp) ?_
            refine AllReadyH.cons (o := { dst := some 44, op := _, type := _, pos := _, after := _, guard := _ }) rfl (fun K hK => ?_) AllReadyH.nil
            go_simp
            ((with_reducible refine (LB.out _ R.hb).mono ?_); rintro e v ⟨rfl, h⟩)
            go_wp2_with fail
            replace R := R.call h
            refine hK.out _ _ (by (try dsimp only); exact HS.out _ R.hb) (fun _ => ?_)
            clear hK K h
            try simp only [Act.put, List.setIfInBounds_toArray, List.set_cons_zero, List.set_cons_succ]
            refine wpAnyH_ready (rs := [9]) (by kernel_rfl) (by simp) ?_
            refine AllReadyH.cons (o := { dst := some 46, op := _, type := _, pos := _, after := _, guard := _ }) rfl (fun K hK => ?_) AllReadyH.nil
            go_simp
            ((with_reducible refine (PB.out _).mono ?_); rintro e v ⟨rfl, h⟩)
            go_wp2_with fail
            replace R := R.call h
            refine hK.out _ _ (by (try dsimp only); exact HS.out _ R.hb) (fun _ => ?_)
            clear hK K h
            try simp only [Act.put, List.setIfInBounds_toArray, List.set_cons_zero, List.set_cons_succ]
            refine wpAnyH_ready (rs := [12]) (by kernel_rfl) (by simp) ?_
            refine AllReadyH.cons (o := { dst := none, op := _, type := _, pos := _, after := _, guard := _ }) rfl (fun K hK => ?_) AllReadyH.nil
            obtain ⟨q0, q1, q2, q3, q4⟩ := box_cells (R.hs _ _ _ rfl)
            go_simp
            replace R := R.st1 (.int .i64 aD) (.int .i64 aU)
            refine hK.out _ _ (by (try dsimp only); exact HS.out _ R.hb) (fun _ => ?_)
            clear hK K q0 q1 q2 q3 q4
            try simp only [Act.put, List.setIfInBounds_toArray, List.set_cons_zero, List.set_cons_succ]
            skip
            refine wpAnyH_ready (rs := [13]) (by kernel_rfl) (by simp) ?_
            refine AllReadyH.cons (o := { dst := none, op := _, type := _, pos := _, after := _, guard := _ }) rfl (fun K hK => ?_) AllReadyH.nil
            obtain ⟨q0, q1, q2, q3, q4⟩ := box_cells (R.ht _ _ _ rfl)
            go_simp
            replace R := R.st2 (.int .i64 bD) (.int .i64 bU)
            refine hK.out _ _ (by (try dsimp only); exact HS.out _ R.hb) (fun _ => ?_)
            clear hK K q0 q1 q2 q3 q4
            try simp only [Act.put, List.setIfInBounds_toArray, List.set_cons_zero, List.set_cons_succ]
            skip
            refine wpAnyH_done (by kernel_rfl) ?_ _
            refine onlyN_normal ?_
            gi_wp2
            gi_meet
            exact ⟨_, _, rfl, rfl, R.hs _ _ _ rfl, R.ht _ _ _ rfl, R.hb⟩
          refine AllReadyH.cons (o := { dst := some 16, op := _, type := _, pos := _, after := _, guard := _ }) rfl (fun K hK => ?_) AllReadyH.nil
          go_simp
          replace R := R.al2
          refine hK.out _ _ (by (try dsimp only); exact HS.out _ R.hb) (fun _ => ?_)
          clear hK K
          try simp only [Act.put, List.setIfInBounds_toArray, List.set_cons_zero, List.set_cons_succ]
          generalize World.alloc _ (.cells #[.int .i64 0, .int .i64 0] 46) = u at *
          refine wpAnyH_ready (rs := [7, 10]) (by kernel_rfl) (by simp) ?_
          refine AllReadyH.cons (o := { dst := some 44, op := _, type := _, pos := _, after := _, guard := _ }) rfl (fun K hK => ?_) ?_
          · go_simp
            ((with_reducible refine (LB.out _ R.hb).mono ?_); rintro e v ⟨rfl, h⟩)
            go_wp2_with fail
            replace R := R.call h
            refine hK.out _ _ (by (try dsimp only); exact HS.out _ R.hb) (fun _ => ?_)
            clear hK K h
            try simp only [Act.put, List.setIfInBounds_toArray, List.set_cons_zero, List.set_cons_succ]
            refine wpAnyH_ready (rs := [9, 10]) (by kernel_rfl) (by simp) ?_
            refine AllReadyH.cons (o := { dst := some 46, op := _, type := _, pos := _, after := _, guard := _ }) rfl (fun K hK => ?_) ?_
            · go_simp
              ((with_reducible refine (PB.out _).mono ?_); rintro e v ⟨rfl, h⟩)
              go_wp2_with fail
              replace R := R.call h
              refine hK.out _ _ (by (try dsimp only); exact HS.out _ R.hb) (fun _ => ?_)
              clear hK K h
              try simp only [Act.put, List.setIfInBounds_toArray, List.set_cons_zero, List.set_cons_succ]
              refine wpAnyH_ready (rs := [10]) (by kernel_rfl) (by simp) ?_
              refine AllReadyH.cons (o := { dst := some 15, op := _, type := _, pos := _, after := _, guard := _ }) rfl (fun K hK => ?_) AllReadyH.nil
              go_simp
              replace R := R.al1
              refine hK.out _ _ (by (try dsimp only); exact HS.out _ R.hb) (fun _ => ?_)
              clear hK K
              try simp only [Act.put, List.setIfInBounds_toArray, List.set_cons_zero, List.set_cons_succ]
              generalize World.alloc _ (.cells #[.int .i64 0, .int .i64 0] 46) = u at *
              refine wpAnyH_ready (rs := [12]) (by kernel_rfl) (by simp) ?_
              refine AllReadyH.cons (o := { dst := none, op := _, type := _, pos := _, after := _, guard := _ }) rfl (fun K hK => ?_) AllReadyH.nil
              obtain ⟨q0, q1, q2, q3, q4⟩ := box_cells (R.hs _ _ _ rfl)
              go_simp
              replace R := R.st1 (.int .i64 aD) (.int .i64 aU)
              refine hK.out _ _ (by (try dsimp only); exact HS.out _ R.hb) (fun _ => ?_)
              clear hK K q0 q1 q2 q3 q4
              try simp only [Act.put, List.setIfInBounds_toArray, List.set_cons_zero, List.set_cons_succ]
              skip
              refine wpAnyH_ready (rs := [13]) (by kernel_rfl) (by simp) ?_
              refine AllReadyH.cons (o := { dst := none, op := _, type := _, pos := _, after := _, guard := _ }) rfl (fun K hK => ?_) AllReadyH.nil
              obtain ⟨q0, q1, q2, q3, q4⟩ := box_cells (R.ht _ _ _ rfl)
              go_simp
              replace R := R.st2 (.int .i64 bD) (.int .i64 bU)
              refine hK.out _ _ (by (try dsimp only); exact HS.out _ R.hb) (fun _ => ?_)
              clear hK K q0 q1 q2 q3 q4
              try simp only [Act.put, List.setIfInBounds_toArray, List.set_cons_zero, List.set_cons_succ]
              skip
              refine wpAnyH_done (by kernel_rfl) ?_ _
              refine onlyN_normal ?_
              gi_wp2
              gi_meet
              exact ⟨_, _, rfl, rfl, R.hs _ _ _ rfl, R.ht _ _ _ rfl, R.hb⟩
            refine AllReadyH.cons (o := { dst := some 15, op := _, type := _, pos := _, after := _, guard := _ }) rfl (fun K hK => ?_) AllReadyH.nil
            go_simp
            replace R := R.al1
            refine hK.out _ _ (by (try dsimp only); exact HS.out _ R.hb) (fun _ => ?_)
            clear hK K
            try simp only [Act.put, List.setIfInBounds_toArray, List.set_cons_zero, List.set_cons_succ]
            generalize World.alloc _ (.cells #[.int .i64 0, .int .i64 0] 46) = u at *
            refine wpAnyH_ready (rs := [9]) (by kernel_rfl) (by simp) ?_
            refine AllReadyH.cons (o := { dst := some 46, op := _, type := _, pos := _, after := _, guard := _ }) rfl (fun K hK => ?_) AllReadyH.nil
            go_simp
            ((with_reducible refine (PB.out _).mono ?_); rintro e v ⟨rfl, h⟩)
            go_wp2_with fail
            replace R := R.call h
            refine hK.out _ _ (by (try dsimp only); exact HS.out _ R.hb) (fun _ => ?_)
            clear hK K h
            try simp only [Act.put, List.setIfInBounds_toArray, List.set_cons_zero, List.set_cons_succ]
            refine wpAnyH_ready (rs := [12]) (by kernel_rfl) (by simp) ?_
            refine AllReadyH.cons (o := { dst := none, op := _, type := _, pos := _, after := _, guard := _ }) rfl (fun K hK => ?_) AllReadyH.nil
            obtain ⟨q0, q1, q2, q3, q4⟩ := box_cells (R.hs _ _ _ rfl)
            go_simp
            replace R := R.st1 (.int .i64 aD) (.int .i64 aU)
            refine hK.out _ _ (by (try dsimp only); exact HS.out _ R.hb) (fun _ => ?_)
            clear hK K q0 q1 q2 q3 q4
            try simp only [Act.put, List.setIfInBounds_toArray, List.set_cons_zero, List.set_cons_succ]
            skip
            refine wpAnyH_ready (rs := [13]) (by kernel_rfl) (by simp) ?_
            refine AllReadyH.cons (o := { dst := none, op := _, type := _, pos := _, after := _, guard := _ }) rfl (fun K hK => ?_) AllReadyH.nil
            obtain ⟨q0, q1, q2, q3, q4⟩ := box_cells (R.ht _ _ _ rfl)
            go_simp
            replace R := R.st2 (.int .i64 bD) (.int .i64 bU)
            refine hK.out _ _ (by (try dsimp only); exact HS.out _ R.hb) (fun _ => ?_)
            clear hK K q0 q1 q2 q3 q4
            try simp only [Act.put, List.setIfInBounds_toArray, List.set_cons_zero, List.set_cons_succ]
            skip
            refine wpAnyH_done (by kernel_rfl) ?_ _
            refine onlyN_normal ?_
            gi_wp2
            gi_meet
            exact ⟨_, _, rfl, rfl, R.hs _ _ _ rfl, R.ht _ _ _ rfl, R.hb⟩
          refine AllReadyH.cons (o := { dst := some 15, op := _, type := _, pos := _, after := _, guard := _ }) rfl (fun K hK => ?_) AllReadyH.nil
          go_simp
          replace R := R.al1
          refine hK.out _ _ (by (try dsimp only); exact HS.out _ R.hb) (fun _ => ?_)
          clear hK K
          try simp only [Act.put, List.setIfInBounds_toArray, List.set_cons_zero, List.set_cons_succ]
          generalize World.alloc _ (.cells #[.int .i64 0, .int .i64 0] 46) = u at *
          refine wpAnyH_ready (rs := [7]) (by kernel_rfl) (by simp) ?_
          refine AllReadyH.cons (o := { dst := some 44, op := _, type := _, pos := _, after := _, guard := _ }) rfl (fun K hK => ?_) AllReadyH.nil
          go_simp
          ((with_reducible refine (LB.out _ R.hb).mono ?_); rintro e v ⟨rfl, h⟩)
          go_wp2_with fail
          replace R := R.call h
          refine hK.out _ _ (by (try dsimp only); exact HS.out _ R.hb) (fun _ => ?_)
          clear hK K h
          try simp only [Act.put, List.setIfInBounds_toArray, List.set_cons_zero, List.set_cons_succ]
          refine wpAnyH_ready (rs := [9]) (by kernel_rfl) (by simp) ?_
          refine AllReadyH.cons (o := { dst := some 46, op := _, type := _, pos := _, after := _, guard := _ }) rfl (fun K hK => ?_) AllReadyH.nil
          go_simp
          ((with_reducible refine (PB.out _).mono ?_); rintro e v ⟨rfl, h⟩)
          go_wp2_with fail
          replace R := R.call h
          refine hK.out _ _ (by (try dsimp only); exact HS.out _ R.hb) (fun _ => ?_)
          clear hK K h
          try simp only [Act.put, List.setIfInBounds_toArray, List.set_cons_zero, List.set_cons_succ]
          refine wpAnyH_ready (rs := [12]) (by kernel_rfl) (by simp) ?_
          refine AllReadyH.cons (o := { dst := none, op := _, type := _, pos := _, after := _, guard := _ }) rfl (fun K hK => ?_) AllReadyH.nil
          obtain ⟨q0, q1, q2, q3, q4⟩ := box_cells (R.hs _ _ _ rfl)
          go_simp
          replace R := R.st1 (.int .i64 aD) (.int .i64 aU)
          refine hK.out _ _ (by (try dsimp only); exact HS.out _ R.hb) (fun _ => ?_)
          clear hK K q0 q1 q2 q3 q4
          try simp only [Act.put, List.setIfInBounds_toArray, List.set_cons_zero, List.set_cons_succ]
          skip
          refine wpAnyH_ready (rs := [13]) (by kernel_rfl) (by simp) ?_
          refine AllReadyH.cons (o := { dst := none, op := _, type := _, pos := _, after := _, guard := _ }) rfl (fun K hK => ?_) AllReadyH.nil
          obtain ⟨q0, q1, q2, q3, q4⟩ := box_cells (R.ht _ _ _ rfl)
          go_simp
          replace R := R.st2 (.int .i64 bD) (.int .i64 bU)
          refine hK.out _ _ (by (try dsimp only); exact HS.out _ R.hb) (fun _ => ?_)
          clear hK K q0 q1 q2 q3 q4
          try simp only [Act.put, List.setIfInBounds_toArray, List.set_cons_zero, List.set_cons_succ]
          skip
          refine wpAnyH_done (by kernel_rfl) ?_ _
          refine onlyN_normal ?_
          gi_wp2
          gi_meet
          exact ⟨_, _, rfl, rfl, R.hs _ _ _ rfl, R.ht _ _ _ rfl, R.hb⟩
        refine AllReadyH.cons (o := { dst := some 15, op := _, type := _, pos := _, after := _, guard := _ }) rfl (fun K hK => ?_) ?_
        · go_simp
          replace R := R.al1
          refine hK.out _ _ (by (try dsimp only); exact HS.out _ R.hb) (fun _ => ?_)
          clear hK K
          try simp only [Act.put, List.setIfInBounds_toArray, List.set_cons_zero, List.set_cons_succ]
          generalize World.alloc _ (.cells #[.int .i64 0, .int .i64 0] 46) = u at *
          refine wpAnyH_ready (rs := [4, 11]) (by kernel_rfl) (by simp) ?_
          refine AllReadyH.cons (o := { dst := some 41, op := _, type := _, pos := _, after := _, guard := _ }) rfl (fun K hK => ?_) ?_
          · go_simp
            ((with_reducible refine (PA.out _).mono ?_); rintro e v ⟨rfl, h⟩)
            go_wp2_with fail
            replace R := R.call h
            refine hK.out _ _ (by (try dsimp only); exact HS.out _ R.hb) (fun _ => ?_)
            clear hK K h
            try simp only [Act.put, List.setIfInBounds_toArray, List.set_cons_zero, List.set_cons_succ]
            refine wpAnyH_ready (rs := [7, 11]) (by kernel_rfl) (by simp) ?_
            refine AllReadyH.cons (o := { dst := some 44, op := _, type := _, pos := _, after := _, guard := _ }) rfl (fun K hK => ?_) ?_
            · go_simp
              ((with_reducible refine (LB.out _ R.hb).mono ?_); rintro e v ⟨rfl, h⟩)
              go_wp2_with fail
              replace R := R.call h
              refine hK.out _ _ (by (try dsimp only); exact HS.out _ R.hb) (fun _ => ?_)
              clear hK K h
              try simp only [Act.put, List.setIfInBounds_toArray, List.set_cons_zero, List.set_cons_succ]
              refine wpAnyH_ready (rs := [9, 11]) (by kernel_rfl) (by simp) ?_
              refine AllReadyH.cons (o := { dst := some 46, op := _, type := _, pos := _, after := _, guard := _ }) rfl (fun K hK => ?_) ?_
              · go_simp
                ((with_reducible refine (PB.out _).mono ?_); rintro e v ⟨rfl, h⟩)
                go_wp2_with fail
                replace R := R.call h
                refine hK.out _ _ (by (try dsimp only); exact HS.out _ R.hb) (fun _ => ?_)
                clear hK K h
                try simp only [Act.put, List.setIfInBounds_toArray, List.set_cons_zero, List.set_cons_succ]
                refine wpAnyH_ready (rs := [11]) (by kernel_rfl) (by simp) ?_
                refine AllReadyH.cons (o := { dst := some 16, op := _, type := _, pos := _, after := _, guard := _ }) rfl (fun K hK => ?_) AllReadyH.nil
                go_simp
                replace R := R.al2
                refine hK.out _ _ (by (try dsimp only); exact HS.out _ R.hb) (fun _ => ?_)
                clear hK K
                try simp only [Act.put, List.setIfInBounds_toArray, List.set_cons_zero, List.set_cons_succ]
                generalize World.alloc _ (.cells #[.int .i64 0, .int .i64 0] 46) = u at *
                refine wpAnyH_ready (rs := [12]) (by kernel_rfl) (by simp) ?_
                refine AllReadyH.cons (o := { dst := none, op := _, type := _, pos := _, after := _, guard := _ }) rfl (fun K hK => ?_) AllReadyH.nil
                obtain ⟨q0, q1, q2, q3, q4⟩ := box_cells (R.hs _ _ _ rfl)
                go_simp
                replace R := R.st1 (.int .i64 aD) (.int .i64 aU)
                refine hK.out _ _ (by (try dsimp only); exact HS.out _ R.hb) (fun _ => ?_)
                clear hK K q0 q1 q2 q3 q4
                try simp only [Act.put, List.setIfInBounds_toArray, List.set_cons_zero, List.set_cons_succ]
                skip
                refine wpAnyH_ready (rs := [13]) (by kernel_rfl) (by simp) ?_
                refine AllReadyH.cons (o := { dst := none, op := _, type := _, pos := _, after := _, guard := _ }) rfl (fun K hK => ?_) AllReadyH.nil
                obtain ⟨q0, q1, q2, q3, q4⟩ := box_cells (R.ht _ _ _ rfl)
                go_simp
                replace R := R.st2 (.int .i64 bD) (.int .i64 bU)
                refine hK.out _ _ (by (try dsimp only); exact HS.out _ R.hb) (fun _ => ?_)
                clear hK K q0 q1 q2 q3 q4
                try simp only [Act.put, List.setIfInBounds_toArray, List.set_cons_zero, List.set_cons_succ]
                skip
                refine wpAnyH_done (by kernel_rfl) ?_ _
                refine onlyN_normal ?_
                gi_wp2
                gi_meet
                exact ⟨_, _, rfl, rfl, R.hs _ _ _ rfl, R.ht _ _ _ rfl, R.hb⟩
              refine AllReadyH.cons (o := { dst := some 16, op := _, type := _, pos := _, after := _, guard := _ }) rfl (fun K hK => ?_) AllReadyH.nil
              go_simp
              replace R := R.al2
              refine hK.out _ _ (by (try dsimp only); exact HS.out _ R.hb) (fun _ => ?_)
              clear hK K
              try simp only [Act.put, List.setIfInBounds_toArray, List.set_cons_zero, List.set_cons_succ]
              generalize World.alloc _ (.cells #[.int .i64 0, .int .i64 0] 46) = u at *
              refine wpAnyH_ready (rs := [9]) (by kernel_rfl) (by simp) ?_
              refine AllReadyH.cons (o := { dst := some 46, op := _, type := _, pos := _, after := _, guard := _ }) rfl (fun K hK => ?_) AllReadyH.nil
              go_simp
              ((with_reducible refine (PB.out _).mono ?_); rintro e v ⟨rfl, h⟩)
              go_wp2_with fail
              replace R := R.call h
              refine hK.out _ _ (by (try dsimp only); exact HS.out _ R.hb) (fun _ => ?_)
              clear hK K h
              try simp only [Act.put, List.setIfInBounds_toArray, List.set_cons_zero, List.set_cons_succ]
              refine wpAnyH_ready (rs := [12]) (by kernel_rfl) (by simp) ?_
              refine AllReadyH.cons (o := { dst := none, op := _, type := _, pos := _, after := _, guard := _ }) rfl (fun K hK => ?_) AllReadyH.nil
              obtain ⟨q0, q1, q2, q3, q4⟩ := box_cells (R.hs _ _ _ rfl)
              go_simp
              replace R := R.st1 (.int .i64 aD) (.int .i64 aU)
              refine hK.out _ _ (by (try dsimp only); exact HS.out _ R.hb) (fun _ => ?_)
              clear hK K q0 q1 q2 q3 q4
              try simp only [Act.put, List.setIfInBounds_toArray, List.set_cons_zero, List.set_cons_succ]
              skip
              refine wpAnyH_ready (rs := [13]) (by kernel_rfl) (by simp) ?_
              refine AllReadyH.cons (o := { dst := none, op := _, type := _, pos := _, after := _, guard := _ }) rfl (fun K hK => ?_) AllReadyH.nil
              obtain ⟨q0, q1, q2, q3, q4⟩ := box_cells (R.ht _ _ _ rfl)
              go_simp
              replace R := R.st2 (.int .i64 bD) (.int .i64 bU)
              refine hK.out _ _ (by (try dsimp only); exact HS.out _ R.hb) (fun _ => ?_)
              clear hK K q0 q1 q2 q3 q4
              try simp only [Act.put, List.setIfInBounds_toArray, List.set_cons_zero, List.set_cons_succ]
              skip
              refine wpAnyH_done (by kernel_rfl) ?_ _
              refine onlyN_normal ?_
              gi_wp2
              gi_meet
              exact ⟨_, _, rfl, rfl, R.hs _ _ _ rfl, R.ht _ _ _ rfl, R.hb⟩
            refine AllReadyH.cons (o := { dst := some 16, op := _, type := _, pos := _, after := _, guard := _ }) rfl (fun K hK => ?_) AllReadyH.nil
            go_simp
            replace R := R.al2
            refine hK.out _ _ (by (try dsimp only); exact HS.out _ R.hb) (fun _ => ?_)
            clear hK K
            try simp only [Act.put, List.setIfInBounds_toArray, List.set_cons_zero, List.set_cons_succ]
            generalize World.alloc _ (.cells #[.int .i64 0, .int .i64 0] 46) = u at *
            refine wpAnyH_ready (rs := [7]) (by kernel_rfl) (by simp) ?_
            refine AllReadyH.cons (o := { dst := some 44, op := _, type := _, pos := _, after := _, guard := _ }) rfl (fun K hK => ?_) AllReadyH.nil
            go_simp
            ((with_reducible refine (LB.out _ R.hb).mono ?_); rintro e v ⟨rfl, h⟩)
            go_wp2_with fail
            replace R := R.call h
            refine hK.out _ _ (by (try dsimp only); exact HS.out _ R.hb) (fun _ => ?_)
            clear hK K h
            try simp only [Act.put, List.setIfInBounds_toArray, List.set_cons_zero, List.set_cons_succ]
            refine wpAnyH_ready (rs := [9]) (by kernel_rfl) (by simp) ?_
            refine AllReadyH.cons (o := { dst := some 46, op := _, type := _, pos := _, after := _, guard := _ }) rfl (fun K hK => ?_) AllReadyH.nil
            go_simp
            ((with_reducible refine (PB.out _).mono ?_); rintro e v ⟨rfl, h⟩)
            go_wp2_with fail
            replace R := R.call h
            refine hK.out _ _ (by (try dsimp only); exact HS.out _ R.hb) (fun _ => ?_)
            clear hK K h
            try simp only [Act.put, List.setIfInBounds_toArray, List.set_cons_zero, List.set_cons_succ]
            refine wpAnyH_ready (rs := [12]) (by kernel_rfl) (by simp) ?_
            refine AllReadyH.cons (o := { dst := none, op := _, type := _, pos := _, after := _, guard := _ }) rfl (fun K hK => ?_) AllReadyH.nil
            obtain ⟨q0, q1, q2, q3, q4⟩ := box_cells (R.hs _ _ _ rfl)
            go_simp
            replace R := R.st1 (.int .i64 aD) (.int .i64 aU)
            refine hK.out _ _ (by (try dsimp only); exact HS.out _ R.hb) (fun _ => ?_)
            clear hK K q0 q1 q2 q3 q4
            try simp only [Act.put, List.setIfInBounds_toArray, List.set_cons_zero, List.set_cons_succ]
            skip
            refine wpAnyH_ready (rs := [13]) (by kernel_rfl) (by simp) ?_
            refine AllReadyH.cons (o := { dst := none, op := _, type := _, pos := _, after := _, guard := _ }) rfl (fun K hK => ?_) AllReadyH.nil
            obtain ⟨q0, q1, q2, q3, q4⟩ := box_cells (R.ht _ _ _ rfl)
            go_simp
            replace R := R.st2 (.int .i64 bD) (.int .i64 bU)
            refine hK.out _ _ (by (try dsimp only); exact HS.out _ R.hb) (fun _ => ?_)
            clear hK K q0 q1 q2 q3 q4
            try simp only [Act.put, List.setIfInBounds_toArray, List.set_cons_zero, List.set_cons_succ]
            skip
            refine wpAnyH_done (by kernel_rfl) ?_ _
            refine onlyN_normal ?_
            gi_wp2
            gi_meet
            exact ⟨_, _, rfl, rfl, R.hs _ _ _ rfl, R.ht _ _ _ rfl, R.hb⟩
          refine AllReadyH.cons (o := { dst := some 16, op := _, type := _, pos := _, after := _, guard := _ }) rfl (fun K hK => ?_) AllReadyH.nil
          go_simp
          replace R := R.al2
          refine hK.out _ _ (by (try dsimp only); exact HS.out _ R.hb) (fun _ => ?_)
          clear hK K
          try simp only [Act.put, List.setIfInBounds_toArray, List.set_cons_zero, List.set_cons_succ]
          generalize World.alloc _ (.cells #[.int .i64 0, .int .i64 0] 46) = u at *
          refine wpAnyH_ready (rs := [4]) (by kernel_rfl) (by simp) ?_
          refine AllReadyH.cons (o := { dst := some 41, op := _, type := _, pos := _, after := _, guard := _ }) rfl (fun K hK => ?_) AllReadyH.nil
          go_simp
          ((with_reducible refine (PA.out _).mono ?_); rintro e v ⟨rfl, h⟩)
          go_wp2_with fail
          replace R := R.call h
          refine hK.out _ _ (by (try dsimp only); exact HS.out _ R.hb) (fun _ => ?_)
          clear hK K h
          try simp only [Act.put, List.setIfInBounds_toArray, List.set_cons_zero, List.set_cons_succ]
          refine wpAnyH_ready (rs := [7]) (by kernel_rfl) (by simp) ?_
          refine AllReadyH.cons (o := { dst := some 44, op := _, type := _, pos := _, after := _, guard := _ }) rfl (fun K hK => ?_) AllReadyH.nil
          go_simp
          ((with_reducible refine (LB.out _ R.hb).mono ?_); rintro e v ⟨rfl, h⟩)
          go_wp2_with fail
          replace R := R.call h
          refine hK.out _ _ (by (try dsimp only); exact HS.out _ R.hb) (fun _ => ?_)
          clear hK K h
          try simp only [Act.put, List.setIfInBounds_toArray, List.set_cons_zero, List.set_cons_succ]
          refine wpAnyH_ready (rs := [9]) (by kernel_rfl) (by simp) ?_
          refine AllReadyH.cons (o := { dst := some 46, op := _, type := _, pos := _, after := _, guard := _ }) rfl (fun K hK => ?_) AllReadyH.nil
          go_simp
          ((with_reducible refine (PB.out _).mono ?_); rintro e v ⟨rfl, h⟩)
          go_wp2_with fail
          replace R := R.call h
          refine hK.out _ _ (by (try dsimp only); exact HS.out _ R.hb) (fun _ => ?_)
          clear hK K h
          try simp only [Act.put, List.setIfInBounds_toArray, List.set_cons_zero, List.set_cons_succ]
          refine wpAnyH_ready (rs := [12]) (by kernel_rfl) (by simp) ?_
          refine AllReadyH.cons (o := { dst := none, op := _, type := _, pos := _, after := _, guard := _ }) rfl (fun K hK => ?_) AllReadyH.nil
          obtain ⟨q0, q1, q2, q3, q4⟩ := box_cells (R.hs _ _ _ rfl)
          go_simp
          replace R := R.st1 (.int .i64 aD) (.int .i64 aU)
          refine hK.out _ _ (by (try dsimp only); exact HS.out _ R.hb) (fun _ => ?_)
          clear hK K q0 q1 q2 q3 q4
          try simp only [Act.put, List.setIfInBounds_toArray, List.set_cons_zero, List.set_cons_succ]
          skip
          refine wpAnyH_ready (rs := [13]) (by kernel_rfl) (by simp) ?_
          refine AllReadyH.cons (o := { dst := none, op := _, type := _, pos := _, after := _, guard := _ }) rfl (fun K hK => ?_) AllReadyH.nil
          obtain ⟨q0, q1, q2, q3, q4⟩ := box_cells (R.ht _ _ _ rfl)
          go_simp
          replace R := R.st2 (.int .i64 bD) (.int .i64 bU)
          refine hK.out _ _ (by (try dsimp only); exact HS.out _ R.hb) (fun _ => ?_)
          clear hK K q0 q1 q2 q3 q4
          try simp only [Act.put, List.setIfInBounds_toArray, List.set_cons_zero, List.set_cons_succ]
          skip
          refine wpAnyH_done (by kernel_rfl) ?_ _
          refine onlyN_normal ?_
          gi_wp2
          gi_meet
          exact ⟨_, _, rfl, rfl, R.hs _ _ _ rfl, R.ht _ _ _ rfl, R.hb⟩
        refine AllReadyH.cons (o := { dst := some 16, op := _, type := _, pos := _, after := _, guard := _ }) rfl (fun K hK => ?_) AllReadyH.nil
        go_simp
        replace R := R.al2
        refine hK.out _ _ (by (try dsimp only); exact HS.out _ R.hb) (fun _ => ?_)
        clear hK K
        try simp only [Act.put, List.setIfInBounds_toArray, List.set_cons_zero, List.set_cons_succ]
        generalize World.alloc _ (.cells #[.int .i64 0, .int .i64 0] 46) = u at *
        refine wpAnyH_ready (rs := [4, 10]) (by kernel_rfl) (by simp) ?_
        refine AllReadyH.cons (o := { dst := some 41, op := _, type := _, pos := _, after := _, guard := _ }) rfl (fun K hK => ?_) ?_
        · go_simp
          ((with_reducible refine (PA.out _).mono ?_); rintro e v ⟨rfl, h⟩)
          go_wp2_with fail
          replace R := R.call h
          refine hK.out _ _ (by (try dsimp only); exact HS.out _ R.hb) (fun _ => ?_)
          clear hK K h
          try simp only [Act.put, List.setIfInBounds_toArray, List.set_cons_zero, List.set_cons_succ]
          refine wpAnyH_ready (rs := [7, 10]) (by kernel_rfl) (by simp) ?_
          refine AllReadyH.cons (o := { dst := some 44, op := _, type := _, pos := _, after := _, guard := _ }) rfl (fun K hK => ?_) ?_
          · go_simp
            ((with_reducible refine (LB.out _ R.hb).mono ?_); rintro e v ⟨rfl, h⟩)
            go_wp2_with fail
            replace R := R.call h
            refine hK.out _ _ (by (try dsimp only); exact HS.out _ R.hb) (fun _ => ?_)
            clear hK K h
            try simp only [Act.put, List.setIfInBounds_toArray, List.set_cons_zero, List.set_cons_succ]
            refine wpAnyH_ready (rs := [9, 10]) (by kernel_rfl) (by simp) ?_
            refine AllReadyH.cons (o := { dst := some 46, op := _, type := _, pos := _, after := _, guard := _ }) rfl (fun K hK => ?_) ?_
            · go_simp
              ((with_reducible refine (PB.out _).mono ?_); rintro e v ⟨rfl, h⟩)
              go_wp2_with fail
              replace R := R.call h
              refine hK.out _ _ (by (try dsimp only); exact HS.out _ R.hb) (fun _ => ?_)
              clear hK K h
              try simp only [Act.put, List.setIfInBounds_toArray, List.set_cons_zero, List.set_cons_succ]
              refine wpAnyH_ready (rs := [10]) (by kernel_rfl) (by simp) ?_
              refine AllReadyH.cons (o := { dst := some 15, op := _, type := _, pos := _, after := _, guard := _ }) rfl (fun K hK => ?_) AllReadyH.nil
              go_simp
              replace R := R.al1
              refine hK.out _ _ (by (try dsimp only); exact HS.out _ R.hb) (fun _ => ?_)
              clear hK K
              try simp only [Act.put, List.setIfInBounds_toArray, List.set_cons_zero, List.set_cons_succ]
              generalize World.alloc _ (.cells #[.int .i64 0, .int .i64 0] 46) = u at *
              refine wpAnyH_ready (rs := [12]) (by kernel_rfl) (by simp) ?_
              refine AllReadyH.cons (o := { dst := none, op := _, type := _, pos := _, after := _, guard := _ }) rfl (fun K hK => ?_) AllReadyH.nil
              obtain ⟨q0, q1, q2, q3, q4⟩ := box_cells (R.hs _ _ _ rfl)
              go_simp
              replace R := R.st1 (.int .i64 aD) (.int .i64 aU)
              refine hK.out _ _ (by (try dsimp only); exact HS.out _ R.hb) (fun _ => ?_)
              clear hK K q0 q1 q2 q3 q4
              try simp only [Act.put, List.setIfInBounds_toArray, List.set_cons_zero, List.set_cons_succ]
              skip
              refine wpAnyH_ready (rs := [13]) (by kernel_rfl) (by simp) ?_
              refine AllReadyH.cons (o := { dst := none, op := _, type := _, pos := _, after := _, guard := _ }) rfl (fun K hK => ?_) AllReadyH.nil
              obtain ⟨q0, q1, q2, q3, q4⟩ := box_cells (R.ht _ _ _ rfl)
              go_simp
              replace R := R.st2 (.int .i64 bD) (.int .i64 bU)
              refine hK.out _ _ (by (try dsimp only); exact HS.out _ R.hb) (fun _ => ?_)
              clear hK K q0 q1 q2 q3 q4
              try simp only [Act.put, List.setIfInBounds_toArray, List.set_cons_zero, List.set_cons_succ]
              skip
              refine wpAnyH_done (by kernel_rfl) ?_ _
              refine onlyN_normal ?_
              gi_wp2
              gi_meet
              exact ⟨_, _, rfl, rfl, R.hs _ _ _ rfl, R.ht _ _ _ rfl, R.hb⟩
            refine AllReadyH.cons (o := { dst := some 15, op := _, type := _, pos := _, after := _, guard := _ }) rfl (fun K hK => ?_) AllReadyH.nil
            go_simp
            replace R := R.al1
            refine hK.out _ _ (by (try dsimp only); exact HS.out _ R.hb) (fun _ => ?_)
            clear hK K
            try simp only [Act.put, List.setIfInBounds_toArray, List.set_cons_zero, List.set_cons_succ]
            generalize World.alloc _ (.cells #[.int .i64 0, .int .i64 0] 46) = u at *
            refine wpAnyH_ready (rs := [9]) (by kernel_rfl) (by simp) ?_
            refine AllReadyH.cons (o := { dst := some 46, op := _, type := _, pos := _, after := _, guard := _ }) rfl (fun K hK => ?_) AllReadyH.nil
            go_simp
            ((with_reducible refine (PB.out _).mono ?_); rintro e v ⟨rfl, h⟩)
            go_wp2_with fail
            replace R := R.call h
            refine hK.out _ _ (by (try dsimp only); exact HS.out _ R.hb) (fun _ => ?_)
            clear hK K h
            try simp only [Act.put, List.setIfInBounds_toArray, List.set_cons_zero, List.set_cons_succ]
            refine wpAnyH_ready (rs := [12]) (by kernel_rfl) (by simp) ?_
            refine AllReadyH.cons (o := { dst := none, op := _, type := _, pos := _, after := _, guard := _ }) rfl (fun K hK => ?_) AllReadyH.nil
            obtain ⟨q0, q1, q2, q3, q4⟩ := box_cells (R.hs _ _ _ rfl)
            go_simp
            replace R := R.st1 (.int .i64 aD) (.int .i64 aU)
            refine hK.out _ _ (by (try dsimp only); exact HS.out _ R.hb) (fun _ => ?_)
            clear hK K q0 q1 q2 q3 q4
            try simp only [Act.put, List.setIfInBounds_toArray, List.set_cons_zero, List.set_cons_succ]
            skip
            refine wpAnyH_ready (rs := [13]) (by kernel_rfl) (by simp) ?_
            refine AllReadyH.cons (o := { dst := none, op := _, type := _, pos := _, after := _, guard := _ }) rfl (fun K hK => ?_) AllReadyH.nil
            obtain ⟨q0, q1, q2, q3, q4⟩ := box_cells (R.ht _ _ _ rfl)
            go_simp
            replace R := R.st2 (.int .i64 bD) (.int .i64 bU)
            refine hK.out _ _ (by (try dsimp only); exact HS.out _ R.hb) (fun _ => ?_)
            clear hK K q0 q1 q2 q3 q4
            try simp only [Act.put, List.setIfInBounds_toArray, List.set_cons_zero, List.set_cons_succ]
            skip
            refine wpAnyH_done (by kernel_rfl) ?_ _
            refine onlyN_normal ?_
            gi_wp2
            gi_meet
            exact ⟨_, _, rfl, rfl, R.hs _ _ _ rfl, R.ht _ _ _ rfl, R.hb⟩
          refine AllReadyH.cons (o := { dst := some 15, op := _, type := _, pos := _, after := _, guard := _ }) rfl (fun K hK => ?_) AllReadyH.nil
          go_simp
          replace R := R.al1
          refine hK.out _ _ (by (try dsimp only); exact HS.out _ R.hb) (fun _ => ?_)
          clear hK K
          try simp only [Act.put, List.setIfInBounds_toArray, List.set_cons_zero, List.set_cons_succ]
          generalize World.alloc _ (.cells #[.int .i64 0, .int .i64 0] 46) = u at *
          refine wpAnyH_ready (rs := [7]) (by kernel_rfl) (by simp) ?_
          refine AllReadyH.cons (o := { dst := some 44, op := _, type := _, pos := _, after := _, guard := _ }) rfl (fun K hK => ?_) AllReadyH.nil
          go_simp
          ((with_reducible refine (LB.out _ R.hb).mono ?_); rintro e v ⟨rfl, h⟩)
          go_wp2_with fail
          replace R := R.call h
          refine hK.out _ _ (by (try dsimp only); exact HS.out _ R.hb) (fun _ => ?_)
          clear hK K h
          try simp only [Act.put, List.setIfInBounds_toArray, List.set_cons_zero, List.set_cons_succ]
          refine wpAnyH_ready (rs := [9]) (by kernel_rfl) (by simp) ?_
          refine AllReadyH.cons (o := { dst := some 46, op := _, type := _, pos := _, after := _, guard := _ }) rfl (fun K hK => ?_) AllReadyH.nil
          go_simp
          ((with_reducible refine (PB.out _).mono ?_); rintro e v ⟨rfl, h⟩)
          go_wp2_with fail
          replace R := R.call h
          refine hK.out _ _ (by (try dsimp only); exact HS.out _ R.hb) (fun _ => ?_)
          clear hK K h
          try simp only [Act.put, List.setIfInBounds_toArray, List.set_cons_zero, List.set_cons_succ]
          refine wpAnyH_ready (rs := [12]) (by kernel_rfl) (by simp) ?_
          refine AllReadyH.cons (o := { dst := none, op := _, type := _, pos := _, after := _, guard := _ }) rfl (fun K hK => ?_) AllReadyH.nil
          obtain ⟨q0, q1, q2, q3, q4⟩ := box_cells (R.hs _ _ _ rfl)
          go_simp
          replace R := R.st1 (.int .i64 aD) (.int .i64 aU)
          refine hK.out _ _ (by (try dsimp only); exact HS.out _ R.hb) (fun _ => ?_)
          clear hK K q0 q1 q2 q3 q4
          try simp only [Act.put, List.setIfInBounds_toArray, List.set_cons_zero, List.set_cons_succ]
          skip
          refine wpAnyH_ready (rs := [13]) (by kernel_rfl) (by simp) ?_
          refine AllReadyH.cons (o := { dst := none, op := _, type := _, pos := _, after := _, guard := _ }) rfl (fun K hK => ?_) AllReadyH.nil
          obtain ⟨q0, q1, q2, q3, q4⟩ := box_cells (R.ht _ _ _ rfl)
          go_simp
          replace R := R.st2 (.int .i64 bD) (.int .i64 bU)
          refine hK.out _ _ (by (try dsimp only); exact HS.out _ R.hb) (fun _ => ?_)
          clear hK K q0 q1 q2 q3 q4
          try simp only [Act.put, List.setIfInBounds_toArray, List.set_cons_zero, List.set_cons_succ]
          skip
          refine wpAnyH_done (by kernel_rfl) ?_ _
          refine onlyN_normal ?_
          gi_wp2
          gi_meet
          exact ⟨_, _, rfl, rfl, R.hs _ _ _ rfl, R.ht _ _ _ rfl, R.hb⟩
        refine AllReadyH.cons (o := { dst := some 15, op := _, type := _, pos := _, after := _, guard := _ }) rfl (fun K hK => ?_) AllReadyH.nil
        go_simp
        replace R := R.al1
        refine hK.out _ _ (by (try dsimp only); exact HS.out _ R.hb) (fun _ => ?_)
        clear hK K
        try simp only [Act.put, List.setIfInBounds_toArray, List.set_cons_zero, List.set_cons_succ]
        generalize World.alloc _ (.cells #[.int .i64 0, .int .i64 0] 46) = u at *
        refine wpAnyH_ready (rs := [4]) (by kernel_rfl) (by simp) ?_
        refine AllReadyH.cons (o := { dst := some 41, op := _, type := _, pos := _, after := _, guard := _ }) rfl (fun K hK => ?_) AllReadyH.nil
        go_simp
        ((with_reducible refine (PA.out _).mono ?_); rintro e v ⟨rfl, h⟩)
        go_wp2_with fail
        replace R := R.call h
        refine hK.out _ _ (by (try dsimp only); exact HS.out _ R.hb) (fun _ => ?_)
        clear hK K h
        try simp only [Act.put, List.setIfInBounds_toArray, List.set_cons_zero, List.set_cons_succ]
        refine wpAnyH_ready (rs := [7]) (by kernel_rfl) (by simp) ?_
        refine AllReadyH.cons (o := { dst := some 44, op := _, type := _, pos := _, after := _, guard := _ }) rfl (fun K hK => ?_) AllReadyH.nil
        go_simp
        ((with_reducible refine (LB.out _ R.hb).mono ?_); rintro e v ⟨rfl, h⟩)
        go_wp2_with fail
        replace R := R.call h
        refine hK.out _ _ (by (try dsimp only); exact HS.out _ R.hb) (fun _ => ?_)
        clear hK K h
        try simp only [Act.put, List.setIfInBounds_toArray, List.set_cons_zero, List.set_cons_succ]
        refine wpAnyH_ready (rs := [9]) (by kernel_rfl) (by simp) ?_
        refine AllReadyH.cons (o := { dst := some 46, op := _, type := _, pos := _, after := _, guard := _ }) rfl (fun K hK => ?_) AllReadyH.nil
        go_simp
        ((with_reducible refine (PB.out _).mono ?_); rintro e v ⟨rfl, h⟩)
        go_wp2_with fail
        replace R := R.call h
        refine hK.out _ _ (by (try dsimp only); exact HS.out _ R.hb) (fun _ => ?_)
        clear hK K h
        try simp only [Act.put, List.setIfInBounds_toArray, List.set_cons_zero, List.set_cons_succ]
        refine wpAnyH_ready (rs := [12]) (by kernel_rfl) (by simp) ?_
        refine AllReadyH.cons (o := { dst := none, op := _, type := _, pos := _, after := _, guard := _ }) rfl (fun K hK => ?_) AllReadyH.nil
        obtain ⟨q0, q1, q2, q3, q4⟩ := box_cells (R.hs _ _ _ rfl)
        go_simp
        replace R := R.st1 (.int .i64 aD) (.int .i64 aU)
        refine hK.out _ _ (by (try dsimp only); exact HS.out _ R.hb) (fun _ => ?_)
        clear hK K q0 q1 q2 q3 q4
        try simp only [Act.put, List.setIfInBounds_toArray, List.set_cons_zero, List.set_cons_succ]
        skip
        refine wpAnyH_ready (rs := [13]) (by kernel_rfl) (by simp) ?_
        refine AllReadyH.cons (o := { dst := none, op := _, type := _, pos := _, after := _, guard := _ }) rfl (fun K hK => ?_) AllReadyH.nil
        obtain ⟨q0, q1, q2, q3, q4⟩ := box_cells (R.ht _ _ _ rfl)
        go_simp
        replace R := R.st2 (.int .i64 bD) (.int .i64 bU)
        refine hK.out _ _ (by (try dsimp only); exact HS.out _ R.hb) (fun _ => ?_)
        clear hK K q0 q1 q2 q3 q4
        try simp only [Act.put, List.setIfInBounds_toArray, List.set_cons_zero, List.set_cons_succ]
        skip
        refine wpAnyH_done (by kernel_rfl) ?_ _
        refine onlyN_normal ?_
        gi_wp2
        gi_meet
        exact ⟨_, _, rfl, rfl, R.hs _ _ _ rfl, R.ht _ _ _ rfl, R.hb⟩
      refine AllReadyH.cons (o := { dst := some 15, op := _, type := _, pos := _, after := _, guard := _ }) rfl (fun K hK => ?_) ?_
      · go_simp
        replace R := R.al1
        refine hK.out _ _ (by (try dsimp only); exact HS.out _ R.hb) (fun _ => ?_)
        clear hK K
        try simp only [Act.put, List.setIfInBounds_toArray, List.set_cons_zero, List.set_cons_succ]
        generalize World.alloc _ (.cells #[.int .i64 0, .int .i64 0] 46) = u at *
        refine wpAnyH_ready (rs := [2, 11]) (by kernel_rfl) (by simp) ?_
        refine AllReadyH.cons (o := { dst := some 39, op := _, type := _, pos := _, after := _, guard := _ }) rfl (fun K hK => ?_) ?_
        · go_simp
          ((with_reducible refine (LA.out _ R.hb).mono ?_); rintro e v ⟨rfl, h⟩)
          go_wp2_with fail
          replace R := R.call h
          refine hK.out _ _ (by (try dsimp only); exact HS.out _ R.hb) (fun _ => ?_)
          clear hK K h
          try simp only [Act.put, List.setIfInBounds_toArray, List.set_cons_zero, List.set_cons_succ]
          refine wpAnyH_ready (rs := [4, 11]) (by kernel_rfl) (by simp) ?_
          refine AllReadyH.cons (o := { dst := some 41, op := _, type := _, pos := _, after := _, guard := _ }) rfl (fun K hK => ?_) ?_
          · go_simp
            ((with_reducible refine (PA.out _).mono ?_); rintro e v ⟨rfl, h⟩)
            go_wp2_with fail
            replace R := R.call h
            refine hK.out _ _ (by (try dsimp only); exact HS.out _ R.hb) (fun _ => ?_)
            clear hK K h
            try simp only [Act.put, List.setIfInBounds_toArray, List.set_cons_zero, List.set_cons_succ]
            refine wpAnyH_ready (rs := [7, 11]) (by kernel_rfl) (by simp) ?_
            refine AllReadyH.cons (o := { dst := some 44, op := _, type := _, pos := _, after := _, guard := _ }) rfl (fun K hK => ?_) ?_
            · go_simp
              ((with_reducible refine (LB.out _ R.hb).mono ?_); rintro e v ⟨rfl, h⟩)
              go_wp2_with fail
              replace R := R.call h
              refine hK.out _ _ (by (try dsimp only); exact HS.out _ R.hb) (fun _ => ?_)
              clear hK K h
              try simp only [Act.put, List.setIfInBounds_toArray, List.set_cons_zero, List.set_cons_succ]
              refine wpAnyH_ready (rs := [9, 11]) (by kernel_rfl) (by simp) ?_
              refine AllReadyH.cons (o := { dst := some 46, op := _, type := _, pos := _, after := _, guard := _ }) rfl (fun K hK => ?_) ?_
              · go_simp
                ((with_reducible refine (PB.out _).mono ?_); rintro e v ⟨rfl, h⟩)
                go_wp2_with fail
                replace R := R.call h
                refine hK.out _ _ (by (try dsimp only); exact HS.out _ R.hb) (fun _ => ?_)
                clear hK K h
                try simp only [Act.put, List.setIfInBounds_toArray, List.set_cons_zero, List.set_cons_succ]
                refine wpAnyH_ready (rs := [11]) (by kernel_rfl) (by simp) ?_
                refine AllReadyH.cons (o := { dst := some 16, op := _, type := _, pos := _, after := _, guard := _ }) rfl (fun K hK => ?_) AllReadyH.nil
                go_simp
                replace R := R.al2
                refine hK.out _ _ (by (try dsimp only); exact HS.out _ R.hb) (fun _ => ?_)
                clear hK K
                try simp only [Act.put, List.setIfInBounds_toArray, List.set_cons_zero, List.set_cons_succ]
                generalize World.alloc _ (.cells #[.int .i64 0, .int .i64 0] 46) = u at *
                refine wpAnyH_ready (rs := [12]) (by kernel_rfl) (by simp) ?_
                refine AllReadyH.cons (o := { dst := none, op := _, type := _, pos := _, after := _, guard := _ }) rfl (fun K hK => ?_) AllReadyH.nil
                obtain ⟨q0, q1, q2, q3, q4⟩ := box_cells (R.hs _ _ _ rfl)
                go_simp
                replace R := R.st1 (.int .i64 aD) (.int .i64 aU)
                refine hK.out _ _ (by (try dsimp only); exact HS.out _ R.hb) (fun _ => ?_)
                clear hK K q0 q1 q2 q3 q4
                try simp only [Act.put, List.setIfInBounds_toArray, List.set_cons_zero, List.set_cons_succ]
                skip
                refine wpAnyH_ready (rs := [13]) (by kernel_rfl) (by simp) ?_
                refine AllReadyH.cons (o := { dst := none, op := _, type := _, pos := _, after := _, guard := _ }) rfl (fun K hK => ?_) AllReadyH.nil
                obtain ⟨q0, q1, q2, q3, q4⟩ := box_cells (R.ht _ _ _ rfl)
                go_simp
                replace R := R.st2 (.int .i64 bD) (.int .i64 bU)
                refine hK.out _ _ (by (try dsimp only); exact HS.out _ R.hb) (fun _ => ?_)
                clear hK K q0 q1 q2 q3 q4
                try simp only [Act.put, List.setIfInBounds_toArray, List.set_cons_zero, List.set_cons_succ]
                skip
                refine wpAnyH_done (by kernel_rfl) ?_ _
                refine onlyN_normal ?_
                gi_wp2
                gi_meet
                exact ⟨_, _, rfl, rfl, R.hs _ _ _ rfl, R.ht _ _ _ rfl, R.hb⟩
              refine AllReadyH.cons (o := { dst := some 16, op := _, type := _, pos := _, after := _, guard := _ }) rfl (fun K hK => ?_) AllReadyH.nil
              go_simp
              replace R := R.al2
              refine hK.out _ _ (by (try dsimp only); exact HS.out _ R.hb) (fun _ => ?_)
              clear hK K
              try simp only [Act.put, List.setIfInBounds_toArray, List.set_cons_zero, List.set_cons_succ]
              generalize World.alloc _ (.cells #[.int .i64 0, .int .i64 0] 46) = u at *
              refine wpAnyH_ready (rs := [9]) (by kernel_rfl) (by simp) ?_
              refine AllReadyH.cons (o := { dst := some 46, op := _, type := _, pos := _, after := _, guard := _ }) rfl (fun K hK => ?_) AllReadyH.nil
              go_simp
              ((with_reducible refine (PB.out _).mono ?_); rintro e v ⟨rfl, h⟩)
              go_wp2_with fail
              replace R := R.call h
              refine hK.out _ _ (by (try dsimp only); exact HS.out _ R.hb) (fun _ => ?_)
              clear hK K h
              try simp only [Act.put, List.setIfInBounds_toArray, List.set_cons_zero, List.set_cons_succ]
              refine wpAnyH_ready (rs := [12]) (by kernel_rfl) (by simp) ?_
              refine AllReadyH.cons (o := { dst := none, op := _, type := _, pos := _, after := _, guard := _ }) rfl (fun K hK => ?_) AllReadyH.nil
              obtain ⟨q0, q1, q2, q3, q4⟩ := box_cells (R.hs _ _ _ rfl)
              go_simp
              replace R := R.st1 (.int .i64 aD) (.int .i64 aU)
              refine hK.out _ _ (by (try dsimp only); exact HS.out _ R.hb) (fun _ => ?_)
              clear hK K q0 q1 q2 q3 q4
              try simp only [Act.put, List.setIfInBounds_toArray, List.set_cons_zero, List.set_cons_succ]
              skip
              refine wpAnyH_ready (rs := [13]) (by kernel_rfl) (by simp) ?_
              refine AllReadyH.cons (o := { dst := none, op := _, type := _, pos := _, after := _, guard := _ }) rfl (fun K hK => ?_) AllReadyH.nil
              obtain ⟨q0, q1, q2, q3, q4⟩ := box_cells (R.ht _ _ _ rfl)
              go_simp
              replace R := R.st2 (.int .i64 bD) (.int .i64 bU)
              refine hK.out _ _ (by (try dsimp only); exact HS.out _ R.hb) (fun _ => ?_)
              clear hK K q0 q1 q2 q3 q4
              try simp only [Act.put, List.setIfInBounds_toArray, List.set_cons_zero, List.set_cons_succ]
              skip
              refine wpAnyH_done (by kernel_rfl) ?_ _
              refine onlyN_normal ?_
              gi_wp2
              gi_meet
              exact ⟨_, _, rfl, rfl, R.hs _ _ _ rfl, R.ht _ _ _ rfl, R.hb⟩
            refine AllReadyH.cons (o := { dst := some 16, op := _, type := _, pos := _, after := _, guard := _ }) rfl (fun K hK => ?_) AllReadyH.nil
            go_simp
            replace R := R.al2
            refine hK.out _ _ (by (try dsimp only); exact HS.out _ R.hb) (fun _ => ?_)
            clear hK K
            try simp only [Act.put, List.setIfInBounds_toArray, List.set_cons_zero, List.set_cons_succ]
            generalize World.alloc _ (.cells #[.int .i64 0, .int .i64 0] 46) = u at *
            refine wpAnyH_ready (rs := [7]) (by kernel_rfl) (by simp) ?_
            refine AllReadyH.cons (o := { dst := some 44, op := _, type := _, pos := _, after := _, guard := _ }) rfl (fun K hK => ?_) AllReadyH.nil
            go_simp
            ((with_reducible refine (LB.out _ R.hb).mono ?_); rintro e v ⟨rfl, h⟩)
            go_wp2_with fail
            replace R := R.call h
            refine hK.out _ _ (by (try dsimp only); exact HS.out _ R.hb) (fun _ => ?_)
            clear hK K h
            try simp only [Act.put, List.setIfInBounds_toArray, List.set_cons_zero, List.set_cons_succ]
            refine wpAnyH_ready (rs := [9]) (by kernel_rfl) (by simp) ?_
            refine AllReadyH.cons (o := { dst := some 46, op := _, type := _, pos := _, after := _, guard := _ }) rfl (fun K hK => ?_) AllReadyH.nil
            go_simp
            ((with_reducible refine (PB.out _).mono ?_); rintro e v ⟨rfl, h⟩)
            go_wp2_with fail
            replace R := R.call h
            refine hK.out _ _ (by (try dsimp only); exact HS.out _ R.hb) (fun _ => ?_)
            clear hK K h
            try simp only [Act.put, List.setIfInBounds_toArray, List.set_cons_zero, List.set_cons_succ]
            refine wpAnyH_ready (rs := [12]) (by kernel_rfl) (by simp) ?_
            refine AllReadyH.cons (o := { dst := none, op := _, type := _, pos := _, after := _, guard := _ }) rfl (fun K hK => ?_) AllReadyH.nil
            obtain ⟨q0, q1, q2, q3, q4⟩ := box_cells (R.hs _ _ _ rfl)
            go_simp
            replace R := R.st1 (.int .i64 aD) (.int .i64 aU)
            refine hK.out _ _ (by (try dsimp only); exact HS.out _ R.hb) (fun _ => ?_)
            clear hK K q0 q1 q2 q3 q4
            try simp only [Act.put, List.setIfInBounds_toArray, List.set_cons_zero, List.set_cons_succ]
            skip
            refine wpAnyH_ready (rs := [13]) (by kernel_rfl) (by simp) ?_
            refine AllReadyH.cons (o := { dst := none, op := _, type := _, pos := _, after := _, guard := _ }) rfl (fun K hK => ?_) AllReadyH.nil
            obtain ⟨q0, q1, q2, q3, q4⟩ := box_cells (R.ht _ _ _ rfl)
            go_simp
            replace R := R.st2 (.int .i64 bD) (.int .i64 bU)
            refine hK.out _ _ (by (try dsimp only); exact HS.out _ R.hb) (fun _ => ?_)
            clear hK K q0 q1 q2 q3 q4
            try simp only [Act.put, List.setIfInBounds_toArray, List.set_cons_zero, List.set_cons_succ]
            skip
            refine wpAnyH_done (by kernel_rfl) ?_ _
            refine onlyN_normal ?_
            gi_wp2
            gi_meet
            exact ⟨_, _, rfl, rfl, R.hs _ _ _ rfl, R.ht _ _ _ rfl, R.hb⟩
          refine AllReadyH.cons (o := { dst := some 16, op := _, type := _, pos := _, after := _, guard := _ }) rfl (fun K hK => ?_) AllReadyH.nil
          go_simp
          replace R := R.al2
          refine hK.out _ _ (by (try dsimp only); exact HS.out _ R.hb) (fun _ => ?_)
          clear hK K
          try simp only [Act.put, List.setIfInBounds_toArray, List.set_cons_zero, List.set_cons_succ]
          generalize World.alloc _ (.cells #[.int .i64 0, .int .i64 0] 46) = u at *
          refine wpAnyH_ready (rs := [4]) (by kernel_rfl) (by simp) ?_
          refine AllReadyH.cons (o := { dst := some 41, op := _, type := _, pos := _, after := _, guard := _ }) rfl (fun K hK => ?_) AllReadyH.nil
          go_simp
          ((with_reducible refine (PA.out _).mono ?_); rintro e v ⟨rfl, h⟩)
          go_wp2_with fail
          replace R := R.call h
          refine hK.out _ _ (by (try dsimp only); exact HS.out _ R.hb) (fun _ => ?_)
          clear hK K h
          try simp only [Act.put, List.setIfInBounds_toArray, List.set_cons_zero, List.set_cons_succ]
          refine wpAnyH_ready (rs := [7]) (by kernel_rfl) (by simp) ?_
          refine AllReadyH.cons (o := { dst := some 44, op := _, type := _, pos := _, after := _, guard := _ }) rfl (fun K hK => ?_) AllReadyH.nil
          go_simp
          ((with_reducible refine (LB.out _ R.hb).mono ?_); rintro e v ⟨rfl, h⟩)
          go_wp2_with fail
          replace R := R.call h
          refine hK.out _ _ (by (try dsimp only); exact HS.out _ R.hb) (fun _ => ?_)
          clear hK K h
          try simp only [Act.put, List.setIfInBounds_toArray, List.set_cons_zero, List.set_cons_succ]
          refine wpAnyH_ready (rs := [9]) (by kernel_rfl) (by simp) ?_
          refine AllReadyH.cons (o := { dst := some 46, op := _, type := _, pos := _, after := _, guard := _ }) rfl (fun K hK => ?_) AllReadyH.nil
          go_simp
          ((with_reducible refine (PB.out _).mono ?_); rintro e v ⟨rfl, h⟩)
          go_wp2_with fail
          replace R := R.call h
          refine hK.out _ _ (by (try dsimp only); exact HS.out _ R.hb) (fun _ => ?_)
          clear hK K h
          try simp only [Act.put, List.setIfInBounds_toArray, List.set_cons_zero, List.set_cons_succ]
          refine wpAnyH_ready (rs := [12]) (by kernel_rfl) (by simp) ?_
          refine AllReadyH.cons (o := { dst := none, op := _, type := _, pos := _, after := _, guard := _ }) rfl (fun K hK => ?_) AllReadyH.nil
          obtain ⟨q0, q1, q2, q3, q4⟩ := box_cells (R.hs _ _ _ rfl)
          go_simp
          replace R := R.st1 (.int .i64 aD) (.int .i64 aU)
          refine hK.out _ _ (by (try dsimp only); exact HS.out _ R.hb) (fun _ => ?_)
          clear hK K q0 q1 q2 q3 q4
          try simp only [Act.put, List.setIfInBounds_toArray, List.set_cons_zero, List.set_cons_succ]
          skip
          refine wpAnyH_ready (rs := [13]) (by kernel_rfl) (by simp) ?_
          refine AllReadyH.cons (o := { dst := none, op := _, type := _, pos := _, after := _, guard := _ }) rfl (fun K hK => ?_) AllReadyH.nil
          obtain ⟨q0, q1, q2, q3, q4⟩ := box_cells (R.ht _ _ _ rfl)
          go_simp
          replace R := R.st2 (.int .i64 bD) (.int .i64 bU)
          refine hK.out _ _ (by (try dsimp only); exact HS.out _ R.hb) (fun _ => ?_)
          clear hK K q0 q1 q2 q3 q4
          try simp only [Act.put, List.setIfInBounds_toArray, List.set_cons_zero, List.set_cons_succ]
          skip
          refine wpAnyH_done (by kernel_rfl) ?_ _
          refine onlyN_normal ?_
          gi_wp2
          gi_meet
          exact ⟨_, _, rfl, rfl, R.hs _ _ _ rfl, R.ht _ _ _ rfl, R.hb⟩
        refine AllReadyH.cons (o := { dst := some 16, op := _, type := _, pos := _, after := _, guard := _ }) rfl (fun K hK => ?_) AllReadyH.nil
        go_simp
        replace R := R.al2
        refine hK.out _ _ (by (try dsimp only); exact HS.out _ R.hb) (fun _ => ?_)
        clear hK K
        try simp only [Act.put, List.setIfInBounds_toArray, List.set_cons_zero, List.set_cons_succ]
        generalize World.alloc _ (.cells #[.int .i64 0, .int .i64 0] 46) = u at *
        refine wpAnyH_ready (rs := [2]) (by kernel_rfl) (by simp) ?_
        refine AllReadyH.cons (o := { dst := some 39, op := _, type := _, pos := _, after := _, guard := _ }) rfl (fun K hK => ?_) AllReadyH.nil
        go_simp
        ((with_reducible refine (LA.out _ R.hb).mono ?_); rintro e v ⟨rfl, h⟩)
        go_wp2_with fail
        replace R := R.call h
        refine hK.out _ _ (by (try dsimp only); exact HS.out _ R.hb) (fun _ => ?_)
        clear hK K h
        try simp only [Act.put, List.setIfInBounds_toArray, List.set_cons_zero, List.set_cons_succ]
        refine wpAnyH_ready (rs := [4]) (by kernel_rfl) (by simp) ?_
        refine AllReadyH.cons (o := { dst := some 41, op := _, type := _, pos := _, after := _, guard := _ }) rfl (fun K hK => ?_) AllReadyH.nil
        go_simp
        ((with_reducible refine (PA.out _).mono ?_); rintro e v ⟨rfl, h⟩)
        go_wp2_with fail
        replace R := R.call h
        refine hK.out _ _ (by (try dsimp only); exact HS.out _ R.hb) (fun _ => ?_)
        clear hK K h
        try simp only [Act.put, List.setIfInBounds_toArray, List.set_cons_zero, List.set_cons_succ]
        refine wpAnyH_ready (rs := [7]) (by kernel_rfl) (by simp) ?_
        refine AllReadyH.cons (o := { dst := some 44, op := _, type := _, pos := _, after := _, guard := _ }) rfl (fun K hK => ?_) AllReadyH.nil
        go_simp
        ((with_reducible refine (LB.out _ R.hb).mono ?_); rintro e v ⟨rfl, h⟩)
        go_wp2_with fail
        replace R := R.call h
        refine hK.out _ _ (by (try dsimp only); exact HS.out _ R.hb) (fun _ => ?_)
        clear hK K h
        try simp only [Act.put, List.setIfInBounds_toArray, List.set_cons_zero, List.set_cons_succ]
        refine wpAnyH_ready (rs := [9]) (by kernel_rfl) (by simp) ?_
        refine AllReadyH.cons (o := { dst := some 46, op := _, type := _, pos := _, after := _, guard := _ }) rfl (fun K hK => ?_) AllReadyH.nil
        go_simp
        ((with_reducible refine (PB.out _).mono ?_); rintro e v ⟨rfl, h⟩)
        go_wp2_with fail
        replace R := R.call h
        refine hK.out _ _ (by (try dsimp only); exact HS.out _ R.hb) (fun _ => ?_)
        clear hK K h
        try simp only [Act.put, List.setIfInBounds_toArray, List.set_cons_zero, List.set_cons_succ]
        refine wpAnyH_ready (rs := [12]) (by kernel_rfl) (by simp) ?_
        refine AllReadyH.cons (o := { dst := none, op := _, type := _, pos := _, after := _, guard := _ }) rfl (fun K hK => ?_) AllReadyH.nil
        obtain ⟨q0, q1, q2, q3, q4⟩ := box_cells (R.hs _ _ _ rfl)
        go_simp
        replace R := R.st1 (.int .i64 aD) (.int .i64 aU)
        refine hK.out _ _ (by (try dsimp only); exact HS.out _ R.hb) (fun _ => ?_)
        clear hK K q0 q1 q2 q3 q4
        try simp only [Act.put, List.setIfInBounds_toArray, List.set_cons_zero, List.set_cons_succ]
        skip
        refine wpAnyH_ready (rs := [13]) (by kernel_rfl) (by simp) ?_
        refine AllReadyH.cons (o := { dst := none, op := _, type := _, pos := _, after := _, guard := _ }) rfl (fun K hK => ?_) AllReadyH.nil
        obtain ⟨q0, q1, q2, q3, q4⟩ := box_cells (R.ht _ _ _ rfl)
        go_simp
        replace R := R.st2 (.int .i64 bD) (.int .i64 bU)
        refine hK.out _ _ (by (try dsimp only); exact HS.out _ R.hb) (fun _ => ?_)
        clear hK K q0 q1 q2 q3 q4
        try simp only [Act.put, List.setIfInBounds_toArray, List.set_cons_zero, List.set_cons_succ]
        skip
        refine wpAnyH_done (by kernel_rfl) ?_ _
        refine onlyN_normal ?_
        gi_wp2
        gi_meet
        exact ⟨_, _, rfl, rfl, R.hs _ _ _ rfl, R.ht _ _ _ rfl, R.hb⟩
      refine AllReadyH.cons (o := { dst := some 16, op := _, type := _, pos := _, after := _, guard := _ }) rfl (fun K hK => ?_) AllReadyH.nil
      go_simp
      replace R := R.al2
      refine hK.out _ _ (by (try dsimp only); exact HS.out _ R.hb) (fun _ => ?_)
      clear hK K
      try simp only [Act.put, List.setIfInBounds_toArray, List.set_cons_zero, List.set_cons_succ]
      generalize World.alloc _ (.cells #[.int .i64 0, .int .i64 0] 46) = u at *
      refine wpAnyH_ready (rs := [2, 10]) (by kernel_rfl) (by simp) ?_
      refine AllReadyH.cons (o := { dst := some 39, op := _, type := _, pos := _, after := _, guard := _ }) rfl (fun K hK => ?_) ?_
      · go_simp
        ((with_reducible refine (LA.out _ R.hb).mono ?_); rintro e v ⟨rfl, h⟩)
        go_wp2_with fail
        replace R := R.call h
        refine hK.out _ _ (by (try dsimp only); exact HS.out _ R.hb) (fun _ => ?_)
        clear hK K h
        try simp only [Act.put, List.setIfInBounds_toArray, List.set_cons_zero, List.set_cons_succ]
        refine wpAnyH_ready (rs := [4, 10]) (by kernel_rfl) (by simp) ?_
        refine AllReadyH.cons (o := { dst := some 41, op := _, type := _, pos := _, after := _, guard := _ }) rfl (fun K hK => ?_) ?_
        · go_simp
          ((with_reducible refine (PA.out _).mono ?_); rintro e v ⟨rfl, h⟩)
          go_wp2_with fail
          replace R := R.call h
          refine hK.out _ _ (by (try dsimp only); exact HS.out _ R.hb) (fun _ => ?_)
          clear hK K h
          try simp only [Act.put, List.setIfInBounds_toArray, List.set_cons_zero, List.set_cons_succ]
          refine wpAnyH_ready (rs := [7, 10]) (by kernel_rfl) (by simp) ?_
          refine AllReadyH.cons (o := { dst := some 44, op := _, type := _, pos := _, after := _, guard := _ }) rfl (fun K hK => ?_) ?_
          · go_simp
            ((with_reducible refine (LB.out _ R.hb).mono ?_); rintro e v ⟨rfl, h⟩)
            go_wp2_with fail
            replace R := R.call h
            refine hK.out _ _ (by (try dsimp only); exact HS.out _ R.hb) (fun _ => ?_)
            clear hK K h
            try simp only [Act.put, List.setIfInBounds_toArray, List.set_cons_zero, List.set_cons_succ]
            refine wpAnyH_ready (rs := [9, 10]) (by kernel_rfl) (by simp) ?_
            refine AllReadyH.cons (o := { dst := some 46, op := _, type := _, pos := _, after := _, guard := _ }) rfl (fun K hK => ?_) ?_
            · go_simp
              ((with_reducible refine (PB.out _).mono ?_); rintro e v ⟨rfl, h⟩)
              go_wp2_with fail
              replace R := R.call h
              refine hK.out _ _ (by (try dsimp only); exact HS.out _ R.hb) (fun _ => ?_)
              clear hK K h
              try simp only [Act.put, List.setIfInBounds_toArray, List.set_cons_zero, List.set_cons_succ]
              refine wpAnyH_ready (rs := [10]) (by kernel_rfl) (by simp) ?_
              refine AllReadyH.cons (o := { dst := some 15, op := _, type := _, pos := _, after := _, guard := _ }) rfl (fun K hK => ?_) AllReadyH.nil
              go_simp
              replace R := R.al1
              refine hK.out _ _ (by (try dsimp only); exact HS.out _ R.hb) (fun _ => ?_)
              clear hK K
              try simp only [Act.put, List.setIfInBounds_toArray, List.set_cons_zero, List.set_cons_succ]
              generalize World.alloc _ (.cells #[.int .i64 0, .int .i64 0] 46) = u at *
              refine wpAnyH_ready (rs := [12]) (by kernel_rfl) (by simp) ?_
              refine AllReadyH.cons (o := { dst := none, op := _, type := _, pos := _, after := _, guard := _ }) rfl (fun K hK => ?_) AllReadyH.nil
              obtain ⟨q0, q1, q2, q3, q4⟩ := box_cells (R.hs _ _ _ rfl)
              go_simp
              replace R := R.st1 (.int .i64 aD) (.int .i64 aU)
              refine hK.out _ _ (by (try dsimp only); exact HS.out _ R.hb) (fun _ => ?_)
              clear hK K q0 q1 q2 q3 q4
              try simp only [Act.put, List.setIfInBounds_toArray, List.set_cons_zero, List.set_cons_succ]
              skip
              refine wpAnyH_ready (rs := [13]) (by kernel_rfl) (by simp) ?_
              refine AllReadyH.cons (o := { dst := none, op := _, type := _, pos := _, after := _, guard := _ }) rfl (fun K hK => ?_) AllReadyH.nil
              obtain ⟨q0, q1, q2, q3, q4⟩ := box_cells (R.ht _ _ _ rfl)
              go_simp
              replace R := R.st2 (.int .i64 bD) (.int .i64 bU)
              refine hK.out _ _ (by (try dsimp only); exact HS.out _ R.hb) (fun _ => ?_)
              clear hK K q0 q1 q2 q3 q4
              try simp only [Act.put, List.setIfInBounds_toArray, List.set_cons_zero, List.set_cons_succ]
              skip
              refine wpAnyH_done (by kernel_rfl) ?_ _
              refine onlyN_normal ?_
              gi_wp2
              gi_meet
              exact ⟨_, _, rfl, rfl, R.hs _ _ _ rfl, R.ht _ _ _ rfl, R.hb⟩
            refine AllReadyH.cons (o := { dst := some 15, op := _, type := _, pos := _, after := _, guard := _ }) rfl (fun K hK => ?_) AllReadyH.nil
            go_simp
            replace R := R.al1
            refine hK.out _ _ (by (try dsimp only); exact HS.out _ R.hb) (fun _ => ?_)
            clear hK K
            try simp only [Act.put, List.setIfInBounds_toArray, List.set_cons_zero, List.set_cons_succ]
            generalize World.alloc _ (.cells #[.int .i64 0, .int .i64 0] 46) = u at *
            refine wpAnyH_ready (rs := [9]) (by kernel_rfl) (by simp) ?_
            refine AllReadyH.cons (o := { dst := some 46, op := _, type := _, pos := _, after := _, guard := _ }) rfl (fun K hK => ?_) AllReadyH.nil
            go_simp
            ((with_reducible refine (PB.out _).mono ?_); rintro e v ⟨rfl, h⟩)
            go_wp2_with fail
            replace R := R.call h
            refine hK.out _ _ (by (try dsimp only); exact HS.out _ R.hb) (fun _ => ?_)
            clear hK K h
            try simp only [Act.put, List.setIfInBounds_toArray, List.set_cons_zero, List.set_cons_succ]
            refine wpAnyH_ready (rs := [12]) (by kernel_rfl) (by simp) ?_
            refine AllReadyH.cons (o := { dst := none, op := _, type := _, pos := _, after := _, guard := _ }) rfl (fun K hK => ?_) AllReadyH.nil
            obtain ⟨q0, q1, q2, q3, q4⟩ := box_cells (R.hs _ _ _ rfl)
            go_simp
            replace R := R.st1 (.int .i64 aD) (.int .i64 aU)
            refine hK.out _ _ (by (try dsimp only); exact HS.out _ R.hb) (fun _ => ?_)
            clear hK K q0 q1 q2 q3 q4
            try simp only [Act.put, List.setIfInBounds_toArray, List.set_cons_zero, List.set_cons_succ]
            skip
            refine wpAnyH_ready (rs := [13]) (by kernel_rfl) (by simp) ?_
            refine AllReadyH.cons (o := { dst := none, op := _, type := _, pos := _, after := _, guard := _ }) rfl (fun K hK => ?_) AllReadyH.nil
            obtain ⟨q0, q1, q2, q3, q4⟩ := box_cells (R.ht _ _ _ rfl)
            go_simp
            replace R := R.st2 (.int .i64 bD) (.int .i64 bU)
            refine hK.out _ _ (by (try dsimp only); exact HS.out _ R.hb) (fun _ => ?_)
            clear hK K q0 q1 q2 q3 q4
            try simp only [Act.put, List.setIfInBounds_toArray, List.set_cons_zero, List.set_cons_succ]
            skip
            refine wpAnyH_done (by kernel_rfl) ?_ _
            refine onlyN_normal ?_
            gi_wp2
            gi_meet
            exact ⟨_, _, rfl, rfl, R.hs _ _ _ rfl, R.ht _ _ _ rfl, R.hb⟩
          refine AllReadyH.cons (o := { dst := some 15, op := _, type := _, pos := _, after := _, guard := _ }) rfl (fun K hK => ?_) AllReadyH.nil
          go_simp
          replace R := R.al1
          refine hK.out _ _ (by (try dsimp only); exact HS.out _ R.hb) (fun _ => ?_)
          clear hK K
          try simp only [Act.put, List.setIfInBounds_toArray, List.set_cons_zero, List.set_cons_succ]
          generalize World.alloc _ (.cells #[.int .i64 0, .int .i64 0] 46) = u at *
          refine wpAnyH_ready (rs := [7]) (by kernel_rfl) (by simp) ?_
          refine AllReadyH.cons (o := { dst := some 44, op := _, type := _, pos := _, after := _, guard := _ }) rfl (fun K hK => ?_) AllReadyH.nil
          go_simp
          ((with_reducible refine (LB.out _ R.hb).mono ?_); rintro e v ⟨rfl, h⟩)
          go_wp2_with fail
          replace R := R.call h
          refine hK.out _ _ (by (try dsimp only); exact HS.out _ R.hb) (fun _ => ?_)
          clear hK K h
          try simp only [Act.put, List.setIfInBounds_toArray, List.set_cons_zero, List.set_cons_succ]
          refine wpAnyH_ready (rs := [9]) (by kernel_rfl) (by simp) ?_
          refine AllReadyH.cons (o := { dst := some 46, op := _, type := _, pos := _, after := _, guard := _ }) rfl (fun K hK => ?_) AllReadyH.nil
          go_simp
          ((with_reducible refine (PB.out _).mono ?_); rintro e v ⟨rfl, h⟩)
          go_wp2_with fail
          replace R := R.call h
          refine hK.out _ _ (by (try dsimp only); exact HS.out _ R.hb) (fun _ => ?_)
          clear hK K h
          try simp only [Act.put, List.setIfInBounds_toArray, List.set_cons_zero, List.set_cons_succ]
          refine wpAnyH_ready (rs := [12]) (by kernel_rfl) (by simp) ?_
          refine AllReadyH.cons (o := { dst := none, op := _, type := _, pos := _, after := _, guard := _ }) rfl (fun K hK => ?_) AllReadyH.nil
          obtain ⟨q0, q1, q2, q3, q4⟩ := box_cells (R.hs _ _ _ rfl)
          go_simp
          replace R := R.st1 (.int .i64 aD) (.int .i64 aU)
          refine hK.out _ _ (by (try dsimp only); exact HS.out _ R.hb) (fun _ => ?_)
          clear hK K q0 q1 q2 q3 q4
          try simp only [Act.put, List.setIfInBounds_toArray, List.set_cons_zero, List.set_cons_succ]
          skip
          refine wpAnyH_ready (rs := [13]) (by kernel_rfl) (by simp) ?_
          refine AllReadyH.cons (o := { dst := none, op := _, type := _, pos := _, after := _, guard := _ }) rfl (fun K hK => ?_) AllReadyH.nil
          obtain ⟨q0, q1, q2, q3, q4⟩ := box_cells (R.ht _ _ _ rfl)
          go_simp
          replace R := R.st2 (.int .i64 bD) (.int .i64 bU)
          refine hK.out _ _ (by (try dsimp only); exact HS.out _ R.hb) (fun _ => ?_)
          clear hK K q0 q1 q2 q3 q4
          try simp only [Act.put, List.setIfInBounds_toArray, List.set_cons_zero, List.set_cons_succ]
          skip
          refine wpAnyH_done (by kernel_rfl) ?_ _
          refine onlyN_normal ?_
          gi_wp2
          gi_meet
          exact ⟨_, _, rfl, rfl, R.hs _ _ _ rfl, R.ht _ _ _ rfl, R.hb⟩
        refine AllReadyH.cons (o := { dst := some 15, op := _, type := _, pos := _, after := _, guard := _ }) rfl (fun K hK => ?_) AllReadyH.nil
        go_simp
        replace R := R.al1
        refine hK.out _ _ (by (try dsimp only); exact HS.out _ R.hb) (fun _ => ?_)
        clear hK K
        try simp only [Act.put, List.setIfInBounds_toArray, List.set_cons_zero, List.set_cons_succ]
        generalize World.alloc _ (.cells #[.int .i64 0, .int .i64 0] 46) = u at *
        refine wpAnyH_ready (rs := [4]) (by kernel_rfl) (by simp) ?_
        refine AllReadyH.cons (o := { dst := some 41, op := _, type := _, pos := _, after := _, guard := _ }) rfl (fun K hK => ?_) AllReadyH.nil
        go_simp
        ((with_reducible refine (PA.out _).mono ?_); rintro e v ⟨rfl, h⟩)
        go_wp2_with fail
        replace R := R.call h
        refine hK.out _ _ (by (try dsimp only); exact HS.out _ R.hb) (fun _ => ?_)
        clear hK K h
        try simp only [Act.put, List.setIfInBounds_toArray, List.set_cons_zero, List.set_cons_succ]
        refine wpAnyH_ready (rs := [7]) (by kernel_rfl) (by simp) ?_
        refine AllReadyH.cons (o := { dst := some 44, op := _, type := _, pos := _, after := _, guard := _ }) rfl (fun K hK => ?_) AllReadyH.nil
        go_simp
        ((with_reducible refine (LB.out _ R.hb).mono ?_); rintro e v ⟨rfl, h⟩)
        go_wp2_with fail
        replace R := R.call h
        refine hK.out _ _ (by (try dsimp only); exact HS.out _ R.hb) (fun _ => ?_)
        clear hK K h
        try simp only [Act.put, List.setIfInBounds_toArray, List.set_cons_zero, List.set_cons_succ]
        refine wpAnyH_ready (rs := [9]) (by kernel_rfl) (by simp) ?_
        refine AllReadyH.cons (o := { dst := some 46, op := _, type := _, pos := _, after := _, guard := _ }) rfl (fun K hK => ?_) AllReadyH.nil
        go_simp
        ((with_reducible refine (PB.out _).mono ?_); rintro e v ⟨rfl, h⟩)
        go_wp2_with fail
        replace R := R.call h
        refine hK.out _ _ (by (try dsimp only); exact HS.out _ R.hb) (fun _ => ?_)
        clear hK K h
        try simp only [Act.put, List.setIfInBounds_toArray, List.set_cons_zero, List.set_cons_succ]
        refine wpAnyH_ready (rs := [12]) (by kernel_rfl) (by simp) ?_
        refine AllReadyH.cons (o := { dst := none, op := _, type := _, pos := _, after := _, guard := _ }) rfl (fun K hK => ?_) AllReadyH.nil
        obtain ⟨q0, q1, q2, q3, q4⟩ := box_cells (R.hs _ _ _ rfl)
        go_simp
        replace R := R.st1 (.int .i64 aD) (.int .i64 aU)
        refine hK.out _ _ (by (try dsimp only); exact HS.out _ R.hb) (fun _ => ?_)
        clear hK K q0 q1 q2 q3 q4
        try simp only [Act.put, List.setIfInBounds_toArray, List.set_cons_zero, List.set_cons_succ]
        skip
        refine wpAnyH_ready (rs := [13]) (by kernel_rfl) (by simp) ?_
        refine AllReadyH.cons (o := { dst := none, op := _, type := _, pos := _, after := _, guard := _ }) rfl (fun K hK => ?_) AllReadyH.nil
        obtain ⟨q0, q1, q2, q3, q4⟩ := box_cells (R.ht _ _ _ rfl)
        go_simp
        replace R := R.st2 (.int .i64 bD) (.int .i64 bU)
        refine hK.out _ _ (by (try dsimp only); exact HS.out _ R.hb) (fun _ => ?_)
        clear hK K q0 q1 q2 q3 q4
        try simp only [Act.put, List.setIfInBounds_toArray, List.set_cons_zero, List.set_cons_succ]
        skip
        refine wpAnyH_done (by kernel_rfl) ?_ _
        refine onlyN_normal ?_
        gi_wp2
        gi_meet
        exact ⟨_, _, rfl, rfl, R.hs _ _ _ rfl, R.ht _ _ _ rfl, R.hb⟩
      refine AllReadyH.cons (o := { dst := some 15, op := _, type := _, pos := _, after := _, guard := _ }) rfl (fun K hK => ?_) AllReadyH.nil
      go_simp
      replace R := R.al1
      refine hK.out _ _ (by (try dsimp only); exact HS.out _ R.hb) (fun _ => ?_)
      clear hK K
      try simp only [Act.put, List.setIfInBounds_toArray, List.set_cons_zero, List.set_cons_succ]
      generalize World.alloc _ (.cells #[.int .i64 0, .int .i64 0] 46) = u at *
      refine wpAnyH_ready (rs := [2]) (by kernel_rfl) (by simp) ?_
      refine AllReadyH.cons (o := { dst := some 39, op := _, type := _, pos := _, after := _, guard := _ }) rfl (fun K hK => ?_) AllReadyH.nil
      go_simp
      ((with_reducible refine (LA.out _ R.hb).mono ?_); rintro e v ⟨rfl, h⟩)
      go_wp2_with fail
      replace R := R.call h
      refine hK.out _ _ (by (try dsimp only); exact HS.out _ R.hb) (fun _ => ?_)
      clear hK K h
      try simp only [Act.put, List.setIfInBounds_toArray, List.set_cons_zero, List.set_cons_succ]
      refine wpAnyH_ready (rs := [4]) (by kernel_rfl) (by simp) ?_
      refine AllReadyH.cons (o := { dst := some 41, op := _, type := _, pos := _, after := _, guard := _ }) rfl (fun K hK => ?_) AllReadyH.nil
      go_simp
      ((with_reducible refine (PA.out _).mono ?_); rintro e v ⟨rfl, h⟩)
      go_wp2_with fail
      replace R := R.call h
      refine hK.out _ _ (by (try dsimp only); exact HS.out _ R.hb) (fun _ => ?_)
      clear hK K h
      try simp only [Act.put, List.setIfInBounds_toArray, List.set_cons_zero, List.set_cons_succ]
      refine wpAnyH_ready (rs := [7]) (by kernel_rfl) (by simp) ?_
      refine AllReadyH.cons (o := { dst := some 44, op := _, type := _, pos := _, after := _, guard := _ }) rfl (fun K hK => ?_) AllReadyH.nil
      go_simp
      ((with_reducible refine (LB.out _ R.hb).mono ?_); rintro e v ⟨rfl, h⟩)
      go_wp2_with fail
      replace R := R.call h
      refine hK.out _ _ (by (try dsimp only); exact HS.out _ R.hb) (fun _ => ?_)
      clear hK K h
      try simp only [Act.put, List.setIfInBounds_toArray, List.set_cons_zero, List.set_cons_succ]
      refine wpAnyH_ready (rs := [9]) (by kernel_rfl) (by simp) ?_
      refine AllReadyH.cons (o := { dst := some 46, op := _, type := _, pos := _, after := _, guard := _ }) rfl (fun K hK => ?_) AllReadyH.nil
      go_simp
      ((with_reducible refine (PB.out _).mono ?_); rintro e v ⟨rfl, h⟩)
      go_wp2_with fail
      replace R := R.call h
      refine hK.out _ _ (by (try dsimp only); exact HS.out _ R.hb) (fun _ => ?_)
      clear hK K h
      try simp only [Act.put, List.setIfInBounds_toArray, List.set_cons_zero, List.set_cons_succ]
      refine wpAnyH_ready (rs := [12]) (by kernel_rfl) (by simp) ?_
      refine AllReadyH.cons (o := { dst := none, op := _, type := _, pos := _, after := _, guard := _ }) rfl (fun K hK => ?_) AllReadyH.nil
      obtain ⟨q0, q1, q2, q3, q4⟩ := box_cells (R.hs _ _ _ rfl)
      go_simp
      replace R := R.st1 (.int .i64 aD) (.int .i64 aU)
      refine hK.out _ _ (by (try dsimp only); exact HS.out _ R.hb) (fun _ => ?_)
      clear hK K q0 q1 q2 q3 q4
      try simp only [Act.put, List.setIfInBounds_toArray, List.set_cons_zero, List.set_cons_succ]
      skip
      refine wpAnyH_ready (rs := [13]) (by kernel_rfl) (by simp) ?_
      refine AllReadyH.cons (o := { dst := none, op := _, type := _, pos := _, after := _, guard := _ }) rfl (fun K hK => ?_) AllReadyH.nil
      obtain ⟨q0, q1, q2, q3, q4⟩ := box_cells (R.ht _ _ _ rfl)
      go_simp
      replace R := R.st2 (.int .i64 bD) (.int .i64 bU)
      refine hK.out _ _ (by (try dsimp only); exact HS.out _ R.hb) (fun _ => ?_)
      clear hK K q0 q1 q2 q3 q4
      try simp only [Act.put, List.setIfInBounds_toArray, List.set_cons_zero, List.set_cons_succ]
      skip
      refine wpAnyH_done (by kernel_rfl) ?_ _
      refine onlyN_normal ?_
      gi_wp2
      gi_meet
      exact ⟨_, _, rfl, rfl, R.hs _ _ _ rfl, R.ht _ _ _ rfl, R.hb⟩
  case done =>
    rintro D' ys W hD hys ⟨hm, hB⟩ hK
    subst hys
    rw [gp_mapall] at hm
    have rw0 := own_below R3.out hB
    obtain ⟨_, _, _, _, cm0, cm1, fm0, fm1, _, _, _, _, zm⟩ := hm.cells
    obtain ⟨r0, r1, f0, f1, rz⟩ := box_cells rw0
    have bs := box_set rw0 (.int .i64 (mxF (mtL l L M den) C)) (.int .i64 (mxF (mtH l L M den) C))
    have O0 := Lib.hid bs.1
    have OB := Lib.hid ((S3.out.trans (hB.mono S3.out.size)).trans bs.2.2.1)
    have HD := Lib.hid hD
    have hK' := ((KeepsOthers.setCell W ⟨w.heap.size + 1, 0, none⟩ (.int .i64 (mxF (mtL l L M den) C))).trans (KeepsOthers.setCell _ ⟨w.heap.size + 1, 1, none⟩ (.int .i64 (mxF (mtH l L M den) C)))).same D' _ hK rfl
    have HK := Lib.hid hK'
    clear bs hD hm hB rw0 hK'
    gi_wp2
    have w0 := box_cells (row_grown O0.out (grownBy_putObj' _ D' (.deferred none)) (fun r e => by cases e; exact ⟨_, HK.out, rfl⟩))
    obtain ⟨v0, v1, _, _, _⟩ := w0
    refine ⟨by simp, .inl ⟨_, _, rfl, run_takeDeferred HK.out, ?_⟩⟩
    exact ⟨.tuple #[.agg #[.int .i64 (mxF (mtL l L M den) C), .int .i64 (mxF (mtH l L M den) C)], .int .i64 0], by simp [results, Tryz.f14, go_sem, v0, v1], rfl, OB.out.trans (belowK_b (w := W0) S8.out.size _ D' _ _ HD.out HK.out rfl rfl)⟩
  case stop =>
    rintro D' c pre W _ _ h _
    exact h.elim
set_option maxHeartbeats 1600000 in
theorem gpMost_no {p q : Option Addr} {er : Int} (den : Int) (hne : ¬ er = 0) (w : World) (RF : ∀ v, Below w.heap.size w v → Calls Tryz.prog 25 #[.pointer p, .pointer q] v fun e w' => e = .returned (.int .i64 er) ∧ Below v.heap.size v w') :
    Calls Tryz.prog 14 #[.pointer p, .pointer q, .int .i64 den] w fun e w' => e = .returned (.tuple #[.agg #[.int .i64 0, .int .i64 0], .int .i64 er]) ∧ Below w.heap.size w w' := by
  have hq : (er == 0) = false := beq_eq_false_iff_ne.2 hne
  have RR := Lib.hid RF
  clear RF
  have hz1 : (w.alloc (.cells #[.int .i64 den] 3)).heap.size = w.heap.size + 1 := by simp
  have hb0 : Below w.heap.size w ((w.alloc (.cells #[.int .i64 den] 3)).alloc (.cells #[.int .i64 0, .int .i64 0] 46)) := ((Below.refl _ _).alloc (Nat.le_refl _) _).alloc (by simp) _
  have rr := box2 (w.alloc (.cells #[.int .i64 den] 3)) 46 (.int .i64 0) (.int .i64 0)
  rw [hz1] at rr
  have B0 := Lib.hid hb0
  have HX := Lib.hid (own_low rr (Nat.le_succ _))
  clear hb0 rr hz1
  refine (callsIn_wide (n := 5)).1 (callsIn_of_wp_marks Tryz.func14 rfl trivial ?_ rfl)
  simp only [Tryz.ntmps14, List.size_toArray, List.length_cons, List.length_nil, Nat.reduceAdd, Nat.reduceSub, Array.replicate_succ, Array.replicate_zero, List.push_toArray, List.append_toArray, List.nil_append, List.cons_append]
  gi_wp2
  generalize (w.alloc (.cells #[.int .i64 den] 3)).alloc (.cells #[.int .i64 0, .int .i64 0] 46) = W1 at *
  refine ⟨trivial, (callsIn_wide.2 (RR.out _ B0.out)).mono ?_⟩
  rintro e w1 ⟨rfl, hb1⟩
  have S1 := B0.out.trans (hb1.mono B0.out.size)
  have X1 := own_below HX.out hb1
  obtain ⟨r0, r1, f0, f1, rz⟩ := box_cells X1
  have bs := box_set X1 (.int .i64 0) (.int .i64 0)
  obtain ⟨v0, v1, _, _, _⟩ := box_cells bs.1
  have OB := Lib.hid (S1.trans bs.2.2.1)
  clear hb1 S1 X1 HX B0 bs
  gi_wp2
  exact ⟨.tuple #[.agg #[.int .i64 0, .int .i64 0], .int .i64 er], by simp [results, Tryz.f14, go_sem, v0, v1], rfl, OB.out⟩
set_option maxHeartbeats 1600000 in
theorem gpMost_arg {p q : Option Addr} (den : Int) (hd : den < 1) (w : World) (RF : ∀ v, Below w.heap.size w v → Calls Tryz.prog 25 #[.pointer p, .pointer q] v fun e w' => e = .returned (.int .i64 0) ∧ Below v.heap.size v w') :
    Calls Tryz.prog 14 #[.pointer p, .pointer q, .int .i64 den] w fun e w' => e = .returned (.tuple #[.agg #[.int .i64 0, .int .i64 0], .int .i64 2]) ∧ Below w.heap.size w w' := by
  have RR := Lib.hid RF
  clear RF
  have hz1 : (w.alloc (.cells #[.int .i64 den] 3)).heap.size = w.heap.size + 1 := by simp
  have hb0 : Below w.heap.size w ((w.alloc (.cells #[.int .i64 den] 3)).alloc (.cells #[.int .i64 0, .int .i64 0] 46)) := ((Below.refl _ _).alloc (Nat.le_refl _) _).alloc (by simp) _
  have dr := (box1 w 3 (.int .i64 den)).alloc (.cells #[.int .i64 0, .int .i64 0] 46)
  have rr := box2 (w.alloc (.cells #[.int .i64 den] 3)) 46 (.int .i64 0) (.int .i64 0)
  rw [hz1] at rr
  have B0 := Lib.hid hb0
  have DX := Lib.hid dr
  have HX := Lib.hid (own_low rr (Nat.le_succ _))
  clear hb0 rr dr hz1
  refine (callsIn_wide (n := 5)).1 (callsIn_of_wp_marks Tryz.func14 rfl trivial ?_ rfl)
  simp only [Tryz.ntmps14, List.size_toArray, List.length_cons, List.length_nil, Nat.reduceAdd, Nat.reduceSub, Array.replicate_succ, Array.replicate_zero, List.push_toArray, List.append_toArray, List.nil_append, List.cons_append]
  gi_wp2
  generalize (w.alloc (.cells #[.int .i64 den] 3)).alloc (.cells #[.int .i64 0, .int .i64 0] 46) = W1 at *
  refine ⟨trivial, (callsIn_wide.2 (RR.out _ B0.out)).mono ?_⟩
  rintro e w1 ⟨rfl, hb1⟩
  have S1 := B0.out.trans (hb1.mono B0.out.size)
  have X1 := own_below HX.out hb1
  have Y1 := own_below DX.out hb1
  have c2 : w1.cell? ⟨w.heap.size, 0, none⟩ = some (.int .i64 den) := Y1.cellAt 0 (by omega)
  have z2 : w.heap.size < w1.heap.size := (Y1.lt _ rfl).2
  obtain ⟨r0, r1, f0, f1, rz⟩ := box_cells X1
  have bs := box_set X1 (.int .i64 0) (.int .i64 0)
  obtain ⟨v0, v1, _, _, _⟩ := box_cells bs.1
  have OB := Lib.hid (S1.trans bs.2.2.1)
  clear hb1 S1 X1 Y1 HX DX B0 bs
  gi_wp2
  exact ⟨.tuple #[.agg #[.int .i64 0, .int .i64 0], .int .i64 2], by simp [results, Tryz.f14, go_sem, v0, v1], rfl, OB.out⟩
theorem gpMost_any {B1 q1 p1 g1 h1 B2 q2 p2 g2 h2 : Nat} {kd1 l1 k1 kd2 l2 k2 : Int} {n1 n2 : Nat} {L M : List Nd} (den : Int) (w : World) (d1 : DgA w B1 q1 p1 g1 h1 kd1 l1 k1 n1 L) (hn1 : n1 ≤ 400) (d2 : DgA w B2 q2 p2 g2 h2 kd2 l2 k2 n2 M) (hn2 : n2 ≤ 400) (e2 : den ≤ 9223372036854775807) :
    Calls Tryz.prog 14 #[.pointer (some ⟨q1, 0, none⟩), .pointer (some ⟨q2, 0, none⟩), .int .i64 den] w fun e w' => e = .returned (.tuple #[.agg #[.int .i64 (mtA l1 l2 L M den), .int .i64 (mtB l1 l2 L M den)], .int .i64 (mtE l1 l2 L M den)]) ∧ Below w.heap.size w w' := by
  have RF := fun v (hb : Below w.heap.size w v) => gpRefused_any v (d1.below hb) hn1 (d2.below hb) hn2
  by_cases hg : gpE l1 l2 L M = 0
  · obtain ⟨rfl, _, _⟩ := gpE_yes hg
    rw [hg] at RF
    by_cases hd : den < 1
    · have e : mtE l1 l1 L M den = 2 := by unfold mtE; rw [if_pos hg, if_pos hd]
      have a : mtA l1 l1 L M den = 0 := by unfold mtA; rw [e]; rfl
      have b : mtB l1 l1 L M den = 0 := by unfold mtB; rw [e]; rfl
      rw [e, a, b]
      exact gpMost_arg den hd w RF
    · have e : mtE l1 l1 L M den = 0 := by unfold mtE; rw [if_pos hg, if_neg hd]
      have a : mtA l1 l1 L M den = mxF (mtL l1 L M den) (gpP l1 L M) := if_pos e
      have b : mtB l1 l1 L M den = mxF (mtH l1 L M den) (gpP l1 L M) := if_pos e
      rw [e, a, b]
      exact callsIn_wide.1 (gpMost_in den w d1 hn1 d2 hn2 hg (by omega) e2)
  · have e : mtE l1 l2 L M den = gpE l1 l2 L M := by unfold mtE; rw [if_neg hg]
    have a : mtA l1 l2 L M den = 0 := by unfold mtA; rw [e, if_neg hg]
    have b : mtB l1 l2 L M den = 0 := by unfold mtB; rw [e, if_neg hg]
    rw [e, a, b]
    exact gpMost_no den hg w RF
theorem gpMo : GpMo := ⟨fun x w => gpMost_no (er := 1) x (by omega) w fun v hb => gpRefused_nn v, fun x w d1 h1 d2 h2 _ b => gpMost_any x w d1 h1 d2 h2 b⟩
end Go.Proofs.YtelekchdbiimiaaGreat
