/- The project's package digest: Clone, Reset, ofAnyKind, Same. -/
import Derived.Test.YtfilmblpikcpnaaGreatDg2
import Derived.Deep.RegionHeld3
import Derived.Laws.StructEq
namespace Go.Proofs.YtfilmblpikcpnaaGreat
set_option linter.unusedVariables false
set_option maxRecDepth 100000
open Go.RowKit

theorem dgClone_nil (w : World) : Calls Tryz.prog 24 #[.pointer none] w fun e w' => e = .returned (.pointer none) ∧ w = w' := by
  go_enter Tryz.func24, Tryz.ntmps24
  go_wp2_with fail
  go_ret
  exact ⟨rfl, rfl⟩
theorem keep_quad {W a b : World} {p q r s : Addr} {x y z u : Value} (h : a.cell? p = some x ∧ a.cell? q = some y ∧ a.cell? r = some z ∧ a.cell? s = some u ∧ Below W.heap.size W a) (hb : Below a.heap.size a b)
    (hp : p.block < W.heap.size) (hq : q.block < W.heap.size) (hr : r.block < W.heap.size) (hs : s.block < W.heap.size) : b.cell? p = some x ∧ b.cell? q = some y ∧ b.cell? r = some z ∧ b.cell? s = some u ∧ Below W.heap.size W b := by
  obtain ⟨h1, h2, h3, h4, h5⟩ := h
  have hz := h5.size
  exact ⟨(hb.cell (by omega)).trans h1, (hb.cell (by omega)).trans h2, (hb.cell (by omega)).trans h3, (hb.cell (by omega)).trans h4, h5.trans (hb.mono hz)⟩
theorem below_quad {W a : World} {p q r s : Addr} {x y z u : Value} (h : a.cell? p = some x ∧ a.cell? q = some y ∧ a.cell? r = some z ∧ a.cell? s = some u ∧ Below W.heap.size W a) : Below W.heap.size W a := h.2.2.2.2
set_option maxHeartbeats 3200000 in
theorem dgClone_any {B q p g h : Nat} {kd l k : Int} {n : Nat} {L : List Nd} (w : World) (d : DgA w B q p g h kd l k n L) (hn : n ≤ 1000) :
    Calls Tryz.prog 24 #[.pointer (some ⟨q, 0, none⟩)] w fun e w' => ∃ q2 p2 g2 h2, e = .returned (.pointer (some ⟨q2, 0, none⟩)) ∧ DgA w' w.heap.size q2 p2 g2 h2 kd l k n L ∧ Below w.heap.size w w' := by
  obtain ⟨c0, c1, c2, c3⟩ := d.cells
  have V := Lib.hid d.v
  have hq : Hid (q < w.heap.size) := (d.top.lt q rfl).2
  have CL := Lib.hid (fun w1 (hb : Below w.heap.size w w1) => (poClone_any w1 (d.po.below hb) hn).mono (R' := fun e w' => ∃ p2 g2 h2, e = .returned (.pointer (some ⟨p2, 0, none⟩)) ∧ PoA w' w.heap.size p2 g2 h2 kd l n L ∧ Below w1.heap.size w1 w' ∧ Below w.heap.size w w') fun e w' ⟨p2, g2, h2, a, b, c⟩ => ⟨p2, g2, h2, a, b.low hb.size, c, hb.trans (c.mono hb.size)⟩)
  clear d
  go_enter Tryz.func24, Tryz.ntmps24
  go_wp2_with fail
  go_region_held3 (fun w' => w'.cell? ⟨q, 0, none⟩ = some (.int .i64 l) ∧ w'.cell? ⟨q, 1, none⟩ = some (.int .i64 k) ∧ w'.cell? ⟨q, 2, none⟩ = some (.int .i64 kd) ∧ w'.cell? ⟨q, 3, none⟩ = some (.pointer (some ⟨p, 0, none⟩)) ∧ Below w.heap.size w w')
    (first | assumption | (exact keep_quad (by assumption) hb2 hq.out hq.out hq.out hq.out) | (exact keep_quad (by assumption) ((Below.refl _ _).alloc (Nat.le_refl _) _) hq.out hq.out hq.out hq.out) | (exact ⟨c0, c1, c2, c3, below_drew _⟩))
    (first
      | (go_at_call 55; refine (CL.out _ (below_quad (p := ⟨q, 0, none⟩) (q := ⟨q, 1, none⟩) (r := ⟨q, 2, none⟩) (s := ⟨q, 3, none⟩) (x := .int .i64 l) (y := .int .i64 k) (z := .int .i64 kd) (u := .pointer (some ⟨p, 0, none⟩)) (by assumption))).mono ?_; rintro e w3 ⟨p2, g2, h2, rfl, hd2, hb2, hb3⟩))
  go_wp2_with fail
  go_ret
  exact ⟨_, p2, g2, h2, rfl, ⟨own_low (quad_new ..) hb3.size, hd2.below ((Below.refl _ _).alloc (Nat.le_refl _) _), V.out⟩, hb3.alloc hb3.size _⟩
theorem dgReset_nil (w : World) : Calls Tryz.prog 34 #[.pointer none] w fun e w' => e = .returned (.tuple #[]) ∧ w = w' := by
  go_enter Tryz.func34, Tryz.ntmps34
  go_wp2_with fail
  (try simp only [Exit.inBlock, Exit.then])
  exact bodyPost_ret (results_none rfl _ _ _) rfl ⟨rfl, rfl⟩
/-- what Reset leaves -/
def DgPost0 (B q p g h : Nat) (kd l k : Int) (n : Nat) (M : List Nd) (w : World) (e : Ending) (w' : World) : Prop :=
  e = .returned (.tuple #[]) ∧ ∃ p' g' h', DgA w' B q p' g' h' kd l k n M ∧ Kp (dgF q p g h) w w' ∧ ∀ i, dgF q p' g' h' i → dgF q p g h i ∨ w.heap.size ≤ i
theorem dg_reset {B q p g h p2 g2 h2 : Nat} {kd l k : Int} {n : Nat} {L : List Nd} {w w1 : World} (d : DgA w B q p g h kd l k n L) (hb : Below w.heap.size w w1) (hd : PoA w1 w.heap.size p2 g2 h2 kd l 0 []) :
    DgPost0 B q p g h kd l k n [] w (.returned (.tuple #[])) (w1.setCell ⟨q, 3, none⟩ (.pointer (some ⟨p2, 0, none⟩))) := by
  have lt := d.lt q (.inl rfl)
  have r := own_below d.top hb
  have s := (World.ownsRow.stored r 3 (.pointer (some ⟨p2, 0, none⟩))).1
  have z := Kp.setCell w1 ⟨q, 3, none⟩ (.pointer (some ⟨p2, 0, none⟩))
  have pl := hd.lt
  have u := d.po.uni
  refine ⟨rfl, p2, g2, h2, ⟨s, ((hd.kp z fun i e f => ?_).low (by have := d.lt q (.inl rfl); omega)).more (Nat.zero_le n), dgV_nil ⟨u.1, u.2⟩ d.v.k1 d.v.k2⟩, (Kp.of (F := dgF q p g h) hb).trans z (fun i _ e => .inl e), fun i f => ?_⟩
  · simp only at e
    rcases f with f | f | f <;> omega
  · rcases f with f | f | f | f
    · exact .inl (.inl f)
    · exact .inr (by omega)
    · exact .inr (by omega)
    · exact .inr (by omega)
set_option maxHeartbeats 3200000 in
theorem dgReset_any {B q p g h : Nat} {kd l k : Int} {n : Nat} {L : List Nd} (w : World) (d : DgA w B q p g h kd l k n L) :
    Calls Tryz.prog 34 #[.pointer (some ⟨q, 0, none⟩)] w (DgPost0 B q p g h kd l k n [] w) := by
  have D := Lib.hid d
  obtain ⟨c0, c1, c2, c3⟩ := d.cells
  have NW := Lib.hid (fun w => poNew_any kd l w d.po.is)
  have XX := Lib.hid (fun w1 (hb : Below w.heap.size w w1) => (d.below hb).cells)
  have YY := Lib.hid (fun w1 (hb : Below w.heap.size w w1) (u : Value) => quad_all (World.ownsRow.stored (own_below d.top hb) 3 u).1)
  have ZZ := Lib.hid (fun w1 (hb : Below w.heap.size w w1) => own_below d.top hb)
  clear d
  go_enter Tryz.func34, Tryz.ntmps34
  go_wp2_with fail
  go_region_held3 (fun w' => w'.cell? ⟨q, 0, none⟩ = some (.int .i64 l) ∧ w'.cell? ⟨q, 2, none⟩ = some (.int .i64 kd))
    (first | (exact ⟨(XX.out _ hb1).1, (XX.out _ hb1).2.2.1⟩) | (exact ⟨(YY.out _ hb1 _).1, (YY.out _ hb1 _).2.2.1⟩) | (exact ⟨c0, c2⟩) | (exact ⟨(XX.out _ (below_drew _)).1, (XX.out _ (below_drew _)).2.2.1⟩))
    (first | (go_at_call 64; refine (NW.out _).mono ?_; rintro e w1 ⟨p2, g2, h2, rfl, hd2, hb1'⟩; have hb1 : Below w.heap.size w w1 := (below_drew w).trans hb1'; obtain ⟨_, _, _, x3, _, _, _, x7, _⟩ := quad_all (ZZ.out _ hb1)))
  go_wp2_with fail
  go_end0
  exact dg_reset D.out hb1 hd2
/-- two confs held against each other -/
theorem conf_eq (a b c : Int) : ∀ w, (binOp .eql 23 (.agg #[.int .i64 a, .int .i64 b, .int .i64 c]) (.agg #[.int .i64 a, .int .i64 b, .int .i64 c])).run Tryz.prog w = .ok (.bool true) w := by
  intro w
  have i3 := fun (a b : Int) (w : World) => run_equalIn_int (P := Tryz.prog) w 9998 3 .i64 .i64 a b Tryz.underlying3
  rw [run_eql_struct, run_equalIn_agg _ _ _ _ _ (by kernel_rfl) (by kernel_rfl)]
  unfold Program.fieldsOf
  rw [Tryz.underlying23]
  have p0 : ∀ (a b c : Value) w, (part 3 #[a, b, c] 0).run Tryz.prog w = .ok a w := fun _ _ _ _ => by kernel_rfl
  have p1 : ∀ (a b c : Value) w, (part 3 #[a, b, c] 1).run Tryz.prog w = .ok b w := fun _ _ _ _ => by kernel_rfl
  have p2 : ∀ (a b c : Value) w, (part 3 #[a, b, c] 2).run Tryz.prog w = .ok c w := fun _ _ _ _ => by kernel_rfl
  simp only [Op.eqFields, Sem.run_bind, Sem.run_ite, p0, p1, p2, Result.andThen_ok, i3]
  simp [Result.andThen]
set_option maxHeartbeats 1600000 in
theorem dgOfAny_any {B q p : Nat} {l k kd : Int} (w : World) (d : DgT4 w B q p l k kd) : Calls Tryz.prog 62 #[.pointer (some ⟨q, 0, none⟩)] w fun e w' => e = .returned (.agg #[.int .i64 l, .int .i64 k, .int .i64 0]) ∧ Below w.heap.size w w' := by
  have HB : Hid (Below w.heap.size w (w.alloc (.cells #[.int .i64 0, .int .i64 0, .int .i64 0] 23))) := (Below.refl _ _).alloc (Nat.le_refl _) _
  have X := Lib.hid (tri_nw w 23 (.int .i64 0) (.int .i64 0) (.int .i64 0))
  have PT := Lib.hid (dgConf_any _ (d.below HB.out))
  clear d
  go_enter Tryz.func62, Tryz.ntmps62
  go_wp2_with fail
  generalize w.alloc (.cells #[.int .i64 0, .int .i64 0, .int .i64 0] 23) = W at *
  refine PT.out.mono ?_
  rintro e w1 ⟨rfl, hb1⟩
  have X1 := Lib.hid (own_below X.out hb1)
  have B1 := Lib.hid (HB.out.trans (hb1.mono HB.out.size))
  obtain ⟨y0, y1, y2, f0, f1, f2, hz2⟩ := tri_all X1.out
  obtain ⟨q0, q1, q2⟩ := set_three X1.out (.int .i64 l) (.int .i64 k) (.int .i64 0)
  have B3 := Lib.hid (B1.out.trans (tri_set X1.out (.int .i64 l) (.int .i64 k) (.int .i64 0)).2.2.1)
  clear hb1
  go_wp2_with fail
  exact bodyPost_ret (v := .agg #[.int .i64 l, .int .i64 k, .int .i64 0]) (by simp [results, Tryz.results62, go_sem, q0, q1, q2, hz2]) rfl ⟨rfl, B3.out.alloc B3.out.size _⟩
theorem dgSame_nil (w : World) : Calls Tryz.prog 32 #[.pointer none, .pointer none] w fun e w' => e = .returned (.bool true) ∧ w = w' := by
  go_enter Tryz.func32, Tryz.ntmps32
  go_wp2_with fail
  go_ret
  exact ⟨rfl, rfl⟩
theorem dgSame_nil1 (q : Nat) (w : World) : Calls Tryz.prog 32 #[.pointer none, .pointer (some ⟨q, 0, none⟩)] w fun e w' => e = .returned (.bool false) ∧ w = w' := by
  have hq : ∀ w, (binOp .eql 25 (.pointer none) (.pointer (some ⟨q, 0, none⟩))).run Tryz.prog w = .ok (.bool false) w := fun _ => by kernel_rfl
  go_enter Tryz.func32, Tryz.ntmps32
  go_wp2_with fail
  go_ret
  exact ⟨rfl, rfl⟩
theorem dgSame_nil2 (q : Nat) (w : World) : Calls Tryz.prog 32 #[.pointer (some ⟨q, 0, none⟩), .pointer none] w fun e w' => e = .returned (.bool false) ∧ w = w' := by
  have hq : ∀ w, (binOp .eql 25 (.pointer (some ⟨q, 0, none⟩)) (.pointer none)).run Tryz.prog w = .ok (.bool false) w := fun _ => by kernel_rfl
  go_enter Tryz.func32, Tryz.ntmps32
  go_wp2_with fail
  go_ret
  exact ⟨rfl, rfl⟩
set_option maxHeartbeats 3200000 in
theorem dgSame_any {B q p g h B2 q2 p2 g2 h2 : Nat} {kd kd2 l k : Int} {n n2 : Nat} {L M : List Nd} (w : World) (d : DgA w B q p g h kd l k n L) (d2 : DgA w B2 q2 p2 g2 h2 kd2 l k n2 M) (hn : n ≤ 1000) (hn2 : n2 ≤ 1000) :
    Calls Tryz.prog 32 #[.pointer (some ⟨q, 0, none⟩), .pointer (some ⟨q2, 0, none⟩)] w fun e w' => e = .returned (.bool (sameB L M)) ∧ Below w.heap.size w w' := by
  have c3 := d.cells.2.2.2
  have d3 := d2.cells.2.2.2
  have hq : Hid (q < w.heap.size) := (d.top.lt q rfl).2
  have hq2 : Hid (q2 < w.heap.size) := (d2.top.lt q2 rfl).2
  have CE := conf_eq l k 0
  have OA := Lib.hid (fun w1 (hb : Below w.heap.size w w1) => dgOfAny_any w1 (d.below hb).box)
  have OB := Lib.hid (fun w1 (hb : Below w.heap.size w w1) => dgOfAny_any w1 (d2.below hb).box)
  have PS := Lib.hid (fun w1 (hb : Below w.heap.size w w1) => poSame_any w1 (d.below hb).po (d2.below hb).po hn hn2)
  clear d d2
  go_enter Tryz.func32, Tryz.ntmps32
  go_wp2_with fail
  go_region_held3 (fun w' => w'.cell? ⟨q, 3, none⟩ = some (.pointer (some ⟨p, 0, none⟩)) ∧ w'.cell? ⟨q2, 3, none⟩ = some (.pointer (some ⟨p2, 0, none⟩)) ∧ Below w.heap.size w w')
    (first | assumption | (exact keep_two (by assumption) (by assumption) hq.out hq2.out) | (exact ⟨c3, d3, below_drew _⟩))
    (first
      | ((with_reducible refine (OA.out _ (below_of (p := ⟨q, 3, none⟩) (q := ⟨q2, 3, none⟩) (x := .pointer (some ⟨p, 0, none⟩)) (y := .pointer (some ⟨p2, 0, none⟩)) (by assumption))).mono ?_); rintro e v1 ⟨rfl, hbv1⟩)
      | ((with_reducible refine (OB.out _ (below_of (p := ⟨q, 3, none⟩) (q := ⟨q2, 3, none⟩) (x := .pointer (some ⟨p, 0, none⟩)) (y := .pointer (some ⟨p2, 0, none⟩)) (by assumption))).mono ?_); rintro e v2 ⟨rfl, hbv2⟩)
      | ((with_reducible refine (PS.out _ (below_of (p := ⟨q, 3, none⟩) (q := ⟨q2, 3, none⟩) (x := .pointer (some ⟨p, 0, none⟩)) (y := .pointer (some ⟨p2, 0, none⟩)) (by assumption))).mono ?_); rintro e v3 ⟨rfl, hbv3⟩))
  rename_i hH
  have hbb := hH.2.2
  go_wp2_with fail
  go_ret
  exact ⟨rfl, hbb⟩

end Go.Proofs.YtfilmblpikcpnaaGreat
