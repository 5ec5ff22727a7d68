/- The project's package bound: Least, Greatest, Spread. -/
import Derived.Test.YtkoefclkpdpdpaaGreatBoP1
namespace Go.Proofs.YtkoefclkpdpdpaaGreat
set_option linter.unusedVariables false
set_option maxRecDepth 100000
open Go.RowKit

/-- what ends keeps: both closures, their boxes, and what was gathered -/
structure BoEn (TB TI : TypeId) (W w : World) (bf bl bx b1 b2 : Nat) (vf vl : Value) (x y m1 m2 : Int) : Prop where
  cf : w.cell? ⟨bf, 0, none⟩ = some vf
  cl : w.cell? ⟨bl, 0, none⟩ = some vl
  rx : w.ownsRow W.heap.size TB 2 (.slice (some ⟨bx, 0, none⟩) 1 1) 1 [.int .i64 x, .int .i64 y]
  r1 : w.ownsRow W.heap.size TI 1 (.slice (some ⟨b1, 0, none⟩) 1 1) 1 [.int .i64 m1]
  r2 : w.ownsRow W.heap.size TI 1 (.slice (some ⟨b2, 0, none⟩) 1 1) 1 [.int .i64 m2]
  zf : bf < w.heap.size
  zl : bl < w.heap.size
  nf : bf ≠ bx ∧ bf ≠ b1 ∧ bf ≠ b2
  nl : bl ≠ bx ∧ bl ≠ b1 ∧ bl ≠ b2
  nn : b1 ≠ b2 ∧ b1 ≠ bx ∧ b2 ≠ bx
  hb : Below W.heap.size W w
section
variable {TB TI : TypeId} {W w : World} {bf bl bx b1 b2 : Nat} {vf vl : Value} {x y m1 m2 : Int}
theorem BoEn.below {w' : World} (h : BoEn TB TI W w bf bl bx b1 b2 vf vl x y m1 m2) (q : Below w.heap.size w w') : BoEn TB TI W w' bf bl bx b1 b2 vf vl x y m1 m2 :=
  ⟨(q.cell h.zf).trans h.cf, (q.cell h.zl).trans h.cl, own_below h.rx q, own_below h.r1 q, own_below h.r2 q, Nat.lt_of_lt_of_le h.zf q.size, Nat.lt_of_lt_of_le h.zl q.size, h.nf, h.nl, h.nn, h.hb.trans (q.mono h.hb.size)⟩
theorem bo_own {a b : Nat} {v : Value} (h : a ≠ b) : ∀ g, (Value.slice (some ⟨a, 0, none⟩) 1 1).ownBlock = some g → ¬ g = b := fun g e q => by
  simp [Value.ownBlock] at e; exact h (e.trans q)
theorem BoEn.set1 (h : BoEn TB TI W w bf bl bx b1 b2 vf vl x y m1 m2) (u : Int) : BoEn TB TI W (w.setCell ⟨b1, 0, none⟩ (.int .i64 u)) bf bl bx b1 b2 vf vl x y u m2 := by
  have k := Kp.setCell w ⟨b1, 0, none⟩ (.int .i64 u)
  have zf := h.zf
  have zl := h.zl
  exact ⟨(k.cell h.zf h.nf.2.1).trans h.cf, (k.cell h.zl h.nl.2.1).trans h.cl, own_kp h.rx k (bo_own (v := .int .i64 0) (Ne.symm h.nn.2.1)), (h.r1.stored 0 _).1, own_kp h.r2 k (bo_own (v := .int .i64 0) (Ne.symm h.nn.1)), by simpa using zf, by simpa using zl, h.nf, h.nl, h.nn, h.hb.setCell (p := ⟨b1, 0, none⟩) (h.r1.lt b1 rfl).1 _⟩
theorem BoEn.set2 (h : BoEn TB TI W w bf bl bx b1 b2 vf vl x y m1 m2) (u : Int) : BoEn TB TI W (w.setCell ⟨b2, 0, none⟩ (.int .i64 u)) bf bl bx b1 b2 vf vl x y m1 u := by
  have k := Kp.setCell w ⟨b2, 0, none⟩ (.int .i64 u)
  have zf := h.zf
  have zl := h.zl
  exact ⟨(k.cell h.zf h.nf.2.2).trans h.cf, (k.cell h.zl h.nl.2.2).trans h.cl, own_kp h.rx k (bo_own (v := .int .i64 0) (Ne.symm h.nn.2.2)), own_kp h.r1 k (bo_own (v := .int .i64 0) h.nn.1), (h.r2.stored 0 _).1, by simpa using zf, by simpa using zl, h.nf, h.nl, h.nn, h.hb.setCell (p := ⟨b2, 0, none⟩) (h.r2.lt b2 rfl).1 _⟩
theorem BoEn.setx (h : BoEn TB TI W w bf bl bx b1 b2 vf vl x y m1 m2) (u v : Int) : BoEn TB TI W ((w.setCell ⟨bx, 0, none⟩ (.int .i64 u)).setCell ⟨bx, 1, none⟩ (.int .i64 v)) bf bl bx b1 b2 vf vl u v m1 m2 := by
  have k : Kp (fun i => i = bx) w ((w.setCell ⟨bx, 0, none⟩ (.int .i64 u)).setCell ⟨bx, 1, none⟩ (.int .i64 v)) := (Kp.setCell w ⟨bx, 0, none⟩ (.int .i64 u)).trans (Kp.setCell _ ⟨bx, 1, none⟩ (.int .i64 v)) fun _ _ q => q
  have zf := h.zf
  have zl := h.zl
  have b := box_set h.rx (.int .i64 u) (.int .i64 v)
  exact ⟨(k.cell h.zf h.nf.1).trans h.cf, (k.cell h.zl h.nl.1).trans h.cl, b.1, own_kp h.r1 k (bo_own (v := .int .i64 0) h.nn.2.1), own_kp h.r2 k (bo_own (v := .int .i64 0) h.nn.2.2), by simpa using zf, by simpa using zl, h.nf, h.nl, h.nn, h.hb.trans b.2.2.1⟩
theorem BoEn.cells (h : BoEn TB TI W w bf bl bx b1 b2 vf vl x y m1 m2) : w.cell? ⟨bf, 0, none⟩ = some vf ∧ w.cell? ⟨bl, 0, none⟩ = some vl ∧ w.cell? ⟨bx, 0, none⟩ = some (.int .i64 x) ∧ w.cell? ⟨bx, 1, none⟩ = some (.int .i64 y) ∧ w.frozen? ⟨bx, 0, none⟩ = false ∧ w.frozen? ⟨bx, 1, none⟩ = false ∧ bx < w.heap.size ∧ bf < w.heap.size ∧ bl < w.heap.size :=
  ⟨h.cf, h.cl, h.rx.cellAt 0 (by omega), h.rx.cellAt 1 (by omega), h.rx.frozenAt 0, h.rx.frozenAt 1, (h.rx.lt bx rfl).2, h.zf, h.zl⟩
theorem BoEn.new {W w W2 w3 : World} {TB TI : TypeId} {b1 b2 : Nat} {m1 m2 : Int} {vf vl : Value} (hb : Below W.heap.size W w) (r1 : w.ownsRow W.heap.size TI 1 (.slice (some ⟨b1, 0, none⟩) 1 1) 1 [.int .i64 m1]) (r2 : w.ownsRow W.heap.size TI 1 (.slice (some ⟨b2, 0, none⟩) 1 1) 1 [.int .i64 m2]) (nn : b1 ≠ b2)
    (h2 : Below w.heap.size w W2) (cf : W2.cell? ⟨w.heap.size, 0, none⟩ = some vf) (cl : W2.cell? ⟨w.heap.size + 1, 0, none⟩ = some vl) (z2 : w.heap.size + 3 ≤ W2.heap.size) (h3 : Below W2.heap.size W2 w3) :
    BoEn TB TI W (w3.alloc (.cells #[.int .i64 0, .int .i64 0] TB)) w.heap.size (w.heap.size + 1) w3.heap.size b1 b2 vf vl 0 0 m1 m2 := by
  have z3 := h3.size
  have h4 : Below w3.heap.size w3 (w3.alloc (.cells #[.int .i64 0, .int .i64 0] TB)) := below_one _ _
  have z4 := h4.size
  have l1 := (r1.lt b1 rfl).2
  have l2 := (r2.lt b2 rfl).2
  have hw : Below w.heap.size w w3 := h2.trans (h3.mono (by omega))
  have bw := hb.size
  refine ⟨(h4.cell (p := ⟨w.heap.size, 0, none⟩) (by show w.heap.size < _; omega)).trans ((h3.cell (p := ⟨w.heap.size, 0, none⟩) (by show w.heap.size < _; omega)).trans cf), (h4.cell (p := ⟨w.heap.size + 1, 0, none⟩) (by show w.heap.size + 1 < _; omega)).trans ((h3.cell (p := ⟨w.heap.size + 1, 0, none⟩) (by show w.heap.size + 1 < _; omega)).trans cl),
    own_low (box2 ..) (by omega), own_below (own_below r1 hw) h4, own_below (own_below r2 hw) h4, by omega, by omega, ⟨by omega, by omega, by omega⟩, ⟨by omega, by omega, by omega⟩, ⟨nn, by omega, by omega⟩, (hb.trans (hw.mono bw)).trans (h4.mono (by omega))⟩
/-- what ends has made ahead of all calls -/
theorem bo_ends (w : World) (TG TB : TypeId) (vf vl : Value) : Below w.heap.size w (((w.alloc (.cells #[vf] TG)).alloc (.cells #[vl] TG)).alloc (.cells #[.int .i64 0, .int .i64 0] TB)) ∧ (((w.alloc (.cells #[vf] TG)).alloc (.cells #[vl] TG)).alloc (.cells #[.int .i64 0, .int .i64 0] TB)).cell? ⟨w.heap.size, 0, none⟩ = some vf
    ∧ (((w.alloc (.cells #[vf] TG)).alloc (.cells #[vl] TG)).alloc (.cells #[.int .i64 0, .int .i64 0] TB)).cell? ⟨w.heap.size + 1, 0, none⟩ = some vl ∧ (((w.alloc (.cells #[vf] TG)).alloc (.cells #[vl] TG)).alloc (.cells #[.int .i64 0, .int .i64 0] TB)).heap.size = w.heap.size + 3
    ∧ (((w.alloc (.cells #[vf] TG)).alloc (.cells #[vl] TG)).alloc (.cells #[.int .i64 0, .int .i64 0] TB)).ownsRow w.heap.size TB 2 (.slice (some ⟨w.heap.size + 2, 0, none⟩) 1 1) 1 [.int .i64 0, .int .i64 0] := by
  have e0 : (w.alloc (.cells #[vf] TG)).heap.size = w.heap.size + 1 := by simp
  have e1 : ((w.alloc (.cells #[vf] TG)).alloc (.cells #[vl] TG)).heap.size = w.heap.size + 2 := by simp
  have cf : ((w.alloc (.cells #[vf] TG)).alloc (.cells #[vl] TG)).cell? ⟨w.heap.size, 0, none⟩ = some vf := (World.cell?_alloc_lt _ _ _ (by simp)).trans (by simp)
  have cl : ((w.alloc (.cells #[vf] TG)).alloc (.cells #[vl] TG)).cell? ⟨w.heap.size + 1, 0, none⟩ = some vl := by rw [← e0]; simp
  have b := box2 ((w.alloc (.cells #[vf] TG)).alloc (.cells #[vl] TG)) TB (.int .i64 0) (.int .i64 0)
  rw [e1] at b
  exact ⟨(((Below.refl _ _).alloc (Nat.le_refl _) _).alloc (by simp) _).alloc (by simp; omega) _, (World.cell?_alloc_lt _ _ _ (by show w.heap.size < _; omega)).trans cf, (World.cell?_alloc_lt _ _ _ (by show w.heap.size + 1 < _; omega)).trans cl, by simp, own_low b (by omega)⟩
end
/-- a closure that gathers: it keeps in its box what it tells -/
structure BoGat (F : Nat) (f : Int → Int → Int) : Prop where
  eg : ∀ args w, (callFunc F args).run Tryz.prog w = .ok (.enter F args) w
  call : ∀ (b : Nat) (m v : Int) (w : World), w.cell? ⟨b, 0, none⟩ = some (.int .i64 m) → w.frozen? ⟨b, 0, none⟩ = false → b < w.heap.size →
    Calls Tryz.prog F #[.int .i64 v, .pointer (some ⟨b, 0, none⟩)] w fun e w' => e = .returned (.int .i64 (f m v)) ∧ w' = w.setCell ⟨b, 0, none⟩ (.int .i64 (f m v))
theorem boLeast1_any (b : Nat) (m v : Int) (w : World) (c : w.cell? ⟨b, 0, none⟩ = some (.int .i64 m)) (fz : w.frozen? ⟨b, 0, none⟩ = false) (hz : b < w.heap.size) :
    Calls Tryz.prog 75 #[.int .i64 v, .pointer (some ⟨b, 0, none⟩)] w fun e w' => e = .returned (.int .i64 (mnV m v)) ∧ w' = w.setCell ⟨b, 0, none⟩ (.int .i64 (mnV m v)) := by
  have H : Hid (mnV m v = min m v) := by show _ = _; unfold mnV; split <;> omega
  rw [H.out]
  go_enter Tryz.func75, Tryz.ntmps75
  go_wp2_with fail
  go_ret
  exact ⟨rfl, rfl⟩
theorem boLeast_any (w : World) : Calls Tryz.prog 37 #[] w fun e w' => e = .returned (.func (.func 75) #[] #[.pointer (some ⟨w.heap.size, 0, none⟩)]) ∧ w' = w.alloc (.cells #[.int .i64 9223372036854775807] 3) := by
  have mf : ∀ (fn : Fn) (first cap : Array Value) (w : World), (Instr.makeFunc fn first cap).run Tryz.prog w = .ok (.func fn first cap) w := fun _ _ _ _ => rfl
  go_enter Tryz.func37, Tryz.ntmps37
  go_wp2_with fail
  go_ret
  exact ⟨rfl, rfl⟩
theorem boGatL : BoGat 75 mnV := ⟨enters_of Tryz.func75 (by kernel_rfl) rfl, fun b m v w => boLeast1_any b m v w⟩
theorem boGreatest1_any (b : Nat) (m v : Int) (w : World) (c : w.cell? ⟨b, 0, none⟩ = some (.int .i64 m)) (fz : w.frozen? ⟨b, 0, none⟩ = false) (hz : b < w.heap.size) :
    Calls Tryz.prog 76 #[.int .i64 v, .pointer (some ⟨b, 0, none⟩)] w fun e w' => e = .returned (.int .i64 (mxV m v)) ∧ w' = w.setCell ⟨b, 0, none⟩ (.int .i64 (mxV m v)) := by
  have H : Hid (mxV m v = max m v) := by show _ = _; unfold mxV; split <;> omega
  rw [H.out]
  go_enter Tryz.func76, Tryz.ntmps76
  go_wp2_with fail
  go_ret
  exact ⟨rfl, rfl⟩
theorem boGreatest_any (w : World) : Calls Tryz.prog 38 #[] w fun e w' => e = .returned (.func (.func 76) #[] #[.pointer (some ⟨w.heap.size, 0, none⟩)]) ∧ w' = w.alloc (.cells #[.int .i64 (-9223372036854775808)] 3) := by
  have mf : ∀ (fn : Fn) (first cap : Array Value) (w : World), (Instr.makeFunc fn first cap).run Tryz.prog w = .ok (.func fn first cap) w := fun _ _ _ _ => rfl
  go_enter Tryz.func38, Tryz.ntmps38
  go_wp2_with fail
  go_ret
  exact ⟨rfl, rfl⟩
theorem boGatG : BoGat 76 mxV := ⟨enters_of Tryz.func76 (by kernel_rfl) rfl, fun b m v w => boGreatest1_any b m v w⟩
abbrev BoEnA (W w : World) (bf bl bx b1 b2 F1 F2 : Nat) (x y m1 m2 : Int) : Prop := BoEn 36 3 W w bf bl bx b1 b2 (.func (.func F1) #[] #[.pointer (some ⟨b1, 0, none⟩)]) (.func (.func F2) #[] #[.pointer (some ⟨b2, 0, none⟩)]) x y m1 m2
set_option maxHeartbeats 3200000 in
theorem boEnds1_any {F1 F2 : Nat} {f g : Int → Int → Int} (G1 : BoGat F1 f) (G2 : BoGat F2 g) (a z c : Int) {W w : World} {bf bl bx b1 b2 : Nat} {x y m1 m2 : Int} (h : BoEnA W w bf bl bx b1 b2 F1 F2 x y m1 m2) :
    Calls Tryz.prog 74 #[.int .i64 a, .int .i64 z, .int .i64 c, .pointer (some ⟨bf, 0, none⟩), .pointer (some ⟨bl, 0, none⟩), .pointer (some ⟨bx, 0, none⟩)] w fun e w' =>
      e = .returned (.tuple #[]) ∧ BoEnA W w' bf bl bx b1 b2 F1 F2 (f m1 a) (g m2 z) (f m1 a) (g m2 z) ∧ Kp (fun i => i = bx ∨ i = b1 ∨ i = b2) w w' := by
  have E1 := Lib.hid (h.below (below_drew w))
  have K1 : Hid (Kp (fun i => i = bx ∨ i = b1 ∨ i = b2) w w.drew) := Kp.of (below_drew w)
  have C1 := Lib.hid (fun v (q : BoEnA W v bf bl bx b1 b2 F1 F2 x y m1 m2) (k : Kp (fun i => i = bx ∨ i = b1 ∨ i = b2) w v) => (G1.call b1 m1 a v (q.r1.cellAt 0 (by omega)) (q.r1.frozenAt 0) (q.r1.lt b1 rfl).2).mono (R' := fun e v' => e = .returned (.int .i64 (f m1 a)) ∧ BoEnA W v' bf bl bx b1 b2 F1 F2 x y (f m1 a) m2 ∧ Kp (fun i => i = bx ∨ i = b1 ∨ i = b2) w v')
    fun e v' ⟨h1, h2⟩ => ⟨h1, h2 ▸ q.set1 (f m1 a), h2 ▸ k.trans (Kp.setCell v ⟨b1, 0, none⟩ (.int .i64 (f m1 a))) fun _ _ q => .inr (.inl q)⟩)
  have C2 := Lib.hid (fun v u (q : BoEnA W v bf bl bx b1 b2 F1 F2 x y u m2) (k : Kp (fun i => i = bx ∨ i = b1 ∨ i = b2) w v) => (G2.call b2 m2 z v (q.r2.cellAt 0 (by omega)) (q.r2.frozenAt 0) (q.r2.lt b2 rfl).2).mono (R' := fun e v' => e = .returned (.int .i64 (g m2 z)) ∧ BoEnA W v' bf bl bx b1 b2 F1 F2 x y u (g m2 z) ∧ Kp (fun i => i = bx ∨ i = b1 ∨ i = b2) w v')
    fun e v' ⟨h1, h2⟩ => ⟨h1, h2 ▸ q.set2 (g m2 z), h2 ▸ k.trans (Kp.setCell v ⟨b2, 0, none⟩ (.int .i64 (g m2 z))) fun _ _ q => .inr (.inr q)⟩)
  have eg1 := G1.eg
  have eg2 := G2.eg
  clear G1 G2
  obtain ⟨cf, cl, _, _, _, _, _, zf, zl⟩ := h.cells
  clear h
  generalize f m1 a = u1 at *
  generalize g m2 z = u2 at *
  go_enter Tryz.func74, Tryz.ntmps74
  go_region_with (first
    | (go_at_fn F1; refine (C1.out _ E1.out K1.out).mono ?_; rintro e v1 ⟨rfl, hE2, hK2⟩; have E2 := Lib.hid hE2; have K2 := Lib.hid hK2; obtain ⟨_, cl2, _, _, _, _, _, _, zl2⟩ := hE2.cells; clear hE2 hK2)
    | (go_at_fn F2; refine (C2.out _ _ E2.out K2.out).mono ?_; rintro e v2 ⟨rfl, hE3, hK3⟩; have E4 := Lib.hid (hE3.setx u1 u2); have K4 := Lib.hid (hK3.trans ((Kp.setCell v2 ⟨bx, 0, none⟩ (.int .i64 u1)).trans (Kp.setCell _ ⟨bx, 1, none⟩ (.int .i64 u2)) fun _ _ q => q) fun _ _ q => .inl q); obtain ⟨_, _, cx0, cx1, fx0, fx1, zx, _, _⟩ := hE3.cells; clear hE3 hK3))
  all_goals (go_wp2_with fail; go_end0; exact ⟨rfl, E4.out, K4.out⟩)
set_option maxHeartbeats 3200000 in
theorem boEnds_any {F1 F2 : Nat} {f g : Int → Int → Int} (G1 : BoGat F1 f) (G2 : BoGat F2 g) {B q p gg h : Nat} {kd l k : Int} {n : Nat} {L : List Nd} (W : World) (d : DgA W B q p gg h kd l k n L) (hn : n ≤ 400) (w : World) (hb : Below W.heap.size W w) {b1 b2 : Nat} {m1 m2 : Int}
    (r1 : w.ownsRow W.heap.size 3 1 (.slice (some ⟨b1, 0, none⟩) 1 1) 1 [.int .i64 m1]) (r2 : w.ownsRow W.heap.size 3 1 (.slice (some ⟨b2, 0, none⟩) 1 1) 1 [.int .i64 m2]) (nn : b1 ≠ b2) :
    Calls Tryz.prog 36 #[.pointer (some ⟨q, 0, none⟩), .func (.func F1) #[] #[.pointer (some ⟨b1, 0, none⟩)], .func (.func F2) #[] #[.pointer (some ⟨b2, 0, none⟩)]] w fun e w' =>
      e = .returned (.tuple #[.agg #[.int .i64 (boV L (gaF f (loN l) m1 L)), .int .i64 (boV L (gaF g (hiN l) m2 L))], .int .i64 (boE L)]) ∧ Kp (fun i => i = b1 ∨ i = b2) w w' := by
  have mf : ∀ (fn : Fn) (first cap : Array Value) (w : World), (Instr.makeFunc fn first cap).run Tryz.prog w = .ok (.func fn first cap) w := fun _ _ _ _ => rfl
  obtain ⟨h2, cf, cl, hz2, hrr⟩ := bo_ends w 90 36 (.func (.func F1) #[] #[.pointer (some ⟨b1, 0, none⟩)]) (.func (.func F2) #[] #[.pointer (some ⟨b2, 0, none⟩)])
  have B2 := Lib.hid (hb.trans (h2.mono hb.size))
  have H2 := Lib.hid h2
  have RR := Lib.hid hrr
  by_cases hs : sumC L = 0
  · obtain ⟨e1, e2⟩ := bo_no hs
    rw [e1, e2, e2]
    have RF := Lib.hid (fun v (hv : Below W.heap.size W v) => boRefused_any v (d.below hv) hn)
    rw [e1] at RF
    clear d r1 r2 nn G1 G2 e1 e2 hs hb h2 cf cl hz2 hrr
    go_enter Tryz.func36, Tryz.ntmps36
    go_wp2_with fail
    generalize ((w.alloc (.cells #[.func (.func F1) #[] #[.pointer (some ⟨b1, 0, none⟩)]] 90)).alloc (.cells #[.func (.func F2) #[] #[.pointer (some ⟨b2, 0, none⟩)]] 90)).alloc (.cells #[.int .i64 0, .int .i64 0] 36) = W2 at *
    refine (RF.out _ B2.out).mono ?_
    rintro e w3 ⟨rfl, hb3⟩
    have R3 := Lib.hid (own_below RR.out hb3)
    obtain ⟨c0, c1, f0, f1, hz⟩ := box_cells R3.out
    obtain ⟨t0, t1, tb⟩ := bo_res R3.out (.int .i64 0) (.int .i64 0)
    have BE : Hid (Kp (fun i => i = b1 ∨ i = b2) w _) := Kp.of ((H2.out.trans (hb3.mono H2.out.size)).trans tb)
    clear hb3 tb
    go_wp2_with fail
    exact bodyPost_ret (v := .tuple #[.agg #[.int .i64 0, .int .i64 0], .int .i64 7]) (by simp [results, Tryz.results36, go_sem, t0, t1]) rfl ⟨rfl, BE.out⟩
  · obtain ⟨e1, e2⟩ := bo_yes hs
    rw [e1, e2, e2]
    have RF := Lib.hid (fun v (hv : Below W.heap.size W v) => boRefused_any v (d.below hv) hn)
    rw [e1] at RF
    have hL : Hid (0 < L.length) := List.length_pos_iff.2 (sumC_ne hs)
    have l1 := (r1.lt b1 rfl).2
    have l2 := (r2.lt b2 rfl).2
    have EA := Lib.hid (fun w3 (h3 : Below _ _ w3) => boEach_any (F := 74) (caps := #[.pointer (some ⟨w.heap.size, 0, none⟩), .pointer (some ⟨w.heap.size + 1, 0, none⟩), .pointer (some ⟨w3.heap.size, 0, none⟩)])
      (I := fun j v => Kp (fun i => i = b1 ∨ i = b2) w v ∧ v.ownsRow w.heap.size 36 2 (.slice (some ⟨w.heap.size + 2, 0, none⟩) 1 1) 1 [.int .i64 0, .int .i64 0] ∧ ∃ x y, BoEnA W v w.heap.size (w.heap.size + 1) w3.heap.size b1 b2 F1 F2 x y (gaF f (loN l) m1 (L.take j)) (gaF g (hiN l) m2 (L.take j)) ∧ (0 < j → x = gaF f (loN l) m1 (L.take j) ∧ y = gaF g (hiN l) m2 (L.take j)))
      (w3.alloc (.cells #[.int .i64 0, .int .i64 0] 36)) (d.below (BoEn.new (TB := 36) hb r1 r2 nn h2 cf cl (by omega) h3).hb) (by omega)
      ⟨enters_of Tryz.func74 (by kernel_rfl) rfl, fun j v v' ⟨kk, r, x, y, a, b⟩ hv => ⟨kk.trans (Kp.of (F := fun i => i = b1 ∨ i = b2) hv) fun _ _ q => q, own_below r hv, x, y, a.below hv, b⟩, fun j hj v ⟨kk, r, x, y, a, b⟩ => by
        refine (boEnds1_any G1 G2 (loN l (L.getD j nz).1) (hiN l (L.getD j nz).1) (L.getD j nz).2 a).mono ?_
        rintro e v' ⟨rfl, h1, hk⟩
        have z3 := h3.size
        rw [← gaF_take f (loN l) m1 hj, ← gaF_take g (hiN l) m2 hj] at h1
        have z2 := h2.size
        refine ⟨rfl, ⟨kk.trans hk fun i hi q => ?_, own_kp r hk fun g e q => ?_, _, _, h1, fun _ => ⟨rfl, rfl⟩⟩, EachKp.kp hk fun i q => ?_⟩
        · rcases q with q | q | q
          · omega
          · exact .inl q
          · exact .inr q
        · have e : w.heap.size + 2 = g := by simpa [Value.ownBlock] using e
          rcases q with q | q | q <;> omega
        · have z4 : (w3.alloc (.cells #[.int .i64 0, .int .i64 0] 36)).heap.size = w3.heap.size + 1 := by simp
          rcases q with q | q | q <;> omega⟩
      ⟨Kp.of (h2.trans ((h3.trans ((below_one _ _).mono h3.size)).mono h2.size)), own_below (own_below hrr h3) (below_one _ _), 0, 0, BoEn.new hb r1 r2 nn h2 cf cl (by omega) h3, fun h => absurd h (Nat.lt_irrefl _)⟩)
    rw [List.take_length] at EA
    generalize gaF f (loN l) m1 L = x at *
    generalize gaF g (hiN l) m2 L = y at *
    clear d r1 r2 nn G1 G2 e1 e2 hs hb h2 cf cl hz2 hrr l1 l2
    go_enter Tryz.func36, Tryz.ntmps36
    go_wp2_with fail
    generalize ((w.alloc (.cells #[.func (.func F1) #[] #[.pointer (some ⟨b1, 0, none⟩)]] 90)).alloc (.cells #[.func (.func F2) #[] #[.pointer (some ⟨b2, 0, none⟩)]] 90)).alloc (.cells #[.int .i64 0, .int .i64 0] 36) = W2 at *
    refine (RF.out _ B2.out).mono ?_
    rintro e w3 ⟨rfl, hb3⟩
    have E3 := Lib.hid (EA.out w3 hb3)
    clear hb3 EA
    go_wp2_with fail
    refine E3.out.mono ?_
    rintro e w4 ⟨rfl, hkk, hr, x', y', hE, hxy⟩
    obtain ⟨rfl, rfl⟩ := hxy hL.out
    have R4 := Lib.hid hr
    obtain ⟨_, _, cx0, cx1, fx0, fx1, zx, _, _⟩ := hE.cells
    have B4 := Lib.hid hkk
    clear hr hE hxy E3 hkk
    obtain ⟨c0, c1, f0, f1, hz⟩ := box_cells R4.out
    obtain ⟨t0, t1, tb⟩ := bo_res R4.out (.int .i64 x') (.int .i64 y')
    have BE := Lib.hid (B4.out.trans ((Kp.setCell w4 ⟨w.heap.size + 2, 0, none⟩ (.int .i64 x')).trans (Kp.setCell _ ⟨w.heap.size + 2, 1, none⟩ (.int .i64 y')) fun _ _ q => q) fun i hi q => by have q : i = w.heap.size + 2 := q; omega)
    clear tb
    go_wp2_with fail
    exact bodyPost_ret (v := .tuple #[.agg #[.int .i64 x', .int .i64 y'], .int .i64 0]) (by simp [results, Tryz.results36, go_sem, t0, t1]) rfl ⟨rfl, BE.out⟩
theorem boEnds_nil (F1 F2 : Nat) (c1 c2 : Array Value) (w : World) : Calls Tryz.prog 36 #[.pointer none, .func (.func F1) #[] c1, .func (.func F2) #[] c2] w fun e w' => e = .returned (.tuple #[.agg #[.int .i64 0, .int .i64 0], .int .i64 1]) ∧ Below w.heap.size w w' := by
  obtain ⟨h2, _, _, _, hrr⟩ := bo_ends w 90 36 (.func (.func F1) #[] c1) (.func (.func F2) #[] c2)
  have H2 := Lib.hid h2
  have RR := Lib.hid hrr
  clear h2 hrr
  go_enter Tryz.func36, Tryz.ntmps36
  go_wp2_with fail
  generalize ((w.alloc (.cells #[.func (.func F1) #[] c1] 90)).alloc (.cells #[.func (.func F2) #[] c2] 90)).alloc (.cells #[.int .i64 0, .int .i64 0] 36) = W2 at *
  refine (boRefused_nil _).mono ?_
  rintro e w3 ⟨rfl, hb3⟩
  have R3 := Lib.hid (own_below RR.out hb3)
  obtain ⟨c0, c1, f0, f1, hz⟩ := box_cells R3.out
  obtain ⟨t0, t1, tb⟩ := bo_res R3.out (.int .i64 0) (.int .i64 0)
  have BE := Lib.hid ((H2.out.trans (hb3.mono H2.out.size)).trans tb)
  clear hb3 tb
  go_wp2_with fail
  exact bodyPost_ret (v := .tuple #[.agg #[.int .i64 0, .int .i64 0], .int .i64 1]) (by simp [results, Tryz.results36, go_sem, t0, t1]) rfl ⟨rfl, BE.out⟩
/-- what Least and Greatest have made ahead of ends -/
theorem bo_three (w : World) (TB TI : TypeId) (m : Int) : Below w.heap.size w (((w.alloc (.cells #[.int .i64 0, .int .i64 0] TB)).alloc (.cells #[.int .i64 m] TI)).alloc (.cells #[.int .i64 m] TI))
    ∧ (((w.alloc (.cells #[.int .i64 0, .int .i64 0] TB)).alloc (.cells #[.int .i64 m] TI)).alloc (.cells #[.int .i64 m] TI)).ownsRow w.heap.size TB 2 (.slice (some ⟨w.heap.size, 0, none⟩) 1 1) 1 [.int .i64 0, .int .i64 0]
    ∧ (((w.alloc (.cells #[.int .i64 0, .int .i64 0] TB)).alloc (.cells #[.int .i64 m] TI)).alloc (.cells #[.int .i64 m] TI)).ownsRow w.heap.size TI 1 (.slice (some ⟨w.heap.size + 1, 0, none⟩) 1 1) 1 [.int .i64 m]
    ∧ (((w.alloc (.cells #[.int .i64 0, .int .i64 0] TB)).alloc (.cells #[.int .i64 m] TI)).alloc (.cells #[.int .i64 m] TI)).ownsRow w.heap.size TI 1 (.slice (some ⟨w.heap.size + 2, 0, none⟩) 1 1) 1 [.int .i64 m] := by
  have e0 : (w.alloc (.cells #[.int .i64 0, .int .i64 0] TB)).heap.size = w.heap.size + 1 := by simp
  have e1 : ((w.alloc (.cells #[.int .i64 0, .int .i64 0] TB)).alloc (.cells #[.int .i64 m] TI)).heap.size = w.heap.size + 2 := by simp
  have b1 := box1 (w.alloc (.cells #[.int .i64 0, .int .i64 0] TB)) TI (.int .i64 m)
  have b2 := box1 ((w.alloc (.cells #[.int .i64 0, .int .i64 0] TB)).alloc (.cells #[.int .i64 m] TI)) TI (.int .i64 m)
  rw [e0] at b1
  rw [e1] at b2
  exact ⟨(((Below.refl _ _).alloc (Nat.le_refl _) _).alloc (by simp) _).alloc (by simp; omega) _, ((box2 w TB _ _).alloc _).alloc _, own_low (b1.alloc _) (by omega), own_low b2 (by omega)⟩
theorem bo_gat_mn {l : Int} {L : List Nd} (h : RollC l L) : boV L (gaF mnV (loN l) 9223372036854775807 L) = boV L (boMn (loN l) L) ∧ boV L (gaF mnV (hiN l) 9223372036854775807 L) = boV L (boMn (hiN l) L) := by
  have rv := roll_val h
  by_cases hs : sumC L = 0
  · rw [(bo_no hs).2, (bo_no hs).2, (bo_no hs).2, (bo_no hs).2]; exact ⟨rfl, rfl⟩
  · rw [gaF_mn (loN l) (fun n hn => (rv.1 n hn).2) (sumC_ne hs), gaF_mn (hiN l) (fun n hn => (rv.2 n hn).2) (sumC_ne hs)]; exact ⟨rfl, rfl⟩
theorem bo_gat_mx {l : Int} {L : List Nd} (h : RollC l L) : boV L (gaF mxV (loN l) (-9223372036854775808) L) = boV L (boMx (loN l) L) ∧ boV L (gaF mxV (hiN l) (-9223372036854775808) L) = boV L (boMx (hiN l) L) := by
  have rv := roll_val h
  by_cases hs : sumC L = 0
  · rw [(bo_no hs).2, (bo_no hs).2, (bo_no hs).2, (bo_no hs).2]; exact ⟨rfl, rfl⟩
  · rw [gaF_mx (loN l) (fun n hn => (rv.1 n hn).1) (sumC_ne hs), gaF_mx (hiN l) (fun n hn => (rv.2 n hn).1) (sumC_ne hs)]; exact ⟨rfl, rfl⟩
set_option maxHeartbeats 1600000 in
theorem boLeast_nil (w : World) : Calls Tryz.prog 10 #[.pointer none] w fun e w' => e = .returned (.tuple #[.agg #[.int .i64 0, .int .i64 0], .int .i64 1]) ∧ Below w.heap.size w w' := by
  obtain ⟨h3, rr, _, _⟩ := bo_three w 36 3 (9223372036854775807)
  have H3 := Lib.hid h3
  have RR := Lib.hid rr
  clear h3 rr
  go_enter Tryz.func10, Tryz.ntmps10
  go_wp2_with (go_at_call 37; refine (boLeast_any _).mono ?_; rintro e u ⟨rfl, rfl⟩)
  generalize ((w.alloc (.cells #[.int .i64 0, .int .i64 0] 36)).alloc (.cells #[.int .i64 (9223372036854775807)] 3)).alloc (.cells #[.int .i64 (9223372036854775807)] 3) = W3 at *
  refine (boEnds_nil _ _ _ _ _).mono ?_
  rintro e w4 ⟨rfl, hb4⟩
  have R4 := Lib.hid (own_below RR.out hb4)
  obtain ⟨c0, c1, f0, f1, hz⟩ := box_cells R4.out
  obtain ⟨t0, t1, tb⟩ := bo_res R4.out (.int .i64 0) (.int .i64 0)
  have BE := Lib.hid ((H3.out.trans (hb4.mono H3.out.size)).trans tb)
  clear hb4 tb
  go_wp2_with fail
  exact bodyPost_ret (v := .tuple #[.agg #[.int .i64 0, .int .i64 0], .int .i64 1]) (by simp [results, Tryz.results10, go_sem, t0, t1]) rfl ⟨rfl, BE.out⟩
set_option maxHeartbeats 1600000 in
theorem boLeastD_any {B q p g h : Nat} {kd l k : Int} {n : Nat} {L : List Nd} (w : World) (d : DgA w B q p g h kd l k n L) (hn : n ≤ 400) :
    Calls Tryz.prog 10 #[.pointer (some ⟨q, 0, none⟩)] w fun e w' => e = .returned (.tuple #[.agg #[.int .i64 (boV L (boMn (loN l) L)), .int .i64 (boV L (boMn (hiN l) L))], .int .i64 (boE L)]) ∧ Below w.heap.size w w' := by
  obtain ⟨h3, rr, r1, r2⟩ := bo_three w 36 3 (9223372036854775807)
  have EN := Lib.hid (boEnds_any boGatL boGatL w d hn _ h3 r1 r2 (by omega))
  have V := bo_gat_mn d.v.roll
  rw [V.1, V.2] at EN
  have H3 := Lib.hid h3
  have RR := Lib.hid rr
  clear h3 rr r1 r2 V d
  generalize boV L (boMn (loN l) L) = x at *
  generalize boV L (boMn (hiN l) L) = y at *
  generalize boE L = er at *
  go_enter Tryz.func10, Tryz.ntmps10
  go_wp2_with (go_at_call 37; refine (boLeast_any _).mono ?_; rintro e u ⟨rfl, rfl⟩)
  generalize ((w.alloc (.cells #[.int .i64 0, .int .i64 0] 36)).alloc (.cells #[.int .i64 (9223372036854775807)] 3)).alloc (.cells #[.int .i64 (9223372036854775807)] 3) = W3 at *
  refine EN.out.mono ?_
  rintro e w4 ⟨rfl, hk4⟩
  have R4 := Lib.hid (own_kp RR.out hk4 fun g e q => by have e : w.heap.size = g := (by simpa [Value.ownBlock] using e); rcases q with q | q <;> omega)
  obtain ⟨c0, c1, f0, f1, hz⟩ := box_cells R4.out
  obtain ⟨t0, t1, tb⟩ := bo_res R4.out (.int .i64 x) (.int .i64 y)
  have BE := Lib.hid ((H3.out.trans (hk4.below (fun i _ q => by rcases q with q | q <;> omega) H3.out.size)).trans tb)
  clear hk4 tb EN
  go_wp2_with fail
  exact bodyPost_ret (v := .tuple #[.agg #[.int .i64 x, .int .i64 y], .int .i64 er]) (by simp [results, Tryz.results10, go_sem, t0, t1]) rfl ⟨rfl, BE.out⟩
set_option maxHeartbeats 1600000 in
theorem boGreatest_nil (w : World) : Calls Tryz.prog 11 #[.pointer none] w fun e w' => e = .returned (.tuple #[.agg #[.int .i64 0, .int .i64 0], .int .i64 1]) ∧ Below w.heap.size w w' := by
  obtain ⟨h3, rr, _, _⟩ := bo_three w 36 3 (-9223372036854775808)
  have H3 := Lib.hid h3
  have RR := Lib.hid rr
  clear h3 rr
  go_enter Tryz.func11, Tryz.ntmps11
  go_wp2_with (go_at_call 38; refine (boGreatest_any _).mono ?_; rintro e u ⟨rfl, rfl⟩)
  generalize ((w.alloc (.cells #[.int .i64 0, .int .i64 0] 36)).alloc (.cells #[.int .i64 (-9223372036854775808)] 3)).alloc (.cells #[.int .i64 (-9223372036854775808)] 3) = W3 at *
  refine (boEnds_nil _ _ _ _ _).mono ?_
  rintro e w4 ⟨rfl, hb4⟩
  have R4 := Lib.hid (own_below RR.out hb4)
  obtain ⟨c0, c1, f0, f1, hz⟩ := box_cells R4.out
  obtain ⟨t0, t1, tb⟩ := bo_res R4.out (.int .i64 0) (.int .i64 0)
  have BE := Lib.hid ((H3.out.trans (hb4.mono H3.out.size)).trans tb)
  clear hb4 tb
  go_wp2_with fail
  exact bodyPost_ret (v := .tuple #[.agg #[.int .i64 0, .int .i64 0], .int .i64 1]) (by simp [results, Tryz.results11, go_sem, t0, t1]) rfl ⟨rfl, BE.out⟩
set_option maxHeartbeats 1600000 in
theorem boGreatestD_any {B q p g h : Nat} {kd l k : Int} {n : Nat} {L : List Nd} (w : World) (d : DgA w B q p g h kd l k n L) (hn : n ≤ 400) :
    Calls Tryz.prog 11 #[.pointer (some ⟨q, 0, none⟩)] w fun e w' => e = .returned (.tuple #[.agg #[.int .i64 (boV L (boMx (loN l) L)), .int .i64 (boV L (boMx (hiN l) L))], .int .i64 (boE L)]) ∧ Below w.heap.size w w' := by
  obtain ⟨h3, rr, r1, r2⟩ := bo_three w 36 3 (-9223372036854775808)
  have EN := Lib.hid (boEnds_any boGatG boGatG w d hn _ h3 r1 r2 (by omega))
  have V := bo_gat_mx d.v.roll
  rw [V.1, V.2] at EN
  have H3 := Lib.hid h3
  have RR := Lib.hid rr
  clear h3 rr r1 r2 V d
  generalize boV L (boMx (loN l) L) = x at *
  generalize boV L (boMx (hiN l) L) = y at *
  generalize boE L = er at *
  go_enter Tryz.func11, Tryz.ntmps11
  go_wp2_with (go_at_call 38; refine (boGreatest_any _).mono ?_; rintro e u ⟨rfl, rfl⟩)
  generalize ((w.alloc (.cells #[.int .i64 0, .int .i64 0] 36)).alloc (.cells #[.int .i64 (-9223372036854775808)] 3)).alloc (.cells #[.int .i64 (-9223372036854775808)] 3) = W3 at *
  refine EN.out.mono ?_
  rintro e w4 ⟨rfl, hk4⟩
  have R4 := Lib.hid (own_kp RR.out hk4 fun g e q => by have e : w.heap.size = g := (by simpa [Value.ownBlock] using e); rcases q with q | q <;> omega)
  obtain ⟨c0, c1, f0, f1, hz⟩ := box_cells R4.out
  obtain ⟨t0, t1, tb⟩ := bo_res R4.out (.int .i64 x) (.int .i64 y)
  have BE := Lib.hid ((H3.out.trans (hk4.below (fun i _ q => by rcases q with q | q <;> omega) H3.out.size)).trans tb)
  clear hk4 tb EN
  go_wp2_with fail
  exact bodyPost_ret (v := .tuple #[.agg #[.int .i64 x, .int .i64 y], .int .i64 er]) (by simp [results, Tryz.results11, go_sem, t0, t1]) rfl ⟨rfl, BE.out⟩
theorem boSpread_nil (w : World) : Calls Tryz.prog 12 #[.pointer none] w fun e w' => e = .returned (.tuple #[.agg #[.int .i64 0, .int .i64 0], .int .i64 1]) ∧ Below w.heap.size w w' := by
  have X0 := Lib.hid (box2 w 36 (.int .i64 0) (.int .i64 0))
  have B0 : Hid (Below w.heap.size w (w.alloc (.cells #[.int .i64 0, .int .i64 0] 36))) := below_one _ _
  go_enter Tryz.func12, Tryz.ntmps12
  go_wp2_with fail
  generalize w.alloc (.cells #[.int .i64 0, .int .i64 0] 36) = W at *
  refine (boLeast_nil _).mono ?_
  rintro e w1 ⟨rfl, hb1⟩
  have H1 := hb1.alloc hb1.size (.cells #[.int .i64 0, .int .i64 0] 36)
  have R4 := Lib.hid (own_below X0.out H1)
  obtain ⟨c0, c1, f0, f1, hz⟩ := box_cells R4.out
  obtain ⟨t0, t1, tb⟩ := bo_res R4.out (.int .i64 0) (.int .i64 0)
  have BE := Lib.hid ((B0.out.trans (H1.mono B0.out.size)).trans tb)
  clear hb1 tb H1
  go_wp2_with fail
  exact bodyPost_ret (v := .tuple #[.agg #[.int .i64 0, .int .i64 0], .int .i64 1]) (by simp [results, Tryz.results12, go_sem, t0, t1]) rfl ⟨rfl, BE.out⟩
set_option maxHeartbeats 3200000 in
theorem boSpread_any {B q p g h : Nat} {kd l k : Int} {n : Nat} {L : List Nd} (w : World) (d : DgA w B q p g h kd l k n L) (hn : n ≤ 400) :
    Calls Tryz.prog 12 #[.pointer (some ⟨q, 0, none⟩)] w fun e w' => e = .returned (.tuple #[.agg #[.int .i64 (boV L (spL l L)), .int .i64 (boV L (spH l L))], .int .i64 (boE L)]) ∧ Below w.heap.size w w' := by
  have X0 := Lib.hid (box2 w 36 (.int .i64 0) (.int .i64 0))
  have B0 : Hid (Below w.heap.size w (w.alloc (.cells #[.int .i64 0, .int .i64 0] 36))) := below_one _ _
  have LE := Lib.hid (fun v (hb : Below w.heap.size w v) => boLeastD_any v (d.below hb) hn)
  have GR := Lib.hid (fun v (hb : Below w.heap.size w v) => boGreatestD_any v (d.below hb) hn)
  have rv := roll_val d.v.roll
  by_cases hs : sumC L = 0
  · obtain ⟨e1, e2⟩ := bo_no hs
    rw [e1, e2, e2] at LE
    rw [e1, e2, e2]
    clear GR d e1 e2 hs
    go_enter Tryz.func12, Tryz.ntmps12
    go_wp2_with fail
    generalize w.alloc (.cells #[.int .i64 0, .int .i64 0] 36) = W at *
    refine (LE.out _ B0.out).mono ?_
    rintro e w1 ⟨rfl, hb1⟩
    have H1 := hb1.alloc hb1.size (.cells #[.int .i64 0, .int .i64 0] 36)
    have R4 := Lib.hid (own_below X0.out H1)
    obtain ⟨c0, c1, f0, f1, hz⟩ := box_cells R4.out
    obtain ⟨t0, t1, tb⟩ := bo_res R4.out (.int .i64 0) (.int .i64 0)
    have BE := Lib.hid ((B0.out.trans (H1.mono B0.out.size)).trans tb)
    clear hb1 tb H1
    go_wp2_with fail
    exact bodyPost_ret (v := .tuple #[.agg #[.int .i64 0, .int .i64 0], .int .i64 7]) (by simp [results, Tryz.results12, go_sem, t0, t1]) rfl ⟨rfl, BE.out⟩
  · obtain ⟨e1, e2⟩ := bo_yes hs
    rw [e1, e2, e2] at LE GR
    rw [e1, e2, e2]
    have a0 := boMn_bd (loN l) fun n hn => (rv.1 n hn).1
    have a1 := boMn_bd (hiN l) fun n hn => (rv.2 n hn).1
    have a2 := boMx_bd (loN l) fun n hn => (rv.1 n hn).2
    have a3 := boMx_bd (hiN l) fun n hn => (rv.2 n hn).2
    have SH : Hid (spH l L = boMx (hiN l) L - boMn (loN l) L) := rfl
    have SL : Hid (spL l L = if boMx (loN l) L - boMn (hiN l) L < 0 then 0 else boMx (loN l) L - boMn (hiN l) L) := rfl
    rw [SH.out, SL.out]
    clear d e1 e2 hs SH SL rv
    generalize boMn (loN l) L = x at *
    generalize boMn (hiN l) L = y at *
    generalize boMx (loN l) L = u at *
    generalize boMx (hiN l) L = v at *
    rw [show (if u - y < 0 then 0 else u - y) = max 0 (u - y) by split <;> omega]
    have w1 : IntKind.i64.wrap (u - y) = u - y := wrap_lit rfl (by omega) (by omega)
    have w2 : IntKind.i64.wrap (v - x) = v - x := wrap_lit rfl (by omega) (by omega)
    go_enter Tryz.func12, Tryz.ntmps12
    go_wp2_with fail
    generalize w.alloc (.cells #[.int .i64 0, .int .i64 0] 36) = W at *
    refine (LE.out _ B0.out).mono ?_
    rintro e w1 ⟨rfl, hb1⟩
    have H1 := hb1.alloc hb1.size (.cells #[.int .i64 x, .int .i64 y] 36)
    have R1 := Lib.hid (own_below X0.out H1)
    have F1 := Lib.hid (box2 w1 36 (.int .i64 x) (.int .i64 y))
    have B1 := Lib.hid (B0.out.trans (H1.mono B0.out.size))
    clear hb1 H1
    go_wp2_with fail
    generalize w1.alloc (.cells #[.int .i64 x, .int .i64 y] 36) = W1 at *
    refine (GR.out _ B1.out).mono ?_
    rintro e w2 ⟨rfl, hb2⟩
    have H2 := hb2.alloc hb2.size (.cells #[.int .i64 u, .int .i64 v] 36)
    have R2 := Lib.hid (own_below R1.out H2)
    have F2 := Lib.hid (own_below F1.out H2)
    have T2 := Lib.hid (box2 w2 36 (.int .i64 u) (.int .i64 v))
    have B2 := Lib.hid (B1.out.trans (H2.mono B1.out.size))
    clear hb2 H2
    obtain ⟨c0, c1, f0, f1, hz⟩ := box_cells R2.out
    obtain ⟨p0, p1, _, _, pz⟩ := box_cells F2.out
    obtain ⟨q0, q1, _, _, qz⟩ := box_cells T2.out
    obtain ⟨t0, t1, tb⟩ := bo_res R2.out (.int .i64 (max 0 (u - y))) (.int .i64 (v - x))
    have BE := Lib.hid (B2.out.trans (tb.mono (Nat.le_refl _)))
    clear tb
    go_wp2_with fail
    exact bodyPost_ret (v := .tuple #[.agg #[.int .i64 (max 0 (u - y)), .int .i64 (v - x)], .int .i64 0]) (by simp [results, Tryz.results12, go_sem, t0, t1]) rfl ⟨rfl, BE.out⟩

end Go.Proofs.YtkoefclkpdpdpaaGreat
