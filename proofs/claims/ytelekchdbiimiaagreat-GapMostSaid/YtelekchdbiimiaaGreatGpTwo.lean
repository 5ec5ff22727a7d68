/- What the statements of layer gap call: two digests, and the document's. -/
import Derived.Test.YtelekchdbiimiaaGreatGpLaw
import Derived.BigQuiet
import Derived.BigRegion
import Derived.Deep.RegionHeld3
namespace Go.Proofs.YtelekchdbiimiaaGreat
set_option linter.unusedVariables false
set_option maxRecDepth 100000
open Go.RowKit
/-- six cells of two boxes, read behind their stores -/
theorem gp_six {TD : TypeId} {W w : World} {B gv gw : Nat} {x y z x' y' z' : Value} (r : W.ownsRow B TD 3 (.slice (some ⟨gv, 0, none⟩) 1 1) 1 [x, y, z]) (s : W.ownsRow B TD 3 (.slice (some ⟨gw, 0, none⟩) 1 1) 1 [x', y', z']) (n : gv ≠ gw) (hB : w.heap.size ≤ B) (hb : Below w.heap.size w W) (a b c d e f : Value) :
    ((((((W.setCell ⟨gv, 0, none⟩ a).setCell ⟨gv, 1, none⟩ b).setCell ⟨gv, 2, none⟩ c).setCell ⟨gw, 0, none⟩ d).setCell ⟨gw, 1, none⟩ e).setCell ⟨gw, 2, none⟩ f).ownsRow B TD 3 (.slice (some ⟨gv, 0, none⟩) 1 1) 1 [a, b, c] ∧
    ((((((W.setCell ⟨gv, 0, none⟩ a).setCell ⟨gv, 1, none⟩ b).setCell ⟨gv, 2, none⟩ c).setCell ⟨gw, 0, none⟩ d).setCell ⟨gw, 1, none⟩ e).setCell ⟨gw, 2, none⟩ f).ownsRow B TD 3 (.slice (some ⟨gw, 0, none⟩) 1 1) 1 [d, e, f] ∧
    Below w.heap.size w ((((((W.setCell ⟨gv, 0, none⟩ a).setCell ⟨gv, 1, none⟩ b).setCell ⟨gv, 2, none⟩ c).setCell ⟨gw, 0, none⟩ d).setCell ⟨gw, 1, none⟩ e).setCell ⟨gw, 2, none⟩ f) := by
  have hv := (r.lt gv rfl).1
  have hw := (s.lt gw rfl).1
  have t := (tri_set r a b c).1
  have ks : ∀ {v : World} (i : Nat) (u : Value) {l : List Value}, v.ownsRow B TD 3 (.slice (some ⟨gw, 0, none⟩) 1 1) 1 l → (v.setCell ⟨gv, i, none⟩ u).ownsRow B TD 3 (.slice (some ⟨gw, 0, none⟩) 1 1) 1 l := fun i u _ h => own_kp h (Kp.setCell _ ⟨gv, i, none⟩ u) fun g e q => by simp [Value.ownBlock] at e; exact n (q.symm.trans e.symm)
  have kv : ∀ {v : World} (i : Nat) (u : Value) {l : List Value}, v.ownsRow B TD 3 (.slice (some ⟨gv, 0, none⟩) 1 1) 1 l → (v.setCell ⟨gw, i, none⟩ u).ownsRow B TD 3 (.slice (some ⟨gv, 0, none⟩) 1 1) 1 l := fun i u _ h => own_kp h (Kp.setCell _ ⟨gw, i, none⟩ u) fun g e q => by simp [Value.ownBlock] at e; exact n (e.trans q)
  refine ⟨kv 2 f (kv 1 e (kv 0 d t)), (tri_set (ks 2 c (ks 1 b (ks 0 a s))) d e f).1, ?_⟩
  exact ((((((hb.setCell (p := ⟨gv, 0, none⟩) (Nat.le_trans hB hv) a).setCell (p := ⟨gv, 1, none⟩) (Nat.le_trans hB hv) b).setCell (p := ⟨gv, 2, none⟩) (Nat.le_trans hB hv) c).setCell (p := ⟨gw, 0, none⟩) (Nat.le_trans hB hw) d).setCell (p := ⟨gw, 1, none⟩) (Nat.le_trans hB hw) e).setCell (p := ⟨gw, 2, none⟩) (Nat.le_trans hB hw) f)
/-- the boxes of two's arguments and results -/
structure GpB (w v : World) (l1 k1 kd1 : Int) (A1 : Option Addr) (n1 c1 : Nat) (l2 k2 kd2 : Int) (A2 : Option Addr) (n2 c2 : Nat) (a b c d e f : Value) : Prop where
  bx : v.ownsRow w.heap.size 26 4 (.slice (some ⟨w.heap.size, 0, none⟩) 1 1) 1 [.int .i64 l1, .int .i64 k1, .int .i64 kd1, .slice A1 n1 c1]
  bu : v.ownsRow w.heap.size 26 4 (.slice (some ⟨w.heap.size + 1, 0, none⟩) 1 1) 1 [.int .i64 l2, .int .i64 k2, .int .i64 kd2, .slice A2 n2 c2]
  bv : v.ownsRow w.heap.size 31 3 (.slice (some ⟨w.heap.size + 1 + 1, 0, none⟩) 1 1) 1 [a, b, c]
  bw : v.ownsRow w.heap.size 31 3 (.slice (some ⟨w.heap.size + 1 + 1 + 1, 0, none⟩) 1 1) 1 [d, e, f]
  hb : Below w.heap.size w v
theorem GpB.new (w : World) (l1 k1 kd1 : Int) (A1 : Option Addr) (n1 c1 : Nat) (l2 k2 kd2 : Int) (A2 : Option Addr) (n2 c2 : Nat) :
    GpB w ((((w.alloc (.cells #[.int .i64 l1, .int .i64 k1, .int .i64 kd1, .slice A1 n1 c1] 26)).alloc (.cells #[.int .i64 l2, .int .i64 k2, .int .i64 kd2, .slice A2 n2 c2] 26)).alloc (.cells #[.int .i64 0, .int .i64 0, .slice none 0 0] 31)).alloc (.cells #[.int .i64 0, .int .i64 0, .slice none 0 0] 31))
      l1 k1 kd1 A1 n1 c1 l2 k2 kd2 A2 n2 c2 (.int .i64 0) (.int .i64 0) (.slice none 0 0) (.int .i64 0) (.int .i64 0) (.slice none 0 0) := by
  have e1 : (w.alloc (.cells #[.int .i64 l1, .int .i64 k1, .int .i64 kd1, .slice A1 n1 c1] 26)).heap.size = w.heap.size + 1 := by simp
  have e2 : ((w.alloc (.cells #[.int .i64 l1, .int .i64 k1, .int .i64 kd1, .slice A1 n1 c1] 26)).alloc (.cells #[.int .i64 l2, .int .i64 k2, .int .i64 kd2, .slice A2 n2 c2] 26)).heap.size = w.heap.size + 1 + 1 := by simp
  have e3 : (((w.alloc (.cells #[.int .i64 l1, .int .i64 k1, .int .i64 kd1, .slice A1 n1 c1] 26)).alloc (.cells #[.int .i64 l2, .int .i64 k2, .int .i64 kd2, .slice A2 n2 c2] 26)).alloc (.cells #[.int .i64 0, .int .i64 0, .slice none 0 0] 31)).heap.size = w.heap.size + 1 + 1 + 1 := by simp
  have a := ((quad_new w 26 (.int .i64 l1) (.int .i64 k1) (.int .i64 kd1) (.slice A1 n1 c1)).alloc (.cells #[.int .i64 l2, .int .i64 k2, .int .i64 kd2, .slice A2 n2 c2] 26)).alloc (.cells #[.int .i64 0, .int .i64 0, .slice none 0 0] 31)
  have b := quad_new (w.alloc (.cells #[.int .i64 l1, .int .i64 k1, .int .i64 kd1, .slice A1 n1 c1] 26)) 26 (.int .i64 l2) (.int .i64 k2) (.int .i64 kd2) (.slice A2 n2 c2)
  have c := tri_nw ((w.alloc (.cells #[.int .i64 l1, .int .i64 k1, .int .i64 kd1, .slice A1 n1 c1] 26)).alloc (.cells #[.int .i64 l2, .int .i64 k2, .int .i64 kd2, .slice A2 n2 c2] 26)) 31 (.int .i64 0) (.int .i64 0) (.slice none 0 0)
  have d := tri_nw (((w.alloc (.cells #[.int .i64 l1, .int .i64 k1, .int .i64 kd1, .slice A1 n1 c1] 26)).alloc (.cells #[.int .i64 l2, .int .i64 k2, .int .i64 kd2, .slice A2 n2 c2] 26)).alloc (.cells #[.int .i64 0, .int .i64 0, .slice none 0 0] 31)) 31 (.int .i64 0) (.int .i64 0) (.slice none 0 0)
  rw [e1] at b
  rw [e2] at c
  rw [e3] at d
  exact ⟨a.alloc _, own_low ((b.alloc _).alloc _) (by omega), own_low (c.alloc _) (by omega), own_low d (by omega), ((((Below.refl w.heap.size w).alloc (Nat.le_refl _) _).alloc (by simp) _).alloc (by simp; omega) _).alloc (by simp; omega) _⟩
theorem GpB.below {w v v' : World} {l1 k1 kd1 : Int} {A1 : Option Addr} {n1 c1 : Nat} {l2 k2 kd2 : Int} {A2 : Option Addr} {n2 c2 : Nat} {a b c d e f : Value} (h : GpB w v l1 k1 kd1 A1 n1 c1 l2 k2 kd2 A2 n2 c2 a b c d e f) (q : Below v.heap.size v v') : GpB w v' l1 k1 kd1 A1 n1 c1 l2 k2 kd2 A2 n2 c2 a b c d e f :=
  ⟨own_below h.bx q, own_below h.bu q, own_below h.bv q, own_below h.bw q, h.hb.trans (q.mono h.hb.size)⟩
theorem gp_kp3 {T : TypeId} {v : World} {B s g q : Nat} {xs : List Value} {a b c : Value} (h : v.ownsRow B T s (.slice (some ⟨g, 0, none⟩) 1 1) 1 xs) (n : g ≠ q) : (((v.setCell ⟨q, 0, none⟩ a).setCell ⟨q, 1, none⟩ b).setCell ⟨q, 2, none⟩ c).ownsRow B T s (.slice (some ⟨g, 0, none⟩) 1 1) 1 xs :=
  own_kp (own_kp (own_kp h (Kp.setCell _ ⟨q, 0, none⟩ a) fun i e f => by simp [Value.ownBlock] at e; exact n (e.trans f)) (Kp.setCell _ ⟨q, 1, none⟩ b) fun i e f => by simp [Value.ownBlock] at e; exact n (e.trans f)) (Kp.setCell _ ⟨q, 2, none⟩ c) fun i e f => by simp [Value.ownBlock] at e; exact n (e.trans f)
theorem GpB.setV {w v : World} {l1 k1 kd1 : Int} {A1 : Option Addr} {n1 c1 : Nat} {l2 k2 kd2 : Int} {A2 : Option Addr} {n2 c2 : Nat} {a b c d e f : Value} (h : GpB w v l1 k1 kd1 A1 n1 c1 l2 k2 kd2 A2 n2 c2 a b c d e f) (a' b' c' : Value) : GpB w (((v.setCell ⟨w.heap.size + 1 + 1, 0, none⟩ a').setCell ⟨w.heap.size + 1 + 1, 1, none⟩ b').setCell ⟨w.heap.size + 1 + 1, 2, none⟩ c') l1 k1 kd1 A1 n1 c1 l2 k2 kd2 A2 n2 c2 a' b' c' d e f :=
  ⟨gp_kp3 h.bx (by omega), gp_kp3 h.bu (by omega), (tri_set h.bv a' b' c').1, gp_kp3 h.bw (by omega), ((h.hb.setCell (p := ⟨w.heap.size + 1 + 1, 0, none⟩) (by show w.heap.size ≤ w.heap.size + 1 + 1; omega) a').setCell (p := ⟨w.heap.size + 1 + 1, 1, none⟩) (by show w.heap.size ≤ w.heap.size + 1 + 1; omega) b').setCell (p := ⟨w.heap.size + 1 + 1, 2, none⟩) (by show w.heap.size ≤ w.heap.size + 1 + 1; omega) c'⟩
theorem GpB.setW {w v : World} {l1 k1 kd1 : Int} {A1 : Option Addr} {n1 c1 : Nat} {l2 k2 kd2 : Int} {A2 : Option Addr} {n2 c2 : Nat} {a b c d e f : Value} (h : GpB w v l1 k1 kd1 A1 n1 c1 l2 k2 kd2 A2 n2 c2 a b c d e f) (a' b' c' : Value) : GpB w (((v.setCell ⟨w.heap.size + 1 + 1 + 1, 0, none⟩ a').setCell ⟨w.heap.size + 1 + 1 + 1, 1, none⟩ b').setCell ⟨w.heap.size + 1 + 1 + 1, 2, none⟩ c') l1 k1 kd1 A1 n1 c1 l2 k2 kd2 A2 n2 c2 a b c a' b' c' :=
  ⟨gp_kp3 h.bx (by omega), gp_kp3 h.bu (by omega), gp_kp3 h.bv (by omega), (tri_set h.bw a' b' c').1, ((h.hb.setCell (p := ⟨w.heap.size + 1 + 1 + 1, 0, none⟩) (by show w.heap.size ≤ w.heap.size + 1 + 1 + 1; omega) a').setCell (p := ⟨w.heap.size + 1 + 1 + 1, 1, none⟩) (by show w.heap.size ≤ w.heap.size + 1 + 1 + 1; omega) b').setCell (p := ⟨w.heap.size + 1 + 1 + 1, 2, none⟩) (by show w.heap.size ≤ w.heap.size + 1 + 1 + 1; omega) c'⟩
theorem GpB.six {w v : World} {l1 k1 kd1 : Int} {A1 : Option Addr} {n1 c1 : Nat} {l2 k2 kd2 : Int} {A2 : Option Addr} {n2 c2 : Nat} {a b c d e f : Value} (h : GpB w v l1 k1 kd1 A1 n1 c1 l2 k2 kd2 A2 n2 c2 a b c d e f) :
    v.cell? ⟨w.heap.size + 1 + 1, 0, none⟩ = some a ∧ v.cell? ⟨w.heap.size + 1 + 1, 1, none⟩ = some b ∧ v.cell? ⟨w.heap.size + 1 + 1, 2, none⟩ = some c ∧ v.cell? ⟨w.heap.size + 1 + 1 + 1, 0, none⟩ = some d ∧ v.cell? ⟨w.heap.size + 1 + 1 + 1, 1, none⟩ = some e ∧ v.cell? ⟨w.heap.size + 1 + 1 + 1, 2, none⟩ = some f := by
  obtain ⟨v0, v1, v2, _, _, _, _⟩ := tri_all h.bv
  obtain ⟨u0, u1, u2, _, _, _, _⟩ := tri_all h.bw
  exact ⟨v0, v1, v2, u0, u1, u2⟩
set_option maxHeartbeats 6400000 in
theorem gpTwo_big {l1 k1 kd1 : Int} {A1 : Option Addr} {n1 c1 : Nat} {l2 k2 kd2 : Int} {A2 : Option Addr} {n2 c2 : Nat} (w : World) (h : 60 < n1) :
    Calls Tryz.prog 8 #[.agg #[.int .i64 l1, .int .i64 k1, .int .i64 kd1, .slice A1 n1 c1], .agg #[.int .i64 l2, .int .i64 k2, .int .i64 kd2, .slice A2 n2 c2]] w fun e w' => (∃ pa pb a b A n c a' b' A' n' c', e = .returned (.tuple #[.pointer pa, .pointer pb, .agg #[.int .i64 a, .int .i64 b, .slice A n c], .agg #[.int .i64 a', .int .i64 b', .slice A' n' c'], .bool false])) ∧ Below w.heap.size w w' := by
  have N0 := Lib.hid (GpB.new w l1 k1 kd1 A1 n1 c1 l2 k2 kd2 A2 n2 c2)
  have g0 : decide (60 < (n1 : Int)) = true := decide_eq_true (by omega)
  clear h
  go_enter Tryz.func8, Tryz.ntmps8
  go_upto_region 1 with fail
  generalize ((((w.alloc (.cells #[.int .i64 l1, .int .i64 k1, .int .i64 kd1, .slice A1 n1 c1] 26)).alloc (.cells #[.int .i64 l2, .int .i64 k2, .int .i64 kd2, .slice A2 n2 c2] 26)).alloc (.cells #[.int .i64 0, .int .i64 0, .slice none 0 0] 31)).alloc (.cells #[.int .i64 0, .int .i64 0, .slice none 0 0] 31)) = W at *
  obtain ⟨x0, x1, x2, x3, _, _, _, _, hz⟩ := quad_all N0.out.bx
  go_upto_region 2 with fail
  clear x0 x1 x2 x3 hz
  obtain ⟨v0, v1, v2, fv0, fv1, fv2, hv⟩ := tri_all N0.out.bv
  obtain ⟨u0, u1, u2, fu0, fu1, fu2, hu⟩ := tri_all N0.out.bw
  go_region
  obtain ⟨s1, s2, s3⟩ := gp_six N0.out.bv N0.out.bw (by omega) (Nat.le_refl _) N0.out.hb (.int .i64 0) (.int .i64 0) (.slice none 0 0) (.int .i64 0) (.int .i64 0) (.slice none 0 0)
  have S1 := Lib.hid (own_below s1 (below_drew _))
  have S2 := Lib.hid (own_below s2 (below_drew _))
  have S3 := Lib.hid (s3.trans ((below_drew _).mono s3.size))
  clear s1 s2 s3 v0 v1 v2 fv0 fv1 fv2 hv u0 u1 u2 fu0 fu1 fu2 hu
  generalize World.drew _ = Z at *
  obtain ⟨v0, v1, v2, _, _, _, _⟩ := tri_all S1.out
  obtain ⟨u0, u1, u2, _, _, _, _⟩ := tri_all S2.out
  go_wp2_with fail
  exact bodyPost_ret (v := .tuple #[.pointer none, .pointer none, .agg #[.int .i64 0, .int .i64 0, .slice none 0 0], .agg #[.int .i64 0, .int .i64 0, .slice none 0 0], .bool false]) (by simp [results, Tryz.results8, go_sem, v0, v1, v2, u0, u1, u2]) rfl ⟨⟨_, _, _, _, _, _, _, _, _, _, _, _, rfl⟩, S3.out⟩
set_option maxHeartbeats 6400000 in
theorem gpTwo_big2 {l1 k1 kd1 : Int} {A1 : Option Addr} {n1 c1 : Nat} {l2 k2 kd2 : Int} {A2 : Option Addr} {n2 c2 : Nat} (w : World) (h1 : ¬ 60 < n1) (h : 60 < n2) :
    Calls Tryz.prog 8 #[.agg #[.int .i64 l1, .int .i64 k1, .int .i64 kd1, .slice A1 n1 c1], .agg #[.int .i64 l2, .int .i64 k2, .int .i64 kd2, .slice A2 n2 c2]] w fun e w' => (∃ pa pb a b A n c a' b' A' n' c', e = .returned (.tuple #[.pointer pa, .pointer pb, .agg #[.int .i64 a, .int .i64 b, .slice A n c], .agg #[.int .i64 a', .int .i64 b', .slice A' n' c'], .bool false])) ∧ Below w.heap.size w w' := by
  have N0 := Lib.hid (GpB.new w l1 k1 kd1 A1 n1 c1 l2 k2 kd2 A2 n2 c2)
  have g0 : decide (60 < (n1 : Int)) = false := decide_eq_false (by omega)
  have g1 : decide (60 < (n2 : Int)) = true := decide_eq_true (by omega)
  clear h h1
  go_enter Tryz.func8, Tryz.ntmps8
  go_upto_region 1 with fail
  generalize ((((w.alloc (.cells #[.int .i64 l1, .int .i64 k1, .int .i64 kd1, .slice A1 n1 c1] 26)).alloc (.cells #[.int .i64 l2, .int .i64 k2, .int .i64 kd2, .slice A2 n2 c2] 26)).alloc (.cells #[.int .i64 0, .int .i64 0, .slice none 0 0] 31)).alloc (.cells #[.int .i64 0, .int .i64 0, .slice none 0 0] 31)) = W at *
  obtain ⟨x0, x1, x2, x3, _, _, _, _, hz⟩ := quad_all N0.out.bx
  obtain ⟨y0, y1, y2, y3, _, _, _, _, hy⟩ := quad_all N0.out.bu
  go_upto_region 2 with fail
  clear x0 x1 x2 x3 hz y0 y1 y2 y3 hy
  obtain ⟨v0, v1, v2, fv0, fv1, fv2, hv⟩ := tri_all N0.out.bv
  obtain ⟨u0, u1, u2, fu0, fu1, fu2, hu⟩ := tri_all N0.out.bw
  go_region
  obtain ⟨s1, s2, s3⟩ := gp_six N0.out.bv N0.out.bw (by omega) (Nat.le_refl _) N0.out.hb (.int .i64 0) (.int .i64 0) (.slice none 0 0) (.int .i64 0) (.int .i64 0) (.slice none 0 0)
  have S1 := Lib.hid (own_below s1 (below_drew _))
  have S2 := Lib.hid (own_below s2 (below_drew _))
  have S3 := Lib.hid (s3.trans ((below_drew _).mono s3.size))
  clear s1 s2 s3 v0 v1 v2 fv0 fv1 fv2 hv u0 u1 u2 fu0 fu1 fu2 hu
  generalize World.drew _ = Z at *
  obtain ⟨v0, v1, v2, _, _, _, _⟩ := tri_all S1.out
  obtain ⟨u0, u1, u2, _, _, _, _⟩ := tri_all S2.out
  go_wp2_with fail
  exact bodyPost_ret (v := .tuple #[.pointer none, .pointer none, .agg #[.int .i64 0, .int .i64 0, .slice none 0 0], .agg #[.int .i64 0, .int .i64 0, .slice none 0 0], .bool false]) (by simp [results, Tryz.results8, go_sem, v0, v1, v2, u0, u1, u2]) rfl ⟨⟨_, _, _, _, _, _, _, _, _, _, _, _, rfl⟩, S3.out⟩
theorem DgA.kp3 {v : World} {B q p g h : Nat} {kd l k : Int} {n : Nat} {L : List Nd} (d : DgA v B q p g h kd l k n L) {g0 : Nat} (hg : g0 < B) (x y z : Value) : DgA (((v.setCell ⟨g0, 0, none⟩ x).setCell ⟨g0, 1, none⟩ y).setCell ⟨g0, 2, none⟩ z) B q p g h kd l k n L := by
  have ne : ∀ i, i = g0 → ¬ dgF q p g h i := fun i q f => by have := (d.lt i f).1; omega
  exact ((d.kp (Kp.setCell _ ⟨g0, 0, none⟩ x) ne).kp (Kp.setCell _ ⟨g0, 1, none⟩ y) ne).kp (Kp.setCell _ ⟨g0, 2, none⟩ z) ne
/-- how Load went -/
def GpS (kd l k : Int) (A : Option Addr) (n c : Nat) (L : List Nd) (B : Nat) (b : Bool) (pv : Option Addr) (va vb : Int) (AA : Option Addr) (an ac : Nat) (v : World) : Prop :=
  (b = true → ∃ q p g h, pv = some ⟨q, 0, none⟩ ∧ DgA v B q p g h kd l k 150 L ∧ va = k ∧ vb = l ∧ AA = A ∧ an = n ∧ ac = c) ∧ (b = false → pv = none)
section
variable {kd l k : Int} {A : Option Addr} {n c : Nat} {L : List Nd} {B : Nat} {b : Bool} {pv : Option Addr} {va vb : Int} {AA : Option Addr} {an ac : Nat} {v v' : World}
theorem GpS.below (h : GpS kd l k A n c L B b pv va vb AA an ac v) (q : Below v.heap.size v v') : GpS kd l k A n c L B b pv va vb AA an ac v' :=
  ⟨fun e => by obtain ⟨q', p, g, h', e1, d, r⟩ := h.1 e; exact ⟨q', p, g, h', e1, d.below q, r⟩, h.2⟩
theorem GpS.kp3 (h : GpS kd l k A n c L B b pv va vb AA an ac v) {g0 : Nat} (hg : g0 < B) (x y z : Value) : GpS kd l k A n c L B b pv va vb AA an ac (((v.setCell ⟨g0, 0, none⟩ x).setCell ⟨g0, 1, none⟩ y).setCell ⟨g0, 2, none⟩ z) :=
  ⟨fun e => by
    obtain ⟨q', p, g, h', e1, d, r⟩ := h.1 e
    have ne : ∀ i, i = g0 → ¬ dgF q' p g h' i := fun i q f => by have := (d.lt i f).1; omega
    exact ⟨q', p, g, h', e1, ((d.kp (Kp.setCell _ ⟨g0, 0, none⟩ x) ne).kp (Kp.setCell _ ⟨g0, 1, none⟩ y) ne).kp (Kp.setCell _ ⟨g0, 2, none⟩ z) ne, r⟩, h.2⟩
theorem GpS.low {B2 : Nat} (h : GpS kd l k A n c L B b pv va vb AA an ac v) (hB : B2 ≤ B) : GpS kd l k A n c L B2 b pv va vb AA an ac v :=
  ⟨fun e => by obtain ⟨q', p, g, h', e1, d, r⟩ := h.1 e; exact ⟨q', p, g, h', e1, d.low hB, r⟩, h.2⟩
end
theorem gpLoad_any (l k kd : Int) (A : Option Addr) (n c : Nat) (L : List Nd) (w : World) (hv : NodesAt w (.slice A n c) L) (NB : NBds L) (L0 : -9223372036854775808 ≤ l) (L1 : l ≤ 9223372036854775807) :
    Calls Tryz.prog 23 #[.agg #[.int .i64 l, .int .i64 k, .int .i64 kd, .slice A n c]] w fun e w' => ∃ pv va vb AA an ac, e = .returned (.tuple #[.pointer pv, .agg #[.int .i64 va, .int .i64 vb, .slice AA an ac]]) ∧ GpS kd l k A n c L w.heap.size (rnkLdB kd l k n L) pv va vb AA an ac w' ∧ Below w.heap.size w w' := by
  cases h : rnkLdB kd l k n L
  · refine (rnkLoad_no l k kd A n c L w hv NB L0 L1 h).mono ?_
    rintro e w' ⟨rfl, hb⟩
    exact ⟨none, 0, 0, none, 0, 0, rfl, ⟨(fun q => Bool.noConfusion q), (fun _ => rfl)⟩, hb⟩
  · refine (rnkLoad_yes l k kd A n c L w hv NB L0 L1 h).mono ?_
    rintro e w' ⟨q, p, g, h', rfl, hd, hb⟩
    exact ⟨_, _, _, _, _, _, rfl, ⟨(fun _ => ⟨q, p, g, h', rfl, hd, rfl, rfl, rfl, rfl, rfl⟩), (fun q => Bool.noConfusion q)⟩, hb⟩
/-- what two tells -/
def GpTold (kd1 l1 k1 : Int) (A1 : Option Addr) (n1 c1 : Nat) (L : List Nd) (kd2 l2 k2 : Int) (A2 : Option Addr) (n2 c2 : Nat) (M : List Nd) (w : World) (e : Ending) (w' : World) : Prop :=
  (∃ q1 p1 g1 h1 q2 p2 g2 h2, e = .returned (.tuple #[.pointer (some ⟨q1, 0, none⟩), .pointer (some ⟨q2, 0, none⟩), .agg #[.int .i64 k1, .int .i64 l1, .slice A1 n1 c1], .agg #[.int .i64 k2, .int .i64 l2, .slice A2 n2 c2], .bool true]) ∧ DgA w' w.heap.size q1 p1 g1 h1 kd1 l1 k1 150 L ∧ DgA w' w.heap.size q2 p2 g2 h2 kd2 l2 k2 150 M) ∧ Below w.heap.size w w'
set_option maxHeartbeats 12800000 in
theorem gpTwo_small {l1 k1 kd1 : Int} {A1 : Option Addr} {n1 c1 : Nat} {L : List Nd} {l2 k2 kd2 : Int} {A2 : Option Addr} {n2 c2 : Nat} {M : List Nd} (w : World) (h1 : ¬ 60 < n1) (h2 : ¬ 60 < n2) (hv1 : NodesAt w (.slice A1 n1 c1) L) (NB1 : NBds L) (hv2 : NodesAt w (.slice A2 n2 c2) M) (NB2 : NBds M)
    (L0 : -9223372036854775808 ≤ l1) (L1 : l1 ≤ 9223372036854775807) (M0 : -9223372036854775808 ≤ l2) (M1 : l2 ≤ 9223372036854775807) :
    Calls Tryz.prog 8 #[.agg #[.int .i64 l1, .int .i64 k1, .int .i64 kd1, .slice A1 n1 c1], .agg #[.int .i64 l2, .int .i64 k2, .int .i64 kd2, .slice A2 n2 c2]] w fun e w' => ((∃ pa pb a b A n c a' b' A' n' c', e = .returned (.tuple #[.pointer pa, .pointer pb, .agg #[.int .i64 a, .int .i64 b, .slice A n c], .agg #[.int .i64 a', .int .i64 b', .slice A' n' c'], .bool false])) ∧ Below w.heap.size w w') ∨ GpTold kd1 l1 k1 A1 n1 c1 L kd2 l2 k2 A2 n2 c2 M w e w' := by
  have N0 := Lib.hid (GpB.new w l1 k1 kd1 A1 n1 c1 l2 k2 kd2 A2 n2 c2)
  have g0 : decide (60 < (n1 : Int)) = false := decide_eq_false (by omega)
  have g1 : decide (60 < (n2 : Int)) = false := decide_eq_false (by omega)
  have LX := Lib.hid (fun v (hb : Below w.heap.size w v) => gpLoad_any l1 k1 kd1 A1 n1 c1 L v (hv1.below hb) NB1 L0 L1)
  have LY := Lib.hid (fun v (hb : Below w.heap.size w v) => gpLoad_any l2 k2 kd2 A2 n2 c2 M v (hv2.below hb) NB2 M0 M1)
  clear h1 h2 hv1 hv2
  generalize rnkLdB kd1 l1 k1 n1 L = b1 at *
  generalize rnkLdB kd2 l2 k2 n2 M = b2 at *
  go_enter Tryz.func8, Tryz.ntmps8
  go_upto_region 1 with fail
  generalize ((((w.alloc (.cells #[.int .i64 l1, .int .i64 k1, .int .i64 kd1, .slice A1 n1 c1] 26)).alloc (.cells #[.int .i64 l2, .int .i64 k2, .int .i64 kd2, .slice A2 n2 c2] 26)).alloc (.cells #[.int .i64 0, .int .i64 0, .slice none 0 0] 31)).alloc (.cells #[.int .i64 0, .int .i64 0, .slice none 0 0] 31)) = W at *
  obtain ⟨x0, x1, x2, x3, _, _, _, _, hz⟩ := quad_all N0.out.bx
  obtain ⟨y0, y1, y2, y3, _, _, _, _, hy⟩ := quad_all N0.out.bu
  go_upto_region 3 with fail
  go_wp2_with fail
  have ZW : Hid (w.heap.size + 1 + 1 + 1 < W.heap.size) := (N0.out.bw.lt _ rfl).2
  refine (LX.out _ N0.out.hb).mono ?_
  rintro e v1 ⟨pv, va, vb, AA, an, ac, rfl, hs1, hb1⟩
  have N1 := Lib.hid (N0.out.below hb1)
  have GS1 := Lib.hid hs1
  have Z1 : Hid (W.heap.size ≤ v1.heap.size) := hb1.size
  clear x0 x1 x2 x3 hz y0 y1 y2 y3 hy N0 hs1 hb1
  obtain ⟨v0, v1', v2, fv0, fv1, fv2, hv⟩ := tri_all N1.out.bv
  go_upto_region 4 with fail
  have N2 := Lib.hid (N1.out.setV (.int .i64 va) (.int .i64 vb) (.slice AA an ac))
  have GS2 := Lib.hid (GS1.out.kp3 (g0 := w.heap.size + 1 + 1) (by have := ZW.out; omega) (.int .i64 va) (.int .i64 vb) (.slice AA an ac))
  have Z2 : Hid (W.heap.size ≤ (((v1.setCell ⟨w.heap.size + 1 + 1, 0, none⟩ (.int .i64 va)).setCell ⟨w.heap.size + 1 + 1, 1, none⟩ (.int .i64 vb)).setCell ⟨w.heap.size + 1 + 1, 2, none⟩ (.slice AA an ac)).heap.size) := by show _ ≤ _; have := Z1.out; simpa using this
  clear v0 v1' v2 fv0 fv1 fv2 hv N1 GS1 Z1
  generalize (((v1.setCell ⟨w.heap.size + 1 + 1, 0, none⟩ (.int .i64 va)).setCell ⟨w.heap.size + 1 + 1, 1, none⟩ (.int .i64 vb)).setCell ⟨w.heap.size + 1 + 1, 2, none⟩ (.slice AA an ac)) = V2 at *
  obtain ⟨y0, y1, y2, y3, _, _, _, _, hy⟩ := quad_all N2.out.bu
  go_wp2_with fail
  refine (LY.out _ N2.out.hb).mono ?_
  rintro e v3 ⟨pv2, va2, vb2, AA2, an2, ac2, rfl, hs3, hb3⟩
  have N3 := Lib.hid (N2.out.below hb3)
  have GS3 := Lib.hid (GS2.out.below hb3)
  have HS3 := Lib.hid (hs3.low Z2.out)
  clear y0 y1 y2 y3 hy N2 GS2 hs3 hb3 Z2
  obtain ⟨u0, u1, u2, fu0, fu1, fu2, hu⟩ := tri_all N3.out.bw
  go_upto_region 5 with fail
  have N4 := Lib.hid (N3.out.setW (.int .i64 va2) (.int .i64 vb2) (.slice AA2 an2 ac2))
  have S4 := Lib.hid (GS3.out.kp3 (g0 := w.heap.size + 1 + 1 + 1) ZW.out (.int .i64 va2) (.int .i64 vb2) (.slice AA2 an2 ac2))
  have S5 := Lib.hid (HS3.out.kp3 (g0 := w.heap.size + 1 + 1 + 1) ZW.out (.int .i64 va2) (.int .i64 vb2) (.slice AA2 an2 ac2))
  clear u0 u1 u2 fu0 fu1 fu2 hu N3 GS3 HS3
  generalize (((v3.setCell ⟨w.heap.size + 1 + 1 + 1, 0, none⟩ (.int .i64 va2)).setCell ⟨w.heap.size + 1 + 1 + 1, 1, none⟩ (.int .i64 vb2)).setCell ⟨w.heap.size + 1 + 1 + 1, 2, none⟩ (.slice AA2 an2 ac2)) = V4 at *
  have zw := ZW.out
  cases b1 <;> cases b2
  · have N6 := Lib.hid (N4.out.setV (.int .i64 va) (.int .i64 vb) (.slice AA an ac))
    have N7 := Lib.hid ((N6.out.setW (.int .i64 va2) (.int .i64 vb2) (.slice AA2 an2 ac2)).below (below_drew _))
    have K7 := Lib.hid N7.out.six
    have S6 := Lib.hid (((S4.out.kp3 (g0 := w.heap.size + 1 + 1) (by omega) (.int .i64 va) (.int .i64 vb) (.slice AA an ac)).kp3 (g0 := w.heap.size + 1 + 1 + 1) (by omega) (.int .i64 va2) (.int .i64 vb2) (.slice AA2 an2 ac2)).below (below_drew _))
    have S7 := Lib.hid (((S5.out.kp3 (g0 := w.heap.size + 1 + 1) (by omega) (.int .i64 va) (.int .i64 vb) (.slice AA an ac)).kp3 (g0 := w.heap.size + 1 + 1 + 1) (by omega) (.int .i64 va2) (.int .i64 vb2) (.slice AA2 an2 ac2)).below (below_drew _))
    clear S4 S5
    have PP1 : ∀ w, (binOp .neq 27 (.pointer pv) (.pointer none)).run Tryz.prog w = .ok (.bool false) w := by
      obtain rfl := S6.out.2 rfl; exact fun _ => by kernel_rfl
    have PP2 : ∀ w, (binOp .neq 27 (.pointer pv2) (.pointer none)).run Tryz.prog w = .ok (.bool false) w := by
      obtain rfl := S7.out.2 rfl; exact fun _ => by kernel_rfl
    obtain ⟨v0, v1', v2', fv0, fv1, fv2, hv⟩ := tri_all N4.out.bv
    obtain ⟨u0, u1, u2, fu0, fu1, fu2, hu⟩ := tri_all N4.out.bw
    go_region
    clear v0 v1' v2' fv0 fv1 fv2 hv u0 u1 u2 fu0 fu1 fu2 hu
    generalize World.drew _ = Z at *
    obtain ⟨v0, v1', v2', u0, u1, u2⟩ := K7.out
    go_wp2_with fail
    exact bodyPost_ret (v := .tuple #[.pointer pv, .pointer pv2, .agg #[.int .i64 va, .int .i64 vb, .slice AA an ac], .agg #[.int .i64 va2, .int .i64 vb2, .slice AA2 an2 ac2], .bool false]) (by simp [results, Tryz.results8, go_sem, v0, v1', v2', u0, u1, u2]) rfl (by
      exact .inl ⟨⟨_, _, _, _, _, _, _, _, _, _, _, _, rfl⟩, N7.out.hb⟩)
  · have N6 := Lib.hid (N4.out.setV (.int .i64 va) (.int .i64 vb) (.slice AA an ac))
    have N7 := Lib.hid ((N6.out.setW (.int .i64 va2) (.int .i64 vb2) (.slice AA2 an2 ac2)).below (below_drew _))
    have K7 := Lib.hid N7.out.six
    have S6 := Lib.hid (((S4.out.kp3 (g0 := w.heap.size + 1 + 1) (by omega) (.int .i64 va) (.int .i64 vb) (.slice AA an ac)).kp3 (g0 := w.heap.size + 1 + 1 + 1) (by omega) (.int .i64 va2) (.int .i64 vb2) (.slice AA2 an2 ac2)).below (below_drew _))
    have S7 := Lib.hid (((S5.out.kp3 (g0 := w.heap.size + 1 + 1) (by omega) (.int .i64 va) (.int .i64 vb) (.slice AA an ac)).kp3 (g0 := w.heap.size + 1 + 1 + 1) (by omega) (.int .i64 va2) (.int .i64 vb2) (.slice AA2 an2 ac2)).below (below_drew _))
    clear S4 S5
    have PP1 : ∀ w, (binOp .neq 27 (.pointer pv) (.pointer none)).run Tryz.prog w = .ok (.bool false) w := by
      obtain rfl := S6.out.2 rfl; exact fun _ => by kernel_rfl
    have PP2 : ∀ w, (binOp .neq 27 (.pointer pv2) (.pointer none)).run Tryz.prog w = .ok (.bool true) w := by
      obtain ⟨q2, _, _, _, rfl, _⟩ := S7.out.1 rfl; exact fun _ => by kernel_rfl
    obtain ⟨v0, v1', v2', fv0, fv1, fv2, hv⟩ := tri_all N4.out.bv
    obtain ⟨u0, u1, u2, fu0, fu1, fu2, hu⟩ := tri_all N4.out.bw
    go_region
    clear v0 v1' v2' fv0 fv1 fv2 hv u0 u1 u2 fu0 fu1 fu2 hu
    generalize World.drew _ = Z at *
    obtain ⟨v0, v1', v2', u0, u1, u2⟩ := K7.out
    go_wp2_with fail
    exact bodyPost_ret (v := .tuple #[.pointer pv, .pointer pv2, .agg #[.int .i64 va, .int .i64 vb, .slice AA an ac], .agg #[.int .i64 va2, .int .i64 vb2, .slice AA2 an2 ac2], .bool false]) (by simp [results, Tryz.results8, go_sem, v0, v1', v2', u0, u1, u2]) rfl (by
      exact .inl ⟨⟨_, _, _, _, _, _, _, _, _, _, _, _, rfl⟩, N7.out.hb⟩)
  · have N6 := Lib.hid (N4.out.setV (.int .i64 va) (.int .i64 vb) (.slice AA an ac))
    have N7 := Lib.hid ((N6.out.setW (.int .i64 va2) (.int .i64 vb2) (.slice AA2 an2 ac2)).below (below_drew _))
    have K7 := Lib.hid N7.out.six
    have S6 := Lib.hid (((S4.out.kp3 (g0 := w.heap.size + 1 + 1) (by omega) (.int .i64 va) (.int .i64 vb) (.slice AA an ac)).kp3 (g0 := w.heap.size + 1 + 1 + 1) (by omega) (.int .i64 va2) (.int .i64 vb2) (.slice AA2 an2 ac2)).below (below_drew _))
    have S7 := Lib.hid (((S5.out.kp3 (g0 := w.heap.size + 1 + 1) (by omega) (.int .i64 va) (.int .i64 vb) (.slice AA an ac)).kp3 (g0 := w.heap.size + 1 + 1 + 1) (by omega) (.int .i64 va2) (.int .i64 vb2) (.slice AA2 an2 ac2)).below (below_drew _))
    clear S4 S5
    have PP1 : ∀ w, (binOp .neq 27 (.pointer pv) (.pointer none)).run Tryz.prog w = .ok (.bool true) w := by
      obtain ⟨q1, _, _, _, rfl, _⟩ := S6.out.1 rfl; exact fun _ => by kernel_rfl
    have PP2 : ∀ w, (binOp .neq 27 (.pointer pv2) (.pointer none)).run Tryz.prog w = .ok (.bool false) w := by
      obtain rfl := S7.out.2 rfl; exact fun _ => by kernel_rfl
    obtain ⟨v0, v1', v2', fv0, fv1, fv2, hv⟩ := tri_all N4.out.bv
    obtain ⟨u0, u1, u2, fu0, fu1, fu2, hu⟩ := tri_all N4.out.bw
    go_region
    clear v0 v1' v2' fv0 fv1 fv2 hv u0 u1 u2 fu0 fu1 fu2 hu
    generalize World.drew _ = Z at *
    obtain ⟨v0, v1', v2', u0, u1, u2⟩ := K7.out
    go_wp2_with fail
    exact bodyPost_ret (v := .tuple #[.pointer pv, .pointer pv2, .agg #[.int .i64 va, .int .i64 vb, .slice AA an ac], .agg #[.int .i64 va2, .int .i64 vb2, .slice AA2 an2 ac2], .bool false]) (by simp [results, Tryz.results8, go_sem, v0, v1', v2', u0, u1, u2]) rfl (by
      exact .inl ⟨⟨_, _, _, _, _, _, _, _, _, _, _, _, rfl⟩, N7.out.hb⟩)
  · have N6 := Lib.hid (N4.out.setV (.int .i64 va) (.int .i64 vb) (.slice AA an ac))
    have N7 := Lib.hid ((N6.out.setW (.int .i64 va2) (.int .i64 vb2) (.slice AA2 an2 ac2)).below (below_drew _))
    have K7 := Lib.hid N7.out.six
    have S6 := Lib.hid (((S4.out.kp3 (g0 := w.heap.size + 1 + 1) (by omega) (.int .i64 va) (.int .i64 vb) (.slice AA an ac)).kp3 (g0 := w.heap.size + 1 + 1 + 1) (by omega) (.int .i64 va2) (.int .i64 vb2) (.slice AA2 an2 ac2)).below (below_drew _))
    have S7 := Lib.hid (((S5.out.kp3 (g0 := w.heap.size + 1 + 1) (by omega) (.int .i64 va) (.int .i64 vb) (.slice AA an ac)).kp3 (g0 := w.heap.size + 1 + 1 + 1) (by omega) (.int .i64 va2) (.int .i64 vb2) (.slice AA2 an2 ac2)).below (below_drew _))
    clear S4 S5
    have PP1 : ∀ w, (binOp .neq 27 (.pointer pv) (.pointer none)).run Tryz.prog w = .ok (.bool true) w := by
      obtain ⟨q1, _, _, _, rfl, _⟩ := S6.out.1 rfl; exact fun _ => by kernel_rfl
    have PP2 : ∀ w, (binOp .neq 27 (.pointer pv2) (.pointer none)).run Tryz.prog w = .ok (.bool true) w := by
      obtain ⟨q2, _, _, _, rfl, _⟩ := S7.out.1 rfl; exact fun _ => by kernel_rfl
    obtain ⟨v0, v1', v2', fv0, fv1, fv2, hv⟩ := tri_all N4.out.bv
    obtain ⟨u0, u1, u2, fu0, fu1, fu2, hu⟩ := tri_all N4.out.bw
    go_region
    clear v0 v1' v2' fv0 fv1 fv2 hv u0 u1 u2 fu0 fu1 fu2 hu
    generalize World.drew _ = Z at *
    obtain ⟨v0, v1', v2', u0, u1, u2⟩ := K7.out
    go_wp2_with fail
    exact bodyPost_ret (v := .tuple #[.pointer pv, .pointer pv2, .agg #[.int .i64 va, .int .i64 vb, .slice AA an ac], .agg #[.int .i64 va2, .int .i64 vb2, .slice AA2 an2 ac2], .bool true]) (by simp [results, Tryz.results8, go_sem, v0, v1', v2', u0, u1, u2]) rfl (by
      obtain ⟨q1, p1, g1', h1', rfl, d1, rfl, rfl, rfl, rfl, rfl⟩ := S6.out.1 rfl
      obtain ⟨q2, p2, g2', h2', rfl, d2, rfl, rfl, rfl, rfl, rfl⟩ := S7.out.1 rfl
      exact .inr ⟨⟨q1, p1, g1', h1', q2, p2, g2', h2', rfl, d1.low (by omega), d2.low (by omega)⟩, N7.out.hb⟩)
theorem gpTwo_any {l1 k1 kd1 : Int} {A1 : Option Addr} {n1 c1 : Nat} {L : List Nd} {l2 k2 kd2 : Int} {A2 : Option Addr} {n2 c2 : Nat} {M : List Nd} (w : World) (hv1 : NodesAt w (.slice A1 n1 c1) L) (NB1 : NBds L) (hv2 : NodesAt w (.slice A2 n2 c2) M) (NB2 : NBds M)
    (L0 : -9223372036854775808 ≤ l1) (L1 : l1 ≤ 9223372036854775807) (M0 : -9223372036854775808 ≤ l2) (M1 : l2 ≤ 9223372036854775807) :
    Calls Tryz.prog 8 #[.agg #[.int .i64 l1, .int .i64 k1, .int .i64 kd1, .slice A1 n1 c1], .agg #[.int .i64 l2, .int .i64 k2, .int .i64 kd2, .slice A2 n2 c2]] w fun e w' => ((∃ pa pb a b A n c a' b' A' n' c', e = .returned (.tuple #[.pointer pa, .pointer pb, .agg #[.int .i64 a, .int .i64 b, .slice A n c], .agg #[.int .i64 a', .int .i64 b', .slice A' n' c'], .bool false])) ∧ Below w.heap.size w w') ∨ (n1 ≤ 60 ∧ n2 ≤ 60 ∧ GpTold kd1 l1 k1 A1 n1 c1 L kd2 l2 k2 A2 n2 c2 M w e w') := by
  by_cases h1 : 60 < n1
  · exact (gpTwo_big w h1).mono fun e w' h => .inl h
  · by_cases h2 : 60 < n2
    · exact (gpTwo_big2 w h1 h2).mono fun e w' h => .inl h
    · refine (gpTwo_small w h1 h2 hv1 NB1 hv2 NB2 L0 L1 M0 M1).mono ?_
      rintro e w' (h | h)
      · exact .inl h
      · exact .inr ⟨by omega, by omega, h⟩
end Go.Proofs.YtelekchdbiimiaaGreat
