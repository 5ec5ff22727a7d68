/- What the statements of layer recast call: same, stands. -/
import Derived.Test.YtachfeclgdgbiaaGreatBlLaw
import Derived.Test.YtachfeclgdgbiaaGreatRcN
import Derived.Test.YtachfeclgdgbiaaGreatDgRef7
import Derived.Test.YtachfeclgdgbiaaGreatPrR
import Derived.Deep.Cut
import Derived.Deep.RegionWith
import Derived.BigQuiet
namespace Go.Proofs.YtachfeclgdgbiaaGreat
set_option linter.unusedVariables false
set_option maxRecDepth 100000
open Go.RowKit

theorem rc_keep2 {W a b : World} {p q : Addr} {x y : Value} (h : a.cell? p = some x ∧ a.cell? q = some y ∧ Below W.heap.size W a) (hb : Below a.heap.size a b) (hp : p.block < W.heap.size) (hq : q.block < W.heap.size) : b.cell? p = some x ∧ b.cell? q = some y ∧ Below W.heap.size W b := by
  obtain ⟨h1, h2, h3⟩ := h
  have hz := h3.size
  exact ⟨(hb.cell (by omega)).trans h1, (hb.cell (by omega)).trans h2, h3.trans (hb.mono hz)⟩
theorem rc_below2 {W a : World} {p q : Addr} {x y : Value} (h : a.cell? p = some x ∧ a.cell? q = some y ∧ Below W.heap.size W a) : Below W.heap.size W a := h.2.2
theorem rc_keep4 {W a b : World} {p q r s : Addr} {x y z u : Value} (h : a.cell? p = some x ∧ a.cell? q = some y ∧ a.cell? r = some z ∧ a.cell? s = some u ∧ Below W.heap.size W a) (hb : Below a.heap.size a b)
    (hp : p.block < W.heap.size) (hq : q.block < W.heap.size) (hr : r.block < W.heap.size) (hs : s.block < W.heap.size) : b.cell? p = some x ∧ b.cell? q = some y ∧ b.cell? r = some z ∧ b.cell? s = some u ∧ Below W.heap.size W b := by
  obtain ⟨h1, h2, h3, h4, h5⟩ := h
  have hz := h5.size
  exact ⟨(hb.cell (by omega)).trans h1, (hb.cell (by omega)).trans h2, (hb.cell (by omega)).trans h3, (hb.cell (by omega)).trans h4, h5.trans (hb.mono hz)⟩
theorem rc_below4 {W a : World} {p q r s : Addr} {x y z u : Value} (h : a.cell? p = some x ∧ a.cell? q = some y ∧ a.cell? r = some z ∧ a.cell? s = some u ∧ Below W.heap.size W a) : Below W.heap.size W a := h.2.2.2.2
theorem rcLight_v {l k : Int} {L : List Nd} (v : DgV l k L) : lightB l L k = true := by
  have hk : kIs k = true := decide_eq_true ⟨v.k1, v.k2⟩
  unfold lightB
  have z : LightC l (capW L k) L := v.light
  simp [hk, z]
theorem rcSame_no (x kd k l : Int) (v : Value) (w : World) (hx : ¬ x = 0) :
    Calls Tryz.prog 13 #[.pointer none, .int .i64 x, .int .i64 kd, .agg #[.int .i64 k, .int .i64 l, v], .int .i64 x] w fun e w' => e = .returned (.bool true) ∧ Below w.heap.size w w' := by
  have HB0 : Hid (Below w.heap.size w (w.alloc (.cells #[.int .i64 k, .int .i64 l, v] 37))) := (Below.refl _ _).alloc (Nat.le_refl _) _
  have c1 : (x != x) = false := by simp
  have c2 : (x != 0) = true := bne_iff_ne.2 hx
  clear hx
  go_enter Tryz.func13, Tryz.ntmps13
  go_wp2_with fail
  go_ret
  exact ⟨rfl, HB0.out⟩
theorem rcSame_yes {B q p g h : Nat} {kd l k : Int} {n : Nat} {L : List Nd} (A : Option Addr) (m c : Nat) (w : World) (d : DgA w B q p g h kd l k n L) (hn : n ≤ 1000) (hv : NodesAt w (.slice A m c) L) :
    Calls Tryz.prog 13 #[.pointer (some ⟨q, 0, none⟩), .int .i64 0, .int .i64 kd, .agg #[.int .i64 k, .int .i64 l, .slice A m c], .int .i64 0] w fun e w' => e = .returned (.bool true) ∧ Below w.heap.size w w' := by
  have HB0 : Hid (Below w.heap.size w (w.alloc (.cells #[.int .i64 k, .int .i64 l, .slice A m c] 37))) := (Below.refl _ _).alloc (Nat.le_refl _) _
  have LK := Lib.hid (blLike_any A m c _ (d.below HB0.out) hn (hv.below HB0.out))
  obtain ⟨x0, x1, x2, _, _, _, hz⟩ := tri_all (tri_nw w 37 (.int .i64 k) (.int .i64 l) (.slice A m c))
  clear d hv
  go_enter Tryz.func13, Tryz.ntmps13
  go_wp2_with fail
  generalize w.alloc (.cells #[.int .i64 k, .int .i64 l, .slice A m c] 37) = W at *
  refine LK.out.mono ?_
  rintro e w1 ⟨rfl, hb1⟩
  go_wp2_with fail
  go_ret
  exact ⟨rfl, HB0.out.trans (hb1.mono HB0.out.size)⟩

end Go.Proofs.YtachfeclgdgbiaaGreat
