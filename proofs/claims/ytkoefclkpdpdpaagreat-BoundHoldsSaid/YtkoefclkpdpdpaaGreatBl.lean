/- The project's package blend: Lower. -/
import Derived.Test.YtkoefclkpdpdpaaGreatDgQ
import Derived.Test.YtkoefclkpdpdpaaGreatBlN
namespace Go.Proofs.YtkoefclkpdpdpaaGreat
set_option linter.unusedVariables false
set_option maxRecDepth 100000
open Go.RowKit

/-- a list of a digest's own is never refused -/
theorem dgLdE_v {kd l k : Int} {L : List Nd} (v : DgV l k L) (h : isP kd l = true) : dgLdE kd l k L = 0 := by
  have hk : kIs k = true := decide_eq_true ⟨v.k1, v.k2⟩
  refine dgLdE_ok hk h (roll_iff.2 v.roll) v.len ?_
  unfold lightB
  have z : LightC l (capW L k) L := v.light
  simp [hk, z]
theorem isP_uni {kd l : Int} (h : isP kd l = true) : 1 ≤ l ∧ l ≤ 48 := by rcases of_decide_eq_true h with q | q <;> omega
/-- a box of three cells, its middle one stored anew -/
theorem tri_mid {TS : TypeId} {w : World} {B q : Nat} {x y z : Value} (r : w.ownsRow B TS 3 (.slice (some ⟨q, 0, none⟩) 1 1) 1 [x, y, z]) (u : Value) :
    (w.setCell ⟨q, 1, none⟩ u).ownsRow B TS 3 (.slice (some ⟨q, 0, none⟩) 1 1) 1 [x, u, z] ∧ Below B w (w.setCell ⟨q, 1, none⟩ u) ∧ Kp (fun i => i = q) w (w.setCell ⟨q, 1, none⟩ u) := by
  have s := World.ownsRow.stored r 1 u
  exact ⟨s.1, (Below.refl _ _).setCell (p := ⟨q, 1, none⟩) (r.lt q rfl).1 u, Kp.setCell w ⟨q, 1, none⟩ u⟩
theorem bl_keep2 {W a b : World} {p q : Addr} {x y : Value} (h : a.cell? p = some x ∧ a.cell? q = some y ∧ Below W.heap.size W a) (hb : Below a.heap.size a b) (hp : p.block < W.heap.size) (hq : q.block < W.heap.size) : b.cell? p = some x ∧ b.cell? q = some y ∧ Below W.heap.size W b := by
  obtain ⟨h1, h2, h3⟩ := h
  have hz := h3.size
  exact ⟨(hb.cell (by omega)).trans h1, (hb.cell (by omega)).trans h2, h3.trans (hb.mono hz)⟩
theorem bl_below2 {W a : World} {p q : Addr} {x y : Value} (h : a.cell? p = some x ∧ a.cell? q = some y ∧ Below W.heap.size W a) : Below W.heap.size W a := h.2.2
theorem bl_keep3 {W a b : World} {p q r : Addr} {x y z : Value} (h : a.cell? p = some x ∧ a.cell? q = some y ∧ a.cell? r = some z ∧ Below W.heap.size W a) (hb : Below a.heap.size a b) (hp : p.block < W.heap.size) (hq : q.block < W.heap.size) (hr : r.block < W.heap.size) : b.cell? p = some x ∧ b.cell? q = some y ∧ b.cell? r = some z ∧ Below W.heap.size W b := by
  obtain ⟨h1, h2, h3, h4⟩ := h
  have hz := h4.size
  exact ⟨(hb.cell (by omega)).trans h1, (hb.cell (by omega)).trans h2, (hb.cell (by omega)).trans h3, h4.trans (hb.mono hz)⟩
theorem bl_below3 {W a : World} {p q r : Addr} {x y z : Value} (h : a.cell? p = some x ∧ a.cell? q = some y ∧ a.cell? r = some z ∧ Below W.heap.size W a) : Below W.heap.size W a := h.2.2.2
/-- a digest handed out -/
def BlPost (kd l k : Int) (M : List Nd) (w : World) (e : Ending) (w' : World) : Prop := Below w.heap.size w w' ∧ ∃ q p g h, e = .returned (.tuple #[.pointer (some ⟨q, 0, none⟩), .int .i64 0]) ∧ DgA w' w.heap.size q p g h kd l k M.length M
/-- .. none, and why -/
def BlNo (x : Int) (w : World) (e : Ending) (w' : World) : Prop := e = .returned (.tuple #[.pointer none, .int .i64 x]) ∧ Below w.heap.size w w'
theorem blLoad_v (kd l k : Int) (A : Option Addr) (m c : Nat) (L : List Nd) (w : World) (hv : NodesAt w (.slice A m c) L) (v : DgV l k L) (hp : isP kd l = true) (hm : m ≤ 500) :
    Calls Tryz.prog 34 #[.agg #[.int .i64 l, .int .i64 k, .int .i64 kd], .slice A m c] w (BlPost kd l k L w) := by
  have u := isP_uni hp
  refine (dgLoad_any kd l k A m c L w hv (nbds_roll v.roll) hm (by omega) (by omega)).mono ?_
  rintro e w1 ⟨hb, ⟨hi, _⟩ | ⟨_, z⟩⟩
  · exact absurd (dgLdE_v v hp) hi
  · exact ⟨hb, z⟩
end Go.Proofs.YtkoefclkpdpdpaaGreat
