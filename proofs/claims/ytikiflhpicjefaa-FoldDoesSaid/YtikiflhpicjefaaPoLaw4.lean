/- The walk of the statement PoolTurns of layer pool: for every input it returns true, and nothing that was there before is changed. -/
import Derived.Test.YtikiflhpicjefaaPoLaw2
import Derived.Test.YtikiflhpicjefaaPoTurn
import Derived.Test.YtikiflhpicjefaaDsRefN
namespace Go.Proofs.Ytikiflhpicjefaa
set_option linter.unusedVariables false
set_option maxRecDepth 100000
open Go.RowKit

theorem keep_six {W a b : World} {p0 p1 p2 p3 p4 p5 : Addr} {x0 x1 x2 x3 x4 x5 : Value} (h : a.cell? p0 = some x0 ∧ a.cell? p1 = some x1 ∧ a.cell? p2 = some x2 ∧ a.cell? p3 = some x3 ∧ a.cell? p4 = some x4 ∧ a.cell? p5 = some x5 ∧ Below W.heap.size W a) (hb : Below a.heap.size a b)
    (q0 : p0.block < W.heap.size) (q1 : p1.block < W.heap.size) (q2 : p2.block < W.heap.size) (q3 : p3.block < W.heap.size) (q4 : p4.block < W.heap.size) (q5 : p5.block < W.heap.size) :
    b.cell? p0 = some x0 ∧ b.cell? p1 = some x1 ∧ b.cell? p2 = some x2 ∧ b.cell? p3 = some x3 ∧ b.cell? p4 = some x4 ∧ b.cell? p5 = some x5 ∧ Below W.heap.size W b := by
  obtain ⟨h0, h1, h2, h3, h4, h5, h6⟩ := h
  have hz := h6.size
  exact ⟨(hb.cell (by omega)).trans h0, (hb.cell (by omega)).trans h1, (hb.cell (by omega)).trans h2, (hb.cell (by omega)).trans h3, (hb.cell (by omega)).trans h4, (hb.cell (by omega)).trans h5, h6.trans (hb.mono hz)⟩
theorem below_of6 {W a : World} {p0 p1 p2 p3 p4 p5 : Addr} {x0 x1 x2 x3 x4 x5 : Value} (h : a.cell? p0 = some x0 ∧ a.cell? p1 = some x1 ∧ a.cell? p2 = some x2 ∧ a.cell? p3 = some x3 ∧ a.cell? p4 = some x4 ∧ a.cell? p5 = some x5 ∧ Below W.heap.size W a) : Below W.heap.size W a := h.2.2.2.2.2.2
theorem same_below {P : Program} {f : FuncId} {args : Array Value} {L M : List Nd} {w : World} (h : Calls P f args w (SamePost L M w)) : Calls P f args w fun e w' => e = .returned (.bool (sameB L M)) ∧ Below w.heap.size w w' :=
  h.mono fun _ _ ⟨a, q, b⟩ => ⟨a, by rw [b]; exact drewN_below (Below.refl _ _) q⟩
theorem box4 (w : World) (TO : TypeId) (a b c d : Value) : (w.alloc (.cells #[a, b, c, d] TO)).ownsRow w.heap.size TO 4 (.slice (some ⟨w.heap.size, 0, none⟩) 1 1) 1 [a, b, c, d] :=
  World.ownsRow_lit (base := w.heap.size) (e := TO) (size := 4) w #[a, b, c, d] 1 (Nat.le_refl _) (by unfold maxLen; omega) rfl
theorem quad_cells {TS : TypeId} {w : World} {B q : Nat} {x y z u : Value} (r : w.ownsRow B TS 4 (.slice (some ⟨q, 0, none⟩) 1 1) 1 [x, y, z, u]) :
    w.cell? ⟨q, 0, none⟩ = some x ∧ w.cell? ⟨q, 1, none⟩ = some y ∧ w.cell? ⟨q, 2, none⟩ = some z ∧ w.cell? ⟨q, 3, none⟩ = some u :=
  ⟨r.cellAt 0 (by omega), r.cellAt 1 (by omega), r.cellAt 2 (by omega), r.cellAt 3 (by omega)⟩
end Go.Proofs.Ytikiflhpicjefaa
