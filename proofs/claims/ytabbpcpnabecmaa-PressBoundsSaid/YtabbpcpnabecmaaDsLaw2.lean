/- The walks of the statements DensePlays and DenseNobody of layer dense: for every input each returns true, and nothing that was there before is changed. -/
import Derived.Test.YtabbpcpnabecmaaDsLaw
import Derived.Test.YtabbpcpnabecmaaOpen5
namespace Go.Proofs.Ytabbpcpnabecmaa
set_option linter.unusedVariables false
open Go.RowKit

/-- a box of two cells, stored anew: it holds these, and rows of other types are as they were -/
theorem box_set {TS : TypeId} {w : World} {B q : Nat} {x y : Value} (r : w.ownsRow B TS 2 (.slice (some ⟨q, 0, none⟩) 1 1) 1 [x, y]) (u u' : Value) :
    ((w.setCell ⟨q, 0, none⟩ u).setCell ⟨q, 1, none⟩ u').ownsRow B TS 2 (.slice (some ⟨q, 0, none⟩) 1 1) 1 [u, u'] ∧
    (∀ (base : Nat) (e : TypeId) (size n : Nat) (v : Value) (ys : List Value), e ≠ TS → w.ownsRow base e size v n ys → ((w.setCell ⟨q, 0, none⟩ u).setCell ⟨q, 1, none⟩ u').ownsRow base e size v n ys) ∧
    Below B w ((w.setCell ⟨q, 0, none⟩ u).setCell ⟨q, 1, none⟩ u') ∧
    (∀ (base : Nat) (e : TypeId) (size n : Nat) (v : Value) (ys : List Value), v.ownBlock ≠ some q → w.ownsRow base e size v n ys → ((w.setCell ⟨q, 0, none⟩ u).setCell ⟨q, 1, none⟩ u').ownsRow base e size v n ys) := by
  have a := World.ownsRow.stored r 0 u
  have b := World.ownsRow.stored a.1 1 u'
  have hB := (r.lt q rfl).1
  refine ⟨b.1, fun base e size n v ys he o => ?_, ((Below.refl _ _).setCell (p := ⟨q, 0, none⟩) hB u).setCell (p := ⟨q, 1, none⟩) hB u', fun base e size n v ys he o => ?_⟩
  · have o1 := o.kept a.2 (own_apart o r he)
    exact o1.kept b.2 (own_apart o1 a.1 he)
  · exact (o.kept a.2 (.inr he)).kept b.2 (.inr he)
theorem box_cells {TS : TypeId} {w : World} {B q : Nat} {x y : Value} (r : w.ownsRow B TS 2 (.slice (some ⟨q, 0, none⟩) 1 1) 1 [x, y]) :
    w.cell? ⟨q, 0, none⟩ = some x ∧ w.cell? ⟨q, 1, none⟩ = some y ∧ w.frozen? ⟨q, 0, none⟩ = false ∧ w.frozen? ⟨q, 1, none⟩ = false ∧ q < w.heap.size :=
  ⟨r.cellAt 0 (by omega), r.cellAt 1 (by omega), r.frozenAt 0, r.frozenAt 1, (r.lt q rfl).2⟩
theorem tri_cells {TS : TypeId} {w : World} {B q : Nat} {x y z : Value} (r : w.ownsRow B TS 3 (.slice (some ⟨q, 0, none⟩) 1 1) 1 [x, y, z]) :
    w.cell? ⟨q, 0, none⟩ = some x ∧ w.cell? ⟨q, 1, none⟩ = some y ∧ w.cell? ⟨q, 2, none⟩ = some z :=
  ⟨r.cellAt 0 (by omega), r.cellAt 1 (by omega), r.cellAt 2 (by omega)⟩
theorem tri_new (w : World) (TO : TypeId) (a b c : Value) : (w.alloc (.cells #[a, b, c] TO)).ownsRow w.heap.size TO 3 (.slice (some ⟨w.heap.size, 0, none⟩) 1 1) 1 [a, b, c] :=
  World.ownsRow_lit (base := w.heap.size) (e := TO) (size := 3) w #[a, b, c] 1 (Nat.le_refl _) (by unfold maxLen; omega) rfl
theorem duo_new (w : World) (TO : TypeId) (a b : Value) : (w.alloc (.cells #[a, b] TO)).ownsRow w.heap.size TO 2 (.slice (some ⟨w.heap.size, 0, none⟩) 1 1) 1 [a, b] :=
  World.ownsRow_lit (base := w.heap.size) (e := TO) (size := 2) w #[a, b] 1 (Nat.le_refl _) (by unfold maxLen; omega) rfl

theorem ds_box {TD TI TS : TypeId} {w w' : World} {B g h : Nat} {l : Int} {L : List Nd} (d : DsAt TD TI w B g h l L)
    (k : ∀ (base : Nat) (e : TypeId) (size n : Nat) (v : Value) (ys : List Value), e ≠ TS → w.ownsRow base e size v n ys → w'.ownsRow base e size v n ys) (h1 : TD ≠ TS) (h2 : TI ≠ TS) : DsAt TD TI w' B g h l L :=
  ⟨k _ _ _ _ _ _ h1 d.top, k _ _ _ _ _ _ h2 d.row, d.ne⟩
end Go.Proofs.Ytabbpcpnabecmaa
