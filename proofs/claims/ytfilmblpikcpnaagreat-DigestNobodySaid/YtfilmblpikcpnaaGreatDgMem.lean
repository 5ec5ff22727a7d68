/- A digest in memory: what it is made of and its pool, and the blocks that they take. No walk is made here. -/
import Derived.Test.YtfilmblpikcpnaaGreatDgNum2
import Derived.Test.YtfilmblpikcpnaaGreatPrP
import Derived.Test.YtfilmblpikcpnaaGreatPo2
namespace Go.Proofs.YtfilmblpikcpnaaGreat
set_option linter.unusedVariables false
set_option maxRecDepth 100000
open Go.RowKit

/-- the blocks of a digest -/
def dgF (q p g h : Nat) : Nat → Prop := fun i => i = q ∨ poF p g h i
/-- the cells of a digest's box -/
def dgCells (l k kd : Int) (p : Nat) : List Value := [.int .i64 l, .int .i64 k, .int .i64 kd, .pointer (some ⟨p, 0, none⟩)]
structure DgA (w : World) (B q p g h : Nat) (kd l k : Int) (n : Nat) (L : List Nd) : Prop where
  top : w.ownsRow B 84 4 (.slice (some ⟨q, 0, none⟩) 1 1) 1 (dgCells l k kd p)
  po : PoA w B p g h kd l n L
  v : DgV l k L
section
variable {w w' : World} {B q p g h : Nat} {kd l k : Int} {n : Nat} {L : List Nd}
theorem DgA.below (d : DgA w B q p g h kd l k n L) (hb : Below w.heap.size w w') : DgA w' B q p g h kd l k n L := ⟨own_below d.top hb, d.po.below hb, d.v⟩
theorem DgA.low {B2 : Nat} (d : DgA w B q p g h kd l k n L) (hB : B2 ≤ B) : DgA w B2 q p g h kd l k n L := ⟨own_low d.top hB, d.po.low hB, d.v⟩
theorem DgA.more {m : Nat} (d : DgA w B q p g h kd l k n L) (hm : n ≤ m) : DgA w B q p g h kd l k m L := ⟨d.top, d.po.more hm, d.v⟩
theorem DgA.lt (d : DgA w B q p g h kd l k n L) : ∀ i, dgF q p g h i → B ≤ i ∧ i < w.heap.size := fun i f => by
  rcases f with rfl | f
  · exact d.top.lt i rfl
  · have a := d.po.lt
    rcases f with f | f | f <;> omega
theorem DgA.kp {F : Nat → Prop} (d : DgA w B q p g h kd l k n L) (c : Kp F w w') (f : ∀ i, F i → ¬ dgF q p g h i) : DgA w' B q p g h kd l k n L :=
  ⟨own_kp d.top c fun i e fi => f i fi (.inl (by simp only [Value.ownBlock, Option.some.injEq] at e; exact e.symm)), d.po.kp c fun i fi z => f i fi (.inr z), d.v⟩
theorem DgA.cells (d : DgA w B q p g h kd l k n L) : w.cell? ⟨q, 0, none⟩ = some (.int .i64 l) ∧ w.cell? ⟨q, 1, none⟩ = some (.int .i64 k) ∧ w.cell? ⟨q, 2, none⟩ = some (.int .i64 kd) ∧ w.cell? ⟨q, 3, none⟩ = some (.pointer (some ⟨p, 0, none⟩)) :=
  ⟨d.top.cellAt 0 (by omega), d.top.cellAt 1 (by omega), d.top.cellAt 2 (by omega), d.top.cellAt 3 (by omega)⟩
theorem DgA.isk (d : DgA w B q p g h kd l k n L) : kIs k = true := decide_eq_true ⟨d.v.k1, d.v.k2⟩
theorem DgA.free (d : DgA w B q p g h kd l k n L) (i : Nat) : w.frozen? ⟨q, i, none⟩ = false := d.top.frozenAt i
/-- the pool has turned -/
theorem DgA.po' {h' n' : Nat} {M : List Nd} (d : DgA w B q p g h kd l k n L) (c : Chg g h w w') (e : PoA w' B p g h' kd l n' M) (v : DgV l k M) : DgA w' B q p g h' kd l k n' M :=
  ⟨d.po.other d.top c (by decide) (by decide) (by decide) (by decide), e, v⟩
end
/-- what a call leaves -/
def DgPost (B q p g h : Nat) (kd l k : Int) (n : Nat) (M : List Nd) (x : Int) (w : World) (e : Ending) (w' : World) : Prop :=
  e = .returned (.int .i64 x) ∧ ∃ p' g' h', DgA w' B q p' g' h' kd l k n M ∧ Kp (dgF q p g h) w w' ∧ ∀ i, dgF q p' g' h' i → dgF q p g h i ∨ w.heap.size ≤ i

end Go.Proofs.YtfilmblpikcpnaaGreat
