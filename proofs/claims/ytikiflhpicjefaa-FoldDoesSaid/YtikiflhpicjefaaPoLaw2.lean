/- The walks of the statements PoolPlays and PoolLoads of layer pool: for every input each returns true, and nothing that was there before is changed. -/
import Derived.Test.YtikiflhpicjefaaPoLaw
import Derived.Test.YtikiflhpicjefaaDsLaw2
namespace Go.Proofs.Ytikiflhpicjefaa
set_option linter.unusedVariables false
set_option maxRecDepth 100000
open Go.RowKit

theorem po_box {w w' : World} {B p g h : Nat} {kd l : Int} {n : Nat} {L : List Nd} (d : PoA w B p g h kd l n L)
    (k : ∀ (base : Nat) (e : TypeId) (size n : Nat) (v : Value) (ys : List Value), e ≠ 34 → w.ownsRow base e size v n ys → w'.ownsRow base e size v n ys) : PoA w' B p g h kd l n L :=
  ⟨d.roll, d.len, d.st.imp (fun ⟨a, b, c, e⟩ => ⟨a, b, k _ _ _ _ _ _ (by decide) c, ds_box e k (by decide) (by decide)⟩)
    (fun ⟨a, c, b, S, e, t, z⟩ => ⟨a, k _ _ _ _ _ _ (by decide) c, b, S, ⟨k _ _ _ _ _ _ (by decide) e.top, k _ _ _ _ _ _ (by decide) e.row, e.ne⟩, t, z⟩)⟩
theorem own_new2 {w : World} {B : Nat} {e : TypeId} {size n h h2 : Nat} {v : Value} {xs : List Value} (o : w.ownsRow B e size v n xs) (h0 : v.ownBlock ≠ some h) (hh : h2 = h ∨ w.heap.size ≤ h2) : v.ownBlock ≠ some h2 := by
  rcases hh with q | q
  · rw [q]; exact h0
  · intro e
    have := (World.ownsRow.lt o h2 e).2
    omega
theorem newB_ne2 {v0 v : Value} {k h : Nat} (q : NewB v0 v k) (h0 : v0.ownBlock ≠ some h) (hh : h < k) : v.ownBlock ≠ some h := by
  rcases q with q | q
  · rw [q]; exact h0
  · intro e
    have := q h e
    omega
end Go.Proofs.Ytikiflhpicjefaa
