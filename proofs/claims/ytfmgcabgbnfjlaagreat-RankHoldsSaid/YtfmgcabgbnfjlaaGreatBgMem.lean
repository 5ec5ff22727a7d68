/- A bag that lies in memory: a block of three cells (its bits, its weights together, its values), and the row of its values. No program is spoken of here. -/
import Derived.Test.YtfmgcabgbnfjlaaGreatKeep
import Derived.Test.YtfmgcabgbnfjlaaGreatBgNum
namespace Go.Proofs.YtfmgcabgbnfjlaaGreat
set_option linter.unusedVariables false
open Go.RowKit

/-- a bag's blocks: its box, and its row -/
def bgF (g : Nat) (v : Value) : Nat → Prop := fun k => k = g ∨ v.ownBlock = some k
structure Bg (TB TR : TypeId) (w : World) (B g : Nat) (l : Int) (L : List Nd) (v : Value) : Prop where
  bag : BagC l L
  top : w.ownsRow B TB 3 (.slice (some ⟨g, 0, none⟩) 1 1) 1 [.int .i64 l, .int .i64 (sumC L), v]
  row : OwnNd TR w B v L
  ne : TB ≠ TR
section
variable {TB TR : TypeId} {w w' : World} {B g : Nat} {l : Int} {L : List Nd} {v : Value}
theorem Bg.cells (d : Bg TB TR w B g l L v) : w.cell? ⟨g, 0, none⟩ = some (.int .i64 l) ∧ w.cell? ⟨g, 1, none⟩ = some (.int .i64 (sumC L)) ∧ w.cell? ⟨g, 2, none⟩ = some v :=
  ⟨d.top.cellAt 0 (by omega), d.top.cellAt 1 (by omega), d.top.cellAt 2 (by omega)⟩
theorem Bg.free (d : Bg TB TR w B g l L v) (k : Nat) : w.frozen? ⟨g, k, none⟩ = false := d.top.frozenAt k
theorem Bg.lt (d : Bg TB TR w B g l L v) : B ≤ g ∧ g < w.heap.size ∧ ∀ h, v.ownBlock = some h → B ≤ h ∧ h < w.heap.size ∧ h ≠ g := by
  refine ⟨(d.top.lt g rfl).1, (d.top.lt g rfl).2, fun h e => ⟨(d.row.lt h e).1, (d.row.lt h e).2, fun q => ?_⟩⟩
  rcases own_apart d.top d.row d.ne with r | r
  · simp [Value.ownBlock] at r
  · exact r (by rw [e, q]; rfl)
theorem Bg.kp {F : Nat → Prop} (d : Bg TB TR w B g l L v) (p : Kp F w w') (h : ∀ k, bgF g v k → ¬ F k) : Bg TB TR w' B g l L v :=
  ⟨d.bag, own_kp d.top p (fun k e => h k (.inl (by simp [Value.ownBlock] at e; exact e.symm))), own_kp d.row p (fun k e => h k (.inr e)), d.ne⟩
theorem Bg.below (d : Bg TB TR w B g l L v) (hb : Below w.heap.size w w') : Bg TB TR w' B g l L v := d.kp (Kp.of (F := fun _ => False) hb) fun _ _ h => h
theorem Bg.low {B2 : Nat} (d : Bg TB TR w B g l L v) (h : B2 ≤ B) : Bg TB TR w B2 g l L v :=
  ⟨d.bag, ⟨d.top.1, d.top.2.imp id fun ⟨a, b, c, d, e, r⟩ => ⟨a, b, c, d, by omega, r⟩⟩, ⟨d.row.1, d.row.2.imp id fun ⟨a, b, c, d, e, r⟩ => ⟨a, b, c, d, by omega, r⟩⟩, d.ne⟩
theorem Bg.nodes (d : Bg TB TR w B g l L v) : NodesAt w v L := ownNd_nodes d.row
theorem Bg.blocks (d : Bg TB TR w B g l L v) : ∀ k, bgF g v k → B ≤ k ∧ k < w.heap.size := fun k h => by
  rcases h with rfl | h
  · exact ⟨d.lt.1, d.lt.2.1⟩
  · exact ⟨(d.lt.2.2 k h).1, (d.lt.2.2 k h).2.1⟩
/-- a bag of new blocks, behind what keeps old ones -/
theorem Bg.apart {TB TR : TypeId} {w : World} {B g g2 : Nat} {l l2 : Int} {L L2 : List Nd} {v v2 : Value} {N : Nat} (d : Bg TB TR w B g l L v) (e : Bg TB TR w N g2 l2 L2 v2) (h : ∀ k, bgF g v k → k < N) : ∀ k, bgF g v k → ¬ bgF g2 v2 k := fun k hk q => by
  have := h k hk
  have := (e.blocks k q).1
  omega
end
theorem box3 (w : World) (TO : TypeId) (a b c : Value) : (w.alloc (.cells #[a, b, c] TO)).ownsRow w.heap.size TO 3 (.slice (some ⟨w.heap.size, 0, none⟩) 1 1) 1 [a, b, c] :=
  World.ownsRow_lit (base := w.heap.size) (e := TO) (size := 3) w #[a, b, c] 1 (Nat.le_refl _) (by unfold maxLen; omega) rfl
/-- a bag whose row is made ahead of its box -/
theorem Bg.make {TB TR : TypeId} {w : World} {B : Nat} {l : Int} {L : List Nd} {v : Value} (hne : TB ≠ TR) (c : BagC l L) (r : OwnNd TR w B v L) (hB : B ≤ w.heap.size) :
    Bg TB TR (w.alloc (.cells #[.int .i64 l, .int .i64 (sumC L), v] TB)) B w.heap.size l L v :=
  ⟨c, own_low (box3 w TB _ _ _) hB, World.ownsRow.alloc r _, hne⟩
theorem nods_set3 (L : List Nd) (k : Nat) (x y : Int) : nods (L.set k (x, y)) = ((nods L).set (k * 2) (.int .i64 x)).set (k * 2 + 1) (.int .i64 y) := by
  induction L generalizing k with
  | nil => simp [nods]
  | cons n L ih =>
    cases k with
    | zero => rfl
    | succ k =>
      rw [List.set_cons_succ, nods, ih, nods, show (k + 1) * 2 = k * 2 + 1 + 1 by omega]
      rfl
theorem nods_set4 (L : List Nd) {k : Nat} (hk : k < L.length) (y : Int) : nods (L.set k ((L.getD k nz).1, y)) = (nods L).set (k * 2 + 1) (.int .i64 y) := by
  rw [nods_set3]
  congr 1
  refine List.ext_getElem? fun i => ?_
  rw [List.getElem?_set]
  split
  · rename_i e; subst e
    rw [if_pos (by rw [nods_len]; omega)]
    exact (nods_get L k hk).1.symm
  · rfl

end Go.Proofs.YtfmgcabgbnfjlaaGreat
