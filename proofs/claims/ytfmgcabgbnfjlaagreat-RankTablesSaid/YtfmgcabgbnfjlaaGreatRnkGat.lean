/- Two boxes with rows of nodes that grow: memory alone. No program is spoken of here. -/
import Derived.Test.YtfmgcabgbnfjlaaGreatKeep
import Derived.Test.YtfmgcabgbnfjlaaGreatPoQ
import Derived.Test.YtfmgcabgbnfjlaaGreatRk
namespace Go.Proofs.YtfmgcabgbnfjlaaGreat
set_option linter.unusedVariables false
open Go.RowKit

/-- two boxes, each with a row of the call's own -/
structure RnkGat (TB TR : TypeId) (w : World) (B bf bl : Nat) (vf vl : Value) (F G : List Nd) : Prop where
  f : w.ownsRow B TB 1 (.slice (some ⟨bf, 0, none⟩) 1 1) 1 [vf]
  l : w.ownsRow B TB 1 (.slice (some ⟨bl, 0, none⟩) 1 1) 1 [vl]
  ne : bf ≠ bl
  rf : OwnNd TR w B vf F
  rl : OwnNd TR w B vl G
  ap : ∀ k, vf.ownBlock = some k → vl.ownBlock ≠ some k
variable {TB TR : TypeId} {w : World} {B bf bl : Nat} {vf vl : Value} {F G : List Nd}
theorem RnkGat.swap (h : RnkGat TB TR w B bf bl vf vl F G) : RnkGat TB TR w B bl bf vl vf G F :=
  ⟨h.l, h.f, Ne.symm h.ne, h.rl, h.rf, fun k a b => h.ap k b a⟩
theorem RnkGat.below {w' : World} (h : RnkGat TB TR w B bf bl vf vl F G) (q : Below w.heap.size w w') : RnkGat TB TR w' B bf bl vf vl F G :=
  ⟨own_below h.f q, own_below h.l q, h.ne, own_below h.rf q, own_below h.rl q, h.ap⟩
theorem RnkGat.cells (h : RnkGat TB TR w B bf bl vf vl F G) : w.cell? ⟨bf, 0, none⟩ = some vf ∧ w.frozen? ⟨bf, 0, none⟩ = false ∧ bf < w.heap.size ∧ w.cell? ⟨bl, 0, none⟩ = some vl ∧ w.frozen? ⟨bl, 0, none⟩ = false ∧ bl < w.heap.size :=
  ⟨h.f.cellAt 0 (by omega), h.f.frozenAt 0, (h.f.lt bf rfl).2, h.l.cellAt 0 (by omega), h.l.frozenAt 0, (h.l.lt bl rfl).2⟩
theorem gat_box {TB TR : TypeId} {w : World} {B1 B2 b n : Nat} {v x : Value} {xs ys : List Value} {s1 s2 m : Nat} (h : w.ownsRow B1 TB s1 (.slice (some ⟨b, 0, none⟩) m m) n xs) (r : w.ownsRow B2 TR s2 v m ys) (t : TB ≠ TR) : ∀ k, v.ownBlock = some k → k ≠ b := fun k e q => by
  rcases own_apart h r t with z | z
  · simp [Value.ownBlock] at z
  · exact z (by rw [e, q]; rfl)
theorem gat_ne {TB TR : TypeId} {w : World} {B1 B2 b n m s1 s2 : Nat} {v : Value} {xs ys : List Value} (h : w.ownsRow B1 TB s1 (.slice (some ⟨b, 0, none⟩) 1 1) n xs) (r : w.ownsRow B2 TR s2 v m ys) (t : TB ≠ TR) : ∀ k, v.ownBlock = some k → k ≠ b := fun k e q => by
  rcases own_apart h r t with z | z
  · simp [Value.ownBlock] at z
  · exact z (by rw [e, q]; rfl)
/-- the first row has grown, and stands in its box anew -/
theorem RnkGat.put {w1 : World} {o : Obj} {v' : Value} {F' : List Nd} (h : RnkGat TB TR w B bf bl vf vl F G) (t : TB ≠ TR) (ho : OwnNd TR w1 B v' F') (hg : (w.alloc o).grownBy w1 vf.ownBlock) (ha : v'.ownBlock = vf.ownBlock ∨ v'.ownBlock = some (w.heap.size + 1)) :
    RnkGat TB TR (w1.setCell ⟨bf, 0, none⟩ v') B bf bl v' vl F' G ∧ Kp (fun i => i = bf ∨ vf.ownBlock = some i) w (w1.setCell ⟨bf, 0, none⟩ v') ∧ w1.frozen? ⟨bf, 0, none⟩ = false ∧ bf < w1.heap.size ∧ w1.cell? ⟨bf, 0, none⟩ = some vf := by
  have k1 : Kp (fun i => vf.ownBlock = some i) w w1 := ((Kp.of (F := fun i => vf.ownBlock = some i) (below_one w o)).trans (Kp.grown hg) (fun k _ h => h.symm))
  have f1 := own_kp h.f k1 fun k e q => gat_ne h.f h.rf t k q (by simp [Value.ownBlock] at e; exact e.symm)
  have l1 := own_kp h.l k1 fun k e q => gat_ne h.l h.rf t k q (by simp [Value.ownBlock] at e; exact e.symm)
  have rl1 := own_kp h.rl k1 fun k e q => h.ap k q e
  have ks := Kp.setCell w1 ⟨bf, 0, none⟩ v'
  refine ⟨⟨(f1.stored 0 v').1, own_kp l1 ks fun k e q => ?_, h.ne, own_kp ho ks fun k e q => gat_ne f1 ho t k e q, own_kp rl1 ks fun k e q => gat_ne f1 rl1 t k e q, fun k e q => ?_⟩, (k1.mono fun k _ q => .inr q).trans ks fun k _ q => .inl q, f1.frozenAt 0, (f1.lt bf rfl).2, f1.cellAt 0 (by omega)⟩
  · simp only [Value.ownBlock, Option.some.injEq] at e
    have z : k = bf := q
    exact h.ne (by omega)
  · rcases ha with z | z
    · exact h.ap k (by rw [← z]; exact e) q
    · rw [e] at z
      injection z with z
      have := (World.ownsRow.lt h.rl k q).2
      omega
theorem RnkGat.new (TB TR : TypeId) (w : World) : RnkGat TB TR ((w.alloc (.cells #[.slice none 0 0] TB)).alloc (.cells #[.slice none 0 0] TB)) w.heap.size w.heap.size (w.heap.size + 1) (.slice none 0 0) (.slice none 0 0) [] [] := by
  have e : (w.alloc (.cells #[.slice none 0 0] TB)).heap.size = w.heap.size + 1 := by simp
  have b := box1 (w.alloc (.cells #[.slice none 0 0] TB)) TB (.slice none 0 0)
  rw [e] at b
  exact ⟨(box1 w TB _).alloc _, own_low b (by omega), by omega, ownNd_nil .., ownNd_nil .., fun k h => by simp [Value.ownBlock] at h⟩
/-- rows of another type are kept -/
theorem RnkGat.far {TN : TypeId} {w' : World} {v : Value} {M : List Nd} {B2 : Nat} (h : RnkGat TB TR w B bf bl vf vl F G) (t1 : TB ≠ TN) (t2 : TR ≠ TN) (k : Kp (fun i => (i = bf ∨ vf.ownBlock = some i) ∨ i = bl ∨ vl.ownBlock = some i) w w') (o : OwnNd TN w B2 v M) : OwnNd TN w' B2 v M :=
  own_kp o k fun g e q => by
    rcases q with (q | q) | (q | q)
    · exact gat_ne h.f o t1 g e q
    · rcases own_apart h.rf o t2 with z | z
      · rw [q] at z; cases z
      · exact z (by rw [q, e])
    · exact gat_ne h.l o t1 g e q
    · rcases own_apart h.rl o t2 with z | z
      · rw [q] at z; cases z
      · exact z (by rw [q, e])
theorem RnkGat.low {w' : World} (h : RnkGat TB TR w B bf bl vf vl F G) (hB : B ≤ w.heap.size) (k : Kp (fun i => (i = bf ∨ vf.ownBlock = some i) ∨ i = bl ∨ vl.ownBlock = some i) w w') : Below B w w' :=
  k.below (fun g _ q => by
    rcases q with (q | q) | (q | q)
    · have := (h.f.lt bf rfl).1; omega
    · exact (World.ownsRow.lt h.rf g q).1
    · have := (h.l.lt bl rfl).1; omega
    · exact (World.ownsRow.lt h.rl g q).1) hB

end Go.Proofs.YtfmgcabgbnfjlaaGreat
