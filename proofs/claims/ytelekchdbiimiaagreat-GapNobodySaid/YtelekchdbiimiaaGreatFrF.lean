/- A loop over a function whose body leaves all blocks but some boxes. No program is spoken of here. -/
import Derived.Test.YtelekchdbiimiaaGreatPoQ
import Derived.Test.YtelekchdbiimiaaGreatMmy
namespace Go.Proofs.YtelekchdbiimiaaGreat
set_option linter.unusedVariables false
set_option maxRecDepth 100000
open Go.RowKit Go.Shelf
/-- blocks that hold cells, other than some -/
def FrF (F : Nat → Prop) (W : World) (k : Nat) : Prop := (∃ o : Obj, W.heap[k]? = some o ∧ o.isCells = true) ∧ ¬ F k
theorem frF (F : Nat → Prop) : Frm (FrF F) := by
  refine ⟨fun h => h.1, fun {W W' row k} hg hr h => ?_⟩
  obtain ⟨⟨o, ho, hc⟩, hk⟩ := h
  have e1 : W'.heap[k]? = W.heap[k]? := hg.block k (Array.getElem?_eq_some_iff.1 ho).1 (fun e => by
    obtain ⟨ob, h1, h2⟩ := hr k e.symm
    rw [ho] at h1; injection h1 with h1; rw [← h1, hc] at h2; cases h2)
  exact ⟨⟨o, e1.trans ho, hc⟩, hk⟩
theorem frF_kp {F : Nat → Prop} {W W' : World} (p : Kp F W W') : KpF (FrF F) W W' := by
  refine ⟨p.size, fun k hk hf => ?_⟩
  obtain ⟨⟨o, ho, hc⟩, hn⟩ := hf
  have e1 := p.block k hk hn
  exact ⟨e1, ⟨o, e1.trans ho, hc⟩, hn⟩
theorem frF_others {F : Nat → Prop} {W W' : World} (p : Kp F W W') (h : ∀ k, k < W.heap.size → F k → ∃ o : Obj, W.heap[k]? = some o ∧ o.isCells = true) : KeepsOthers W W' := by
  refine ⟨p.size, fun k o hk ho => ?_⟩
  have lt := (Array.getElem?_eq_some_iff.1 hk).1
  refine (p.block k lt fun q => ?_).trans hk
  obtain ⟨o', h1, h2⟩ := h k lt q
  rw [hk] at h1
  injection h1 with h1
  rw [← h1, ho] at h2
  cases h2
theorem frF_new {F : Nat → Prop} {B : Nat} {W0 : World} (hF : ∀ k, F k → k < B) (hB : B ≤ W0.heap.size) : ∀ W W2 k, Below W0.heap.size W0 W → Below W.heap.size W W2 → W.heap.size ≤ k → (∃ o : Obj, W2.heap[k]? = some o ∧ o.isCells = true) → FrF F W2 k :=
  fun W W2 k h1 h2 h3 h4 => ⟨h4, fun q => by have := hF k q; have := h1.size; omega⟩
end Go.Proofs.YtelekchdbiimiaaGreat
