/- The project's package roll: lists put in order by merging: inOrder, Sorted. -/
import Derived.Test.YtafkkhjhdfmhpaaRo3
namespace Go.Proofs.Ytafkkhjhdfmhpaa
set_option linter.unusedVariables false
open Go.RowKit
attribute [local go_sem ↓] Go.wp_at_zero Go.wp_at_succ

/-- what a call that puts a list in order leaves -/
def OrdPost (L : List Nd) (w : World) (e : Ending) (w' : World) : Prop :=
  ∃ S A c, e = .returned (.slice A (List.length S) c) ∧ Srt idA L S ∧ NodesAt w' (.slice A S.length c) S ∧ (0 < S.length → ∃ a, A = some a) ∧ Below w.heap.size w w'
theorem ord_of {L S : List Nd} {w w' : World} {e : Ending} (h : RowPost S w e w') (hs : Srt idA L S) : OrdPost L w e w' := by
  obtain ⟨v, rfl, hn, hb⟩ := h
  have hf := hn
  obtain ⟨A, c, rfl, _, _, _, hat⟩ := hn
  exact ⟨S, A, c, rfl, hs, hf, fun h0 => by obtain ⟨b, o, e, _⟩ := hat h0; exact ⟨_, e⟩, hb⟩
theorem nodes_cut {w : World} {a : Addr} {n c k : Nat} {L : List Nd} (h : NodesAt w (.slice (some a) n c) L) (hk : k ≤ n) :
    NodesAt w (.slice (some a) k c) (L.take k) ∧ NodesAt w (.slice (some (advA a c k 2)) (n - k) (c - k)) (L.drop k) := by
  obtain ⟨hl, hlc, hcm, hat⟩ := nodes_cells h
  refine ⟨⟨_, c, by rw [List.length_take, Nat.min_eq_left (by omega)], by rw [List.length_take]; omega, hcm, fun e => by simp at e, hat.take⟩, ⟨_, c - k, by rw [List.length_drop, hl], by rw [List.length_drop]; omega, by omega, fun e => by simp at e, hat.adv hlc⟩⟩
end Go.Proofs.Ytafkkhjhdfmhpaa
