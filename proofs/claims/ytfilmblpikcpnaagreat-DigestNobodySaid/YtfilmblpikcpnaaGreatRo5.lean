/- The project's package roll: Fold. -/
import Derived.Test.YtfilmblpikcpnaaGreatRo
import Derived.Test.YtfilmblpikcpnaaGreatRo4
import Derived.Test.YtfilmblpikcpnaaGreatMmy
import Derived.StillTailTactics
namespace Go.Proofs.YtfilmblpikcpnaaGreat
set_option linter.unusedVariables false
open Go.RowKit

theorem ownNd_last {T : TypeId} {w : World} {B : Nat} {v : Value} {P : List Nd} {y : Nd} (h : OwnNd T w B v (P ++ [y])) : ∃ g cap, v = .slice (some ⟨g, 0, none⟩) (P.length + 1) cap ∧ B ≤ g ∧ g < w.heap.size ∧ P.length + 1 ≤ cap ∧ w.cell? ⟨g, P.length * 2, none⟩ = some (.int .i64 y.1) ∧ w.cell? ⟨g, P.length * 2 + 1, none⟩ = some (.int .i64 y.2) ∧ w.frozen? ⟨g, P.length * 2 + 1, none⟩ = false := by
  have hf := h
  rcases ownNd_form h with ⟨_, h0⟩ | ⟨g, cap, rfl, hb, hg, hn, hc, hin⟩
  · simp at h0
  · have e : (P ++ [y]).length = P.length + 1 := by simp
    have hl := hin.2 P.length (by simp)
    have eg : (P ++ [y]).getD P.length nz = y := by simp [List.getD_eq_getElem?_getD]
    rw [eg, Nat.zero_add] at hl
    rw [e] at hf hn ⊢
    exact ⟨g, cap, rfl, hb, hg, hn, hl.1, hl.2, World.ownsRow.frozenAt (by unfold OwnNd at hf; rw [e] at hf; exact hf) _⟩
theorem nd_cases (F : List Nd) : F = [] ∨ ∃ P y, F = P ++ [y] := by
  rcases List.eq_nil_or_concat F with h | ⟨P, y, h⟩
  · exact .inl h
  · exact .inr ⟨P, y, by rw [h, List.concat_eq_append]⟩
end Go.Proofs.YtfilmblpikcpnaaGreat
