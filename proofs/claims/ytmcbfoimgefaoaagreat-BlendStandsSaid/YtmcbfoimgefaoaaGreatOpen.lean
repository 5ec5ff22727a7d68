/- Arguments that are arrays of whole numbers, opened: what the reading of such an argument says of its cells. No program is spoken of here. -/
import Derived.WalkKit
import Derived.ProofKit
import Derived.OpenShut
namespace Go.Proofs.YtmcbfoimgefaoaaGreat
set_option linter.unusedVariables false
open Go.RowKit

section
variable {H : Type} {enc : TypeId × Value → H} {P : Program} {w : World} {base : Nat} {spare : Nat → Bool} {held : Bool}

/-- an array of n numbers of one kind, as a value -/
theorem open_arr {n : Nat} {t e : TypeId} {K : IntKind} {r : Reach} {b0 : Nat} {v : Value} {d : DataW H} {p : List MemPlace} (ht : P.underlying t = some (.array n e)) (he : P.underlying e = some (.int K))
    (hce : P.cellsOf e = 1) (hct : P.cellsOf t = n) (hv : Value.okWide P w r b0 t v) (h : DataW.Trod enc P w base spare held t v d p) :
    ∃ l : List Int, l.length = n ∧ v = .agg (l.map (Value.int K)).toArray ∧ ∀ (i : Nat) (x : Int), l[i]? = some x → (Lit.int K x).wf = true := by
  unfold Value.okWide at hv
  rw [ht] at hv
  obtain ⟨cs, rfl, hsz, _⟩ := hv
  obtain ⟨fuel, hf⟩ := h
  obtain ⟨xs, m, _, _, hlen, hxs, hel⟩ := DataW.trod_array ht hf
  simp only [Value.cells] at hlen hel
  rw [hct] at hsz hlen
  have key : ∀ i, i < n → ∃ x, cs.toList[i]? = some (.int K x) ∧ (Lit.int K x).wf = true := by
    intro i hi
    have h1 := hel i hi
    rw [hce, Nat.mul_one] at h1
    have hx : i < xs.length := by omega
    rw [List.getElem?_eq_getElem hx] at h1
    obtain ⟨x, e1, _, wf⟩ := DataW.trod_int he h1
    refine ⟨x, ?_, wf⟩
    have e2 : (cs.toList.drop i)[0]? = some (.int K x) := by
      have := congrArg (fun l => l[0]?) e1
      simpa [List.getElem?_take] using this
    simpa using e2
  refine ⟨cs.toList.map intOf, by simp [hsz], ?_, ?_⟩
  · congr 1
    apply Array.ext'
    rw [List.toList_toArray, List.map_map]
    apply List.ext_getElem?
    intro i
    by_cases hi : i < n
    · obtain ⟨x, hx, _⟩ := key i hi
      rw [List.getElem?_map, hx]; rfl
    · rw [List.getElem?_eq_none (by omega), List.getElem?_eq_none (by simp; omega)]
  · intro i x hx
    rw [List.getElem?_map] at hx
    by_cases hi : i < n
    · obtain ⟨y, hy, wf⟩ := key i hi
      rw [hy] at hx
      simp only [Option.map_some, Option.some.injEq, intOf] at hx
      rw [← hx]; exact wf
    · rw [List.getElem?_eq_none (by omega)] at hx; cases hx

theorem list_two {α : Type} (l : List α) (h : l.length = 2) : ∃ a b, l = [a, b] := by
  match l, h with
  | [a, b], _ => exact ⟨a, b, rfl⟩
theorem list_four {α : Type} (l : List α) (h : l.length = 4) : ∃ a b c d, l = [a, b, c, d] := by
  match l, h with
  | [a, b, c, d], _ => exact ⟨a, b, c, d, rfl⟩
theorem open_two {t e : TypeId} {K : IntKind} {r : Reach} {b0 : Nat} {v : Value} {d : DataW H} {p : List MemPlace} (ht : P.underlying t = some (.array 2 e)) (he : P.underlying e = some (.int K))
    (hce : P.cellsOf e = 1) (hct : P.cellsOf t = 2) (hv : Value.okWide P w r b0 t v) (h : DataW.Trod enc P w base spare held t v d p) :
    ∃ a b, v = .agg #[.int K a, .int K b] ∧ (Lit.int K a).wf = true ∧ (Lit.int K b).wf = true := by
  obtain ⟨l, hl, rfl, hw⟩ := open_arr ht he hce hct hv h
  obtain ⟨a, b, rfl⟩ := list_two l hl
  exact ⟨a, b, rfl, hw 0 a rfl, hw 1 b rfl⟩
theorem open_four {t e : TypeId} {K : IntKind} {r : Reach} {b0 : Nat} {v : Value} {d : DataW H} {p : List MemPlace} (ht : P.underlying t = some (.array 4 e)) (he : P.underlying e = some (.int K))
    (hce : P.cellsOf e = 1) (hct : P.cellsOf t = 4) (hv : Value.okWide P w r b0 t v) (h : DataW.Trod enc P w base spare held t v d p) :
    ∃ a b c d, v = .agg #[.int K a, .int K b, .int K c, .int K d] ∧ (Lit.int K a).wf = true ∧ (Lit.int K b).wf = true ∧ (Lit.int K c).wf = true ∧ (Lit.int K d).wf = true := by
  obtain ⟨l, hl, rfl, hw⟩ := open_arr ht he hce hct hv h
  obtain ⟨a, b, c, d, rfl⟩ := list_four l hl
  exact ⟨a, b, c, d, rfl, hw 0 a rfl, hw 1 b rfl, hw 2 c rfl, hw 3 d rfl⟩
end

end Go.Proofs.YtmcbfoimgefaoaaGreat
