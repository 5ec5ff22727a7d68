/- Arguments that are arrays of three whole numbers, and arrays of two slices of structs of two whole numbers, opened. No program is spoken of here. -/
import Derived.Test.YtfleaaokbjgljaaOpen
import Derived.Test.YtfleaaokbjgljaaOpen6
namespace Go.Proofs.Ytfleaaokbjgljaa
set_option linter.unusedVariables false
open Go.RowKit Go.ChangeShapes Go.WideShapes Go.Deep Go.Joins

section
variable {H : Type} {enc : TypeId × Value → H} {P : Program} {w : World} {base : Nat} {spare : Nat → Bool} {held : Bool}
theorem list_three {α : Type} (l : List α) (h : l.length = 3) : ∃ a b c, l = [a, b, c] := by
  match l, h with
  | [a, b, c], _ => exact ⟨a, b, c, rfl⟩
theorem open_three {t e : TypeId} {K : IntKind} {r : Reach} {b0 : Nat} {v : Value} {d : DataW H} {p : List MemPlace} (ht : P.underlying t = some (.array 3 e)) (he : P.underlying e = some (.int K))
    (hce : P.cellsOf e = 1) (hct : P.cellsOf t = 3) (hv : Value.okWide P w r b0 t v) (h : DataW.Trod enc P w base spare held t v d p) :
    ∃ a b c, v = .agg #[.int K a, .int K b, .int K c] ∧ (Lit.int K a).wf = true ∧ (Lit.int K b).wf = true ∧ (Lit.int K c).wf = true := by
  obtain ⟨l, hl, rfl, hw⟩ := open_arr ht he hce hct hv h
  obtain ⟨a, b, c, rfl⟩ := list_three l hl
  exact ⟨a, b, c, rfl, hw 0 a rfl, hw 1 b rfl, hw 2 c rfl⟩
theorem open_nodes2 {r : Reach} {b0 : Nat} {t s e : TypeId} {f0 f1 : Field} {v : Value} {d : DataW H} {p : List MemPlace} (ht : P.underlying t = some (.array 2 s)) (hts : P.underlying s = some (.slice e)) (hs : P.underlying e = some (.struct #[f0, f1])) (hone : oneCellFields P #[f0, f1] = true) (hC : P.cellsOf e = 2)
    (h0 : P.underlying f0.type = some (.int .i64)) (h1 : P.underlying f1.type = some (.int .i64)) (hcs : P.cellsOf s = 1) (hct : P.cellsOf t = 2) (hv : Value.okWide P w r b0 t v) (h : DataW.Trod enc P w base spare held t v d p) :
    ∃ (A : Option Addr) (n c : Nat) (L : List Nd) (A2 : Option Addr) (n2 c2 : Nat) (L2 : List Nd), v = .agg #[.slice A n c, .slice A2 n2 c2] ∧ NodesAt w (.slice A n c) L ∧ NBds L ∧ n ≤ 9223372036854775807 ∧ NodesAt w (.slice A2 n2 c2) L2 ∧ NBds L2 ∧ n2 ≤ 9223372036854775807 := by
  unfold Value.okWide at hv
  rw [ht] at hv
  obtain ⟨cs, rfl, hsz, _⟩ := hv
  obtain ⟨fuel, hf⟩ := h
  obtain ⟨xs, m, _, _, hlen, hxs, hel⟩ := DataW.trod_array ht hf
  simp only [Value.cells] at hlen hel
  rw [hct] at hsz hlen
  have key : ∀ i, i < 2 → ∃ (A : Option Addr) (n c : Nat) (L : List Nd), cs.toList[i]? = some (.slice A n c) ∧ NodesAt w (.slice A n c) L ∧ NBds L ∧ n ≤ 9223372036854775807 := by
    intro i hi
    have g := hel i hi
    rw [hcs, Nat.mul_one] at g
    have hx : i < xs.length := by omega
    rw [List.getElem?_eq_getElem hx] at g
    obtain ⟨A, n, c, L, e1, q1, q2, q3⟩ := nodes_of_trod hts hs hone hC h0 h1 g
    refine ⟨A, n, c, L, ?_, q1, q2, q3⟩
    have e2 : (cs.toList.drop i)[0]? = some (.slice A n c) := by
      have := congrArg (fun l => l[0]?) e1
      simpa [List.getElem?_take] using this
    simpa using e2
  obtain ⟨A, n, c, L, e1, q1, q2, q3⟩ := key 0 (by omega)
  obtain ⟨A2, n2, c2, L2, e4, q4, q5, q6⟩ := key 1 (by omega)
  refine ⟨A, n, c, L, A2, n2, c2, L2, ?_, q1, q2, q3, q4, q5, q6⟩
  congr 1
  apply Array.ext'
  obtain ⟨a, b, e⟩ := list_two cs.toList (by rw [Array.length_toList]; exact hsz)
  rw [e] at e1 e4 ⊢
  simp at e1 e4
  rw [e1, e4]
end

end Go.Proofs.Ytfleaaokbjgljaa
