/- Arguments that are structs of two whole numbers, and slices of such, opened: what the reading of such an argument says of its cells. No program is spoken of here. -/
import Derived.Test.YtmcbfoimgefaoaaGreatRow
import Derived.WalkKit
import Derived.ProofKit
import Derived.OpenShut
import Derived.Lib.SmallJoins
import Derived.Laws.Cover2
import Derived.ChangeMaps5
import Derived.Deep.Slices
import Derived.ChangeSame
import Derived.WideShapes
namespace Go.Proofs.YtmcbfoimgefaoaaGreat
set_option linter.unusedVariables false
open Go.RowKit Go.ChangeShapes Go.WideShapes Go.Deep Go.Joins

section
variable {H : Type} {enc : TypeId × Value → H} {P : Program} {w : World} {base : Nat} {spare : Nat → Bool} {held : Bool}

/-- a struct of two whole numbers, by value -/
theorem open_pair {r : Reach} {b0 : Nat} {t : TypeId} {f0 f1 : Field} {v : Value} {d : DataW H} {p : List MemPlace} (hs : P.underlying t = some (.struct #[f0, f1])) (hone : oneCellFields P #[f0, f1] = true) (hC : P.cellsOf t = 2)
    (h0 : P.underlying f0.type = some (.int .i64)) (h1 : P.underlying f1.type = some (.int .i64)) (hv : Value.okWide P w r b0 t v) (h : DataW.Trod enc P w base spare held t v d p) :
    ∃ a b, v = .agg #[.int .i64 a, .int .i64 b] ∧ (Lit.int .i64 a).wf = true ∧ (Lit.int .i64 b).wf = true := by
  obtain ⟨v0, v1, y0, y1, n, rfl, _, _, g0, g1⟩ := open_agg2 hs hone hC hv h
  obtain ⟨a, e0, _, wa⟩ := DataW.trod_int h0 g0
  obtain ⟨b, e1, _, wb⟩ := DataW.trod_int h1 g1
  injection e0 with e0 _
  injection e1 with e1 _
  subst e0 e1
  exact ⟨a, b, rfl, wa, wb⟩

/-- a slice of structs of two whole numbers -/
theorem open_pairs {r : Reach} {b0 : Nat} {t e : TypeId} {f0 f1 : Field} {v : Value} {d : DataW H} {p : List MemPlace} (ht : P.underlying t = some (.slice e)) (hs : P.underlying e = some (.struct #[f0, f1])) (hone : oneCellFields P #[f0, f1] = true) (hC : P.cellsOf e = 2)
    (h0 : P.underlying f0.type = some (.int .i64)) (h1 : P.underlying f1.type = some (.int .i64)) (hv : Value.okWide P w r b0 t v) (h : DataW.Trod enc P w base spare held t v d p) :
    ∃ (A : Option Addr) (n c : Nat) (a x : Nat → Int), v = .slice A n c ∧ n ≤ maxLen ∧ Pairs w A n a x ∧
      ∀ k, k < n → (-9223372036854775808 ≤ a k ∧ a k ≤ 9223372036854775807) ∧ (-9223372036854775808 ≤ x k ∧ x k ≤ 9223372036854775807) := by
  obtain ⟨A, n, c, rfl⟩ := okWide_slice ht hv
  obtain ⟨fuel, hf⟩ := h
  rcases open_slice ht hf with ⟨hcs, _⟩ | ⟨ad, len, cap, m, k, D, Pl, hcs, _, hl, hm, hmm, _, hi⟩
  · simp [Value.cells] at hcs
    obtain ⟨rfl, rfl, rfl⟩ := hcs
    exact ⟨none, 0, 0, fun _ => 0, fun _ => 0, rfl, by unfold maxLen; omega, fun h => by omega, fun k h => by omega⟩
  · simp [Value.cells] at hcs
    obtain ⟨rfl, rfl, rfl⟩ := hcs
    have hnm : n ≤ m := by rw [hmm]; split <;> omega
    have key : ∀ i, i < n → ∃ q : Int × Int, w.cell? (ad.add (i * 2)) = some (.int .i64 q.1) ∧ w.cell? (ad.add (i * 2 + 1)) = some (.int .i64 q.2) ∧ (Lit.int .i64 q.1).wf = true ∧ (Lit.int .i64 q.2).wf = true := by
      intro i hin
      obtain ⟨cs', hc, ht'⟩ := hi i (by omega)
      rw [hC] at hc
      obtain ⟨_, hcl, hat⟩ := World.cells?_some hc
      obtain ⟨y0, y1, n', _, _, g0, g1⟩ := trod_struct2 hs ht'
      obtain ⟨o0, k0⟩ := hone_of hone 0 f0 rfl
      obtain ⟨o1, k1⟩ := hone_of hone 1 f1 rfl
      rw [o0, k0] at g0
      rw [o1, k1] at g1
      match cs', hcl with
      | [u, v], _ =>
        obtain ⟨a, e0, _, wa⟩ := DataW.trod_int h0 g0
        obtain ⟨b, e1, _, wb⟩ := DataW.trod_int h1 g1
        simp at e0 e1
        subst e0 e1
        refine ⟨(a, b), ?_, ?_, wa, wb⟩
        · have := hat 0 (by omega)
          rw [add_add] at this; simpa using this
        · have := hat 1 (by omega)
          rw [add_add] at this; simpa using this
    obtain ⟨q, hq⟩ := choose_lt key
    have bd : ∀ k, k < n → (-9223372036854775808 ≤ (q k).1 ∧ (q k).1 ≤ 9223372036854775807) ∧ (-9223372036854775808 ≤ (q k).2 ∧ (q k).2 ≤ 9223372036854775807) := fun k hk => ⟨int_bd (hq k hk).2.2.1, int_bd (hq k hk).2.2.2⟩
    refine ⟨some ad, n, c, fun i => (q i).1, fun i => (q i).2, rfl, by omega, fun h0 => ?_, bd⟩
    have hsp := World.cell?_spot (hq 0 h0).1
    have hlt : ad.block < w.heap.size := by
      have hc := (hq 0 h0).1
      rw [Nat.zero_mul] at hc
      have e0 : ad.add 0 = ad := by simp [Addr.add]
      rw [e0] at hc
      rcases Nat.lt_or_ge ad.block w.heap.size with g | g
      · exact g
      · simp [World.cell?, Array.getElem?_eq_none g] at hc
    rw [Nat.zero_mul] at hsp
    have e0 : ad.add 0 = ad := by simp [Addr.add]
    rw [e0] at hsp
    obtain ⟨b, o, s⟩ := ad
    dsimp only at hsp
    subst hsp
    have ea : ∀ i, (⟨b, o, none⟩ : Addr).add i = ⟨b, o + i, none⟩ := by
      intro i; unfold Addr.add; split
      · rename_i h; subst h; rfl
      · rfl
    refine ⟨b, o, rfl, hlt, fun k hk => ?_⟩
    have h2 := hq k hk
    rw [ea, ea] at h2
    exact ⟨h2.1, by rw [Nat.add_assoc]; exact h2.2.1⟩
end

end Go.Proofs.YtmcbfoimgefaoaaGreat
