/- Arguments that are slices of whole numbers, and structs of a slice of nodes and three numbers, opened. No program is spoken of here. -/
import Derived.Test.YtfmgcabgbnfjlaaOpQ
import Derived.Test.YtfmgcabgbnfjlaaMmy
import Derived.ChangeSlices
namespace Go.Proofs.Ytfmgcabgbnfjlaa
set_option linter.unusedVariables false
open Go.RowKit Go.ChangeShapes Go.WideShapes Go.Deep Go.Joins

/-- numbers that a slice of them may hold -/
def BdZ (T : List Int) : Prop := ∀ t ∈ T, -9223372036854775808 ≤ t ∧ t ≤ 9223372036854775807
section
variable {H : Type} {enc : TypeId × Value → H} {P : Program} {w : World} {base : Nat} {spare : Nat → Bool} {held : Bool}
theorem open_slintZ {r : Reach} {b0 : Nat} {t e : TypeId} {v : Value} {d : DataW H} {p : List MemPlace} (ht : P.underlying t = some (.slice e)) (he : P.underlying e = some (.int .i64)) (hC : P.cellsOf e = 1)
    (hv : Value.okWide P w r b0 t v) (h : DataW.Trod enc P w base spare held t v d p) : ∃ (A : Option Addr) (n c : Nat) (T : List Int), v = .slice A n c ∧ IntsAt w (.slice A n c) T ∧ BdZ T ∧ n ≤ 9223372036854775807 := by
  obtain ⟨A, n, c, rfl⟩ := okWide_slice ht hv
  obtain ⟨fuel, hf⟩ := h
  rcases Go.ChangeShapes.open_ints ht he hC hf with ⟨hcs, _⟩ | ⟨ad, len, cap, zs, hcs, hb, hl, hm, hlen, _, hcell, hwf⟩
  · simp [Value.cells] at hcs
    obtain ⟨rfl, rfl, rfl⟩ := hcs
    exact ⟨none, 0, 0, [], rfl, ints_nil w, fun t h => by simp at h, by omega⟩
  · simp [Value.cells] at hcs
    obtain ⟨rfl, rfl, rfl⟩ := hcs
    have hnz : n ≤ zs.length := by rw [hlen]; split <;> omega
    have hTl : (zs.take n).length = n := by simp; omega
    refine ⟨some ad, n, c, zs.take n, rfl, ?_, fun t ht => ?_, by unfold maxLen at hm; omega⟩
    · refine ⟨some ad, c, by rw [hTl], fun h0 => ?_⟩
      rw [hTl] at h0
      have hsp := World.cell?_spot (hcell 0 (by omega))
      have e0 : ad.add 0 = ad := by simp [Addr.add]
      have hlt : ad.block < w.heap.size := by
        have hc := hcell 0 (by omega)
        rw [e0] at hc
        rcases Nat.lt_or_ge ad.block w.heap.size with g | g
        · exact g
        · simp [World.cell?, Array.getElem?_eq_none g] at hc
      rw [e0] at hsp
      obtain ⟨b, o, s⟩ := ad
      dsimp only at hsp
      subst hsp
      have ea : ∀ i, (⟨b, o, none⟩ : Addr).add i = ⟨b, o + i, none⟩ := by
        intro i; unfold Addr.add; split
        · rename_i h; subst h; rfl
        · rfl
      refine ⟨b, o, rfl, hlt, fun k hk => ?_⟩
      rw [hTl] at hk
      have h2 := hcell k (by omega)
      rw [ea] at h2
      rw [h2]
      have hk2 : k < (zs.take n).length := by omega
      simp [List.getD_eq_getElem?_getD, hk]
    · exact int_bd (hwf t (List.mem_of_mem_take ht))

/-- a struct of a slice of nodes and three numbers -/
theorem open_asked {r : Reach} {b0 : Nat} {t e ei : TypeId} {g0 g1 f0 f1 : Field} {v : Value} {d : DataW H} {p : List MemPlace} (hs : P.underlying t = some (.struct #[g0, g1])) (hC : P.cellsOf t = 4) (o0 : g0.offset = 0) (k0 : P.cellsOf g0.type = 1) (o1 : g1.offset = 1) (k1 : P.cellsOf g1.type = 3)
    (ht : P.underlying g0.type = some (.slice e)) (he : P.underlying e = some (.struct #[f0, f1])) (hone : oneCellFields P #[f0, f1] = true) (hCe : P.cellsOf e = 2) (h0 : P.underlying f0.type = some (.int .i64)) (h1 : P.underlying f1.type = some (.int .i64))
    (hm : P.underlying g1.type = some (.array 3 ei)) (hei : P.underlying ei = some (.int .i64)) (hci : P.cellsOf ei = 1)
    (hv : Value.okWide P w r b0 t v) (h : DataW.Trod enc P w base spare held t v d p) :
    ∃ (A : Option Addr) (n c : Nat) (L : List Nd) (a b x : Int), v = .agg #[.slice A n c, .int .i64 a, .int .i64 b, .int .i64 x] ∧ NodesAt w (.slice A n c) L ∧ NBds L ∧ n ≤ 9223372036854775807 ∧ (Lit.int .i64 a).wf = true ∧ (Lit.int .i64 b).wf = true ∧ (Lit.int .i64 x).wf = true := by
  obtain ⟨cs, rfl, hsz⟩ := okWide_struct hs hv
  obtain ⟨fuel, hf⟩ := h
  obtain ⟨y0, y1, n', _, _, q0, q1⟩ := trod_struct2 hs hf
  rw [o0, k0] at q0
  rw [o1, k1] at q1
  rw [hC] at hsz
  obtain ⟨l⟩ := cs
  match l, hsz with
  | [u0, u1, u2, u3], _ =>
    simp [Value.cells] at q0 q1
    obtain ⟨A, n, c, L, e0, hn, hb, hmm⟩ := nodes_of_trod ht he hone hCe h0 h1 q0
    obtain ⟨xs, m, _, _, hlen, hxs, hel⟩ := DataW.trod_array hm q1
    have key : ∀ i, i < 3 → ∃ a, [u1, u2, u3][i]? = some (.int .i64 a) ∧ (Lit.int .i64 a).wf = true := by
      intro i hi
      have g := hel i hi
      rw [hci, Nat.mul_one] at g
      have hx : i < xs.length := by omega
      rw [List.getElem?_eq_getElem hx] at g
      obtain ⟨a, e1, _, wa⟩ := DataW.trod_int hei g
      refine ⟨a, ?_, wa⟩
      have e2 := congrArg (fun l => l[0]?) e1
      simpa [List.getElem?_take] using e2
    obtain ⟨a, e1, wa⟩ := key 0 (by omega)
    obtain ⟨b, e2, wb⟩ := key 1 (by omega)
    obtain ⟨x, e3, wx⟩ := key 2 (by omega)
    injection e0 with e0 _
    simp at e1 e2 e3
    subst e0 e1 e2 e3
    exact ⟨A, n, c, L, a, b, x, rfl, hn, hb, hmm, wa, wb, wx⟩
end

end Go.Proofs.Ytfmgcabgbnfjlaa
