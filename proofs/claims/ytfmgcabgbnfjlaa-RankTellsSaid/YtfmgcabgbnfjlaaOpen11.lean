/- Arguments that are structs of a struct of three whole numbers and of a slice of nodes, and slices of bytes, opened. No program is spoken of here. -/
import Derived.Test.YtfmgcabgbnfjlaaOpQ
import Derived.Test.YtfmgcabgbnfjlaaOpen8
namespace Go.Proofs.Ytfmgcabgbnfjlaa
set_option linter.unusedVariables false
open Go.RowKit Go.ChangeShapes Go.WideShapes Go.Deep Go.Joins

/-- bytes that a slice of them may hold -/
def BdB (T : List Int) : Prop := ∀ t ∈ T, 0 ≤ t ∧ t ≤ 255
/-- a slice of bytes that is read -/
def BytesAt (w : World) (A : Option Addr) (T : List Int) : Prop := Cells w A T.length (fun k => .int .u8 (T.getD k 0))
theorem u8_bd {z : Int} (h : (Lit.int .u8 z).wf = true) : 0 ≤ z ∧ z ≤ 255 := by
  have := bounds_u8 h; omega
section
variable {H : Type} {enc : TypeId × Value → H} {P : Program} {w : World} {base : Nat} {spare : Nat → Bool} {held : Bool}
theorem open_loaded {r : Reach} {b0 : Nat} {t ts e : TypeId} {g0 g1 f0 f1 m0 m1 m2 : Field} {v : Value} {d : DataW H} {p : List MemPlace} (hs : P.underlying t = some (.struct #[g0, g1])) (hC : P.cellsOf t = 4) (o0 : g0.offset = 0) (k0 : P.cellsOf g0.type = 3) (o1 : g1.offset = 3) (k1 : P.cellsOf g1.type = 1)
    (hm : P.underlying g0.type = some (.struct #[m0, m1, m2])) (hone3 : oneCellFields P #[m0, m1, m2] = true) (i0 : P.underlying m0.type = some (.int .i64)) (i1 : P.underlying m1.type = some (.int .i64)) (i2 : P.underlying m2.type = some (.int .i64))
    (ht : P.underlying g1.type = some (.slice e)) (he : P.underlying e = some (.struct #[f0, f1])) (hone : oneCellFields P #[f0, f1] = true) (hCe : P.cellsOf e = 2) (h0 : P.underlying f0.type = some (.int .i64)) (h1 : P.underlying f1.type = some (.int .i64))
    (hv : Value.okWide P w r b0 t v) (h : DataW.Trod enc P w base spare held t v d p) :
    ∃ (a b x : Int) (A : Option Addr) (n c : Nat) (L : List Nd), v = .agg #[.int .i64 a, .int .i64 b, .int .i64 x, .slice A n c] ∧ (-9223372036854775808 ≤ a ∧ a ≤ 9223372036854775807) ∧ (-9223372036854775808 ≤ b ∧ b ≤ 9223372036854775807) ∧ (-9223372036854775808 ≤ x ∧ x ≤ 9223372036854775807) ∧ NodesAt w (.slice A n c) L ∧ NBds L ∧ n ≤ 9223372036854775807 := by
  obtain ⟨cs, rfl, hsz⟩ := okWide_struct hs hv
  obtain ⟨fuel, hf⟩ := h
  rw [hC] at hsz
  obtain ⟨l⟩ := cs
  obtain ⟨y0, y1, n', _, _, q0, q1⟩ := trod_struct2 hs hf
  rw [o0, k0] at q0
  rw [o1, k1] at q1
  match l, hsz with
  | [u0, u1, u2, u3], _ =>
    simp [Value.cells] at q0 q1
    obtain ⟨A, n, c, L, e3, hn, hb, hmm⟩ := nodes_of_trod ht he hone hCe h0 h1 q1
    obtain ⟨z0, z1, z2, n2, _, _, t0, t1, t2⟩ := trod_struct3 hm q0
    obtain ⟨p0, l0⟩ := hone_of hone3 0 m0 rfl
    obtain ⟨p1, l1⟩ := hone_of hone3 1 m1 rfl
    obtain ⟨p2, l2⟩ := hone_of hone3 2 m2 rfl
    rw [p0, l0] at t0
    rw [p1, l1] at t1
    rw [p2, l2] at t2
    simp at t0 t1 t2
    obtain ⟨a, e0, _, wa⟩ := DataW.trod_int i0 t0
    obtain ⟨b, e1, _, wb⟩ := DataW.trod_int i1 t1
    obtain ⟨x, e2, _, wx⟩ := DataW.trod_int i2 t2
    injection e0 with e0 _
    injection e1 with e1 _
    injection e2 with e2 _
    injection e3 with e3 _
    subst e0 e1 e2 e3
    exact ⟨a, b, x, A, n, c, L, rfl, int_bd wa, int_bd wb, int_bd wx, hn, hb, hmm⟩
theorem open_bytesZ {r : Reach} {b0 : Nat} {t e : TypeId} {v : Value} {d : DataW H} {p : List MemPlace} (ht : P.underlying t = some (.slice e)) (he : P.underlying e = some (.int .u8)) (hC : P.cellsOf e = 1)
    (hv : Value.okWide P w r b0 t v) (h : DataW.Trod enc P w base spare held t v d p) : ∃ (A : Option Addr) (n c : Nat) (T : List Int), v = .slice A n c ∧ T.length = n ∧ BytesAt w A T ∧ BdB T ∧ n ≤ 9223372036854775807 := by
  obtain ⟨A, n, c, rfl⟩ := okWide_slice ht hv
  obtain ⟨fuel, hf⟩ := h
  rcases Go.ChangeShapes.open_ints ht he hC hf with ⟨hcs, _⟩ | ⟨ad, len, cap, zs, hcs, hb, hl, hm, hlen, _, hcell, hwf⟩
  · simp [Value.cells] at hcs
    obtain ⟨rfl, rfl, rfl⟩ := hcs
    exact ⟨none, 0, 0, [], rfl, rfl, fun h => by simp at h, fun t h => by simp at h, by omega⟩
  · simp [Value.cells] at hcs
    obtain ⟨rfl, rfl, rfl⟩ := hcs
    have hnz : n ≤ zs.length := by rw [hlen]; split <;> omega
    have hTl : (zs.take n).length = n := by simp; omega
    refine ⟨some ad, n, c, zs.take n, rfl, hTl, fun h0 => ?_, fun t ht => ?_, by unfold maxLen at hm; omega⟩
    · rw [hTl] at h0
      have hsp := World.cell?_spot (hcell 0 (by omega))
      have e0 : ad.add 0 = ad := by simp [Addr.add]
      have hlt : ad.block < w.heap.size := by
        have hc := hcell 0 (by omega)
        rw [e0] at hc
        rcases Nat.lt_or_ge ad.block w.heap.size with g | g
        · exact g
        · simp [World.cell?, Array.getElem?_eq_none g] at hc
      rw [e0] at hsp
      obtain ⟨b, o, s⟩ := ad
      dsimp only at hsp
      subst hsp
      have ea : ∀ i, (⟨b, o, none⟩ : Addr).add i = ⟨b, o + i, none⟩ := by
        intro i; unfold Addr.add; split
        · rename_i h; subst h; rfl
        · rfl
      refine ⟨b, o, rfl, hlt, fun k hk => ?_⟩
      rw [hTl] at hk
      have h2 := hcell k (by omega)
      rw [ea] at h2
      rw [h2]
      have hk2 : k < (zs.take n).length := by omega
      simp [List.getD_eq_getElem?_getD, hk]
    · exact u8_bd (hwf t (List.mem_of_mem_take ht))
end

end Go.Proofs.Ytfmgcabgbnfjlaa
