/- Arguments that are slices of whole numbers, opened. No program is spoken of here. -/
import Derived.Test.YtjmglihdndknjaaOpen2
import Derived.Test.YtjmglihdndknjaaTi3
import Derived.ChangeSlices
namespace Go.Proofs.Ytjmglihdndknjaa
set_option linter.unusedVariables false
open Go.RowKit Go.ChangeShapes Go.WideShapes Go.Deep Go.Joins

section
variable {H : Type} {enc : TypeId × Value → H} {P : Program} {w : World} {base : Nat} {spare : Nat → Bool} {held : Bool}
theorem open_slint {r : Reach} {b0 : Nat} {t e : TypeId} {v : Value} {d : DataW H} {p : List MemPlace} (ht : P.underlying t = some (.slice e)) (he : P.underlying e = some (.int .i64)) (hC : P.cellsOf e = 1)
    (hv : Value.okWide P w r b0 t v) (h : DataW.Trod enc P w base spare held t v d p) : ∃ (A : Option Addr) (n c : Nat) (T : List Int), v = .slice A n c ∧ IntsAt w (.slice A n c) T ∧ Bds T ∧ n ≤ 9223372036854775807 := by
  obtain ⟨A, n, c, rfl⟩ := okWide_slice ht hv
  obtain ⟨fuel, hf⟩ := h
  rcases Go.ChangeShapes.open_ints ht he hC hf with ⟨hcs, _⟩ | ⟨ad, len, cap, zs, hcs, hb, hl, hm, hlen, _, hcell, hwf⟩
  · simp [Value.cells] at hcs
    obtain ⟨rfl, rfl, rfl⟩ := hcs
    exact ⟨none, 0, 0, [], rfl, ints_nil w, fun t h => by simp at h, by omega⟩
  · simp [Value.cells] at hcs
    obtain ⟨rfl, rfl, rfl⟩ := hcs
    have hnz : n ≤ zs.length := by rw [hlen]; split <;> omega
    have hTl : (zs.take n).length = n := by simp; omega
    refine ⟨some ad, n, c, zs.take n, rfl, ?_, fun t ht => ?_, by unfold maxLen at hm; omega⟩
    · refine ⟨some ad, c, by rw [hTl], fun h0 => ?_⟩
      rw [hTl] at h0
      have hsp := World.cell?_spot (hcell 0 (by omega))
      have e0 : ad.add 0 = ad := by simp [Addr.add]
      have hlt : ad.block < w.heap.size := by
        have hc := hcell 0 (by omega)
        rw [e0] at hc
        rcases Nat.lt_or_ge ad.block w.heap.size with g | g
        · exact g
        · simp [World.cell?, Array.getElem?_eq_none g] at hc
      rw [e0] at hsp
      obtain ⟨b, o, s⟩ := ad
      dsimp only at hsp
      subst hsp
      have ea : ∀ i, (⟨b, o, none⟩ : Addr).add i = ⟨b, o + i, none⟩ := by
        intro i; unfold Addr.add; split
        · rename_i h; subst h; rfl
        · rfl
      refine ⟨b, o, rfl, hlt, fun k hk => ?_⟩
      rw [hTl] at hk
      have h2 := hcell k (by omega)
      rw [ea] at h2
      rw [h2]
      have hk2 : k < (zs.take n).length := by omega
      simp [List.getD_eq_getElem?_getD, hk]
    · exact int_bd (hwf t (List.mem_of_mem_take ht))
end

end Go.Proofs.Ytjmglihdndknjaa
