/- The walk of the statement QuantRises of layer quant, over the project's contracts: for every input it returns true, and nothing that was there before is changed. -/
import Derived.Test.YtkhacpapkalkiaaGreatQuLaw
import Derived.Test.YtkhacpapkalkiaaGreatMmy
import Derived.Deep.Cut
namespace Go.Proofs.YtkhacpapkalkiaaGreat
set_option linter.unusedVariables false
set_option maxRecDepth 100000
open Go.RowKit

/-- of two ranks that there are: what is told of them -/
theorem qu_rises {l : Int} {L : List Nd} {a b : Int} (h : RollC l L) (a1 : 1 ≤ a) (ab : a ≤ b) (b1 : b ≤ sumC L) :
    (0 ≤ atN l L a ∧ atN l L a < 281474976710656) ∧ (0 ≤ atN l L b ∧ atN l L b < 281474976710656) ∧ (0 ≤ fstQ l L a ∧ fstQ l L a < 281474976710656) ∧ (0 ≤ fstQ l L b ∧ fstQ l L b < 281474976710656) ∧ atN l L a ≤ atN l L b ∧ fstQ l L a ≤ fstQ l L b ∧ a ≤ lowR l L (atN l L a) ∧ lowR l L (atN l L a - 1) < a := by
  have u : 1 ≤ l ∧ l ≤ 48 := of_decide_eq_true h.1
  have p : (2 : Int) ^ l.toNat ≤ 281474976710656 := two_le l.toNat 48 (by omega)
  have x := at_is (r := a) h a1 (by omega)
  have y := at_is (r := b) h (by omega) b1
  have z := fst_isQ (r := a) h a1 (by omega)
  have t := fst_isQ (r := b) h (by omega) b1
  refine ⟨⟨x.2.1, by omega⟩, ⟨y.2.1, by omega⟩, ⟨z.2.1, by omega⟩, ⟨t.2.1, by omega⟩, x.1.mono y.1 ab, z.1.mono t.1 ab, x.1.is, x.1.least _ (by omega)⟩
theorem qu_gt {a b : Int} (h0 : 0 ≤ a) (h : a ≤ b) (h1 : b < 281474976710656) : (FloatKind.f64.format.order (floatOfInt .f64 a) (floatOfInt .f64 b) == some .gt) = false := by
  show (Ieee.double.order _ _ == _) = false
  rw [flo_order h0 (by omega) (by omega) (by omega)]
  rcases Int.lt_trichotomy a b with g | g | g
  · rw [Int.compare_eq_lt.2 g]; rfl
  · subst g; rw [Int.compare_eq_eq.2 rfl]; rfl
  · omega
/-- the last of a list of numbers that is read -/
theorem qu_last {w : World} {A : Option Addr} {n c : Nat} {T : List Int} {x : Int} (h : IntsAt w (.slice A n c) T) (hn : T ≠ []) (hx : T.getLast hn = x) : ∃ b o k, A = some ⟨b, o, none⟩ ∧ b < w.heap.size ∧ n = k + 1 ∧ w.cell? ⟨b, o + k, none⟩ = some (.int .i64 x) := by
  obtain ⟨e, hc⟩ := ints_cells h
  have pos : 0 < T.length := List.length_pos_iff.2 hn
  obtain ⟨b, o, ea, hb, cc⟩ := hc pos
  refine ⟨b, o, n - 1, ea, hb, by omega, ?_⟩
  rw [cc (n - 1) (by omega), ← hx, List.getLast_eq_getElem, e]
  simp [List.getD_eq_getElem?_getD, List.getElem?_eq_getElem (show T.length - 1 < T.length by omega)]
end Go.Proofs.YtkhacpapkalkiaaGreat
