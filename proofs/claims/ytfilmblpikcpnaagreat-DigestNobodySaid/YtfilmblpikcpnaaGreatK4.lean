/- Two blocks of two cells each, which a function makes for a struct that came in by value and for one that it hands out. No program is spoken of here. -/
import Derived.Test.YtfilmblpikcpnaaGreatRow
namespace Go.Proofs.YtfilmblpikcpnaaGreat
set_option linter.unusedVariables false
open Go.RowKit

/-- two blocks of two cells each: a struct that came in by value, and one that is handed out -/
structure K4 (w : World) (b : Nat) (x y z u : Value) : Prop where
  c0 : w.cell? ⟨b, 0, none⟩ = some x
  c1 : w.cell? ⟨b, 1, none⟩ = some y
  d0 : w.cell? ⟨b + 1, 0, none⟩ = some z
  d1 : w.cell? ⟨b + 1, 1, none⟩ = some u
  f0 : w.frozen? ⟨b, 0, none⟩ = false
  f1 : w.frozen? ⟨b, 1, none⟩ = false
  g0 : w.frozen? ⟨b + 1, 0, none⟩ = false
  g1 : w.frozen? ⟨b + 1, 1, none⟩ = false
  lt : b + 1 < w.heap.size
theorem K4.to {w w' : World} {b B : Nat} {x y z u : Value} (h : K4 w b x y z u) (hb : Below B w w') (hB : b + 1 < B) : K4 w' b x y z u :=
  ⟨(hb.cell (p := ⟨b, 0, none⟩) (by show b < B; omega)).trans h.c0, (hb.cell (p := ⟨b, 1, none⟩) (by show b < B; omega)).trans h.c1, (hb.cell (p := ⟨b + 1, 0, none⟩) hB).trans h.d0, (hb.cell (p := ⟨b + 1, 1, none⟩) hB).trans h.d1,
   (hb.frozen (p := ⟨b, 0, none⟩) (by show b < B; omega)).trans h.f0, (hb.frozen (p := ⟨b, 1, none⟩) (by show b < B; omega)).trans h.f1, (hb.frozen (p := ⟨b + 1, 0, none⟩) hB).trans h.g0, (hb.frozen (p := ⟨b + 1, 1, none⟩) hB).trans h.g1, Nat.lt_of_lt_of_le h.lt hb.size⟩
theorem k4_new (w : World) (t t2 : TypeId) (x y z u : Value) : K4 ((w.alloc (.cells #[x, y] t)).alloc (.cells #[z, u] t2)) w.heap.size x y z u :=
  ⟨by simp, by simp, by simp, by simp, by simp, by simp, by simp, by simp, by simp⟩
theorem K4.set1 {w : World} {b : Nat} {x y z u : Value} (h : K4 w b x y z u) (v : Value) : K4 (w.setCell ⟨b, 1, none⟩ v) b x v z u := by
  have n0 : (⟨b, 0, none⟩ : Addr) ≠ ⟨b, 1, none⟩ := ad_ne b
  have n1 : (⟨b + 1, 0, none⟩ : Addr) ≠ ⟨b, 1, none⟩ := fun e => by injection e with e; omega
  have n2 : (⟨b + 1, 1, none⟩ : Addr) ≠ ⟨b, 1, none⟩ := fun e => by injection e with e; omega
  refine ⟨by rw [World.cell?_setCell_other _ _ _ _ n0.symm]; exact h.c0, World.cell?_setCell_same (u := y) _ _ _ h.c1, by rw [World.cell?_setCell_other _ _ _ _ n1.symm]; exact h.d0, by rw [World.cell?_setCell_other _ _ _ _ n2.symm]; exact h.d1, ?_, ?_, ?_, ?_, ?_⟩
  · simp [h.f0]
  · simp [h.f1]
  · simp [h.g0]
  · simp [h.g1]
  · simpa using h.lt
theorem below_two (w : World) (o o2 : Obj) : Below w.heap.size w ((w.alloc o).alloc o2) := ((Below.refl _ _).alloc (Nat.le_refl _) _).alloc (by simp) _


end Go.Proofs.YtfilmblpikcpnaaGreat
