/- Boxes of three and of four cells; plain facts of Insert. No program is spoken of here. -/
import Derived.Test.YtfilmblpikcpnaaGreatDgNum2
import Derived.Test.YtfilmblpikcpnaaGreatKeep
namespace Go.Proofs.YtfilmblpikcpnaaGreat
set_option linter.unusedVariables false
set_option maxRecDepth 100000
open Go.RowKit

/-- a box of three cells, stored anew -/
theorem tri_set {TS : TypeId} {w : World} {B q : Nat} {x y z : Value} (r : w.ownsRow B TS 3 (.slice (some ⟨q, 0, none⟩) 1 1) 1 [x, y, z]) (a b c : Value) :
    (((w.setCell ⟨q, 0, none⟩ a).setCell ⟨q, 1, none⟩ b).setCell ⟨q, 2, none⟩ c).ownsRow B TS 3 (.slice (some ⟨q, 0, none⟩) 1 1) 1 [a, b, c] ∧
    (∀ (base : Nat) (e : TypeId) (size n : Nat) (v : Value) (ys : List Value), e ≠ TS → w.ownsRow base e size v n ys → (((w.setCell ⟨q, 0, none⟩ a).setCell ⟨q, 1, none⟩ b).setCell ⟨q, 2, none⟩ c).ownsRow base e size v n ys) ∧
    Below B w (((w.setCell ⟨q, 0, none⟩ a).setCell ⟨q, 1, none⟩ b).setCell ⟨q, 2, none⟩ c) ∧
    (∀ (base : Nat) (e : TypeId) (size n : Nat) (v : Value) (ys : List Value), v.ownBlock ≠ some q → w.ownsRow base e size v n ys → (((w.setCell ⟨q, 0, none⟩ a).setCell ⟨q, 1, none⟩ b).setCell ⟨q, 2, none⟩ c).ownsRow base e size v n ys) := by
  have s0 := World.ownsRow.stored r 0 a
  have s1 := World.ownsRow.stored s0.1 1 b
  have s2 := World.ownsRow.stored s1.1 2 c
  have hB := (r.lt q rfl).1
  refine ⟨s2.1, fun base e size n v ys he o => ?_, (((Below.refl _ _).setCell (p := ⟨q, 0, none⟩) hB a).setCell (p := ⟨q, 1, none⟩) hB b).setCell (p := ⟨q, 2, none⟩) hB c, fun base e size n v ys he o => ?_⟩
  · have o1 := o.kept s0.2 (own_apart o r he)
    have o2 := o1.kept s1.2 (own_apart o1 s0.1 he)
    exact o2.kept s2.2 (own_apart o2 s1.1 he)
  · exact ((o.kept s0.2 (.inr he)).kept s1.2 (.inr he)).kept s2.2 (.inr he)
/-- .. its last two -/
theorem tri_set2 {TS : TypeId} {w : World} {B q : Nat} {x y z : Value} (r : w.ownsRow B TS 3 (.slice (some ⟨q, 0, none⟩) 1 1) 1 [x, y, z]) (b c : Value) :
    ((w.setCell ⟨q, 1, none⟩ b).setCell ⟨q, 2, none⟩ c).ownsRow B TS 3 (.slice (some ⟨q, 0, none⟩) 1 1) 1 [x, b, c] ∧
    (∀ (base : Nat) (e : TypeId) (size n : Nat) (v : Value) (ys : List Value), e ≠ TS → w.ownsRow base e size v n ys → ((w.setCell ⟨q, 1, none⟩ b).setCell ⟨q, 2, none⟩ c).ownsRow base e size v n ys) ∧
    Below B w ((w.setCell ⟨q, 1, none⟩ b).setCell ⟨q, 2, none⟩ c) ∧
    (∀ (base : Nat) (e : TypeId) (size n : Nat) (v : Value) (ys : List Value), v.ownBlock ≠ some q → w.ownsRow base e size v n ys → ((w.setCell ⟨q, 1, none⟩ b).setCell ⟨q, 2, none⟩ c).ownsRow base e size v n ys) := by
  have s1 := World.ownsRow.stored r 1 b
  have s2 := World.ownsRow.stored s1.1 2 c
  have hB := (r.lt q rfl).1
  refine ⟨s2.1, fun base e size n v ys he o => ?_, ((Below.refl _ _).setCell (p := ⟨q, 1, none⟩) hB b).setCell (p := ⟨q, 2, none⟩) hB c, fun base e size n v ys he o => ?_⟩
  · have o1 := o.kept s1.2 (own_apart o r he)
    exact o1.kept s2.2 (own_apart o1 s1.1 he)
  · exact (o.kept s1.2 (.inr he)).kept s2.2 (.inr he)
/-- all that is asked of a box of three cells -/
theorem tri_all {TS : TypeId} {w : World} {B q : Nat} {x y z : Value} (r : w.ownsRow B TS 3 (.slice (some ⟨q, 0, none⟩) 1 1) 1 [x, y, z]) :
    w.cell? ⟨q, 0, none⟩ = some x ∧ w.cell? ⟨q, 1, none⟩ = some y ∧ w.cell? ⟨q, 2, none⟩ = some z ∧ w.frozen? ⟨q, 0, none⟩ = false ∧ w.frozen? ⟨q, 1, none⟩ = false ∧ w.frozen? ⟨q, 2, none⟩ = false ∧ q < w.heap.size :=
  ⟨r.cellAt 0 (by omega), r.cellAt 1 (by omega), r.cellAt 2 (by omega), r.frozenAt 0, r.frozenAt 1, r.frozenAt 2, (r.lt q rfl).2⟩
/-- a result of three cells, read behind its store -/
theorem set_three {TS : TypeId} {w : World} {B q : Nat} {x y z : Value} (r : w.ownsRow B TS 3 (.slice (some ⟨q, 0, none⟩) 1 1) 1 [x, y, z]) (a b c : Value) :
    (((w.setCell ⟨q, 0, none⟩ a).setCell ⟨q, 1, none⟩ b).setCell ⟨q, 2, none⟩ c).cell? ⟨q, 0, none⟩ = some a ∧ (((w.setCell ⟨q, 0, none⟩ a).setCell ⟨q, 1, none⟩ b).setCell ⟨q, 2, none⟩ c).cell? ⟨q, 1, none⟩ = some b ∧ (((w.setCell ⟨q, 0, none⟩ a).setCell ⟨q, 1, none⟩ b).setCell ⟨q, 2, none⟩ c).cell? ⟨q, 2, none⟩ = some c := by
  have t := tri_all (tri_set r a b c).1
  exact ⟨t.1, t.2.1, t.2.2.1⟩
theorem tri_nw (w : World) (TO : TypeId) (a b c : Value) : (w.alloc (.cells #[a, b, c] TO)).ownsRow w.heap.size TO 3 (.slice (some ⟨w.heap.size, 0, none⟩) 1 1) 1 [a, b, c] :=
  World.ownsRow_lit (base := w.heap.size) (e := TO) (size := 3) w #[a, b, c] 1 (Nat.le_refl _) (by unfold maxLen; omega) rfl
theorem quad_new (w : World) (TO : TypeId) (a b c d : Value) : (w.alloc (.cells #[a, b, c, d] TO)).ownsRow w.heap.size TO 4 (.slice (some ⟨w.heap.size, 0, none⟩) 1 1) 1 [a, b, c, d] :=
  World.ownsRow_lit (base := w.heap.size) (e := TO) (size := 4) w #[a, b, c, d] 1 (Nat.le_refl _) (by unfold maxLen; omega) rfl
theorem quad_all {TS : TypeId} {w : World} {B q : Nat} {x y z u : Value} (r : w.ownsRow B TS 4 (.slice (some ⟨q, 0, none⟩) 1 1) 1 [x, y, z, u]) :
    w.cell? ⟨q, 0, none⟩ = some x ∧ w.cell? ⟨q, 1, none⟩ = some y ∧ w.cell? ⟨q, 2, none⟩ = some z ∧ w.cell? ⟨q, 3, none⟩ = some u ∧ w.frozen? ⟨q, 0, none⟩ = false ∧ w.frozen? ⟨q, 1, none⟩ = false ∧ w.frozen? ⟨q, 2, none⟩ = false ∧ w.frozen? ⟨q, 3, none⟩ = false ∧ q < w.heap.size :=
  ⟨r.cellAt 0 (by omega), r.cellAt 1 (by omega), r.cellAt 2 (by omega), r.cellAt 3 (by omega), r.frozenAt 0, r.frozenAt 1, r.frozenAt 2, r.frozenAt 3, (r.lt q rfl).2⟩
theorem addS_ins {l : Int} {L : List Nd} {id c : Int} (h : rightB l id = true) (hc : ¬ c < 1) (ht : ¬ 72057594037927935 < sumC L + c) : addS l L id c = insW L id c ∧ addE l L id c = 0 := by
  have q : ¬ (rightB l id = false ∨ c < 0) := by rintro (g | g); rw [h] at g; simp at g; omega
  have z : ¬ c = 0 := by omega
  unfold addS addE addW
  rw [if_neg q, if_neg ht, if_neg z, if_neg q, if_neg ht]
  exact ⟨rfl, rfl⟩
theorem dgE_val {l : Int} {L : List Nd} {x c : Int} (h : ¬ ValC l x) : dgE l L x c = 3 := if_neg h
theorem dgE_zero {l : Int} {L : List Nd} {x c : Int} (h : ValC l x) (h1 : c < 1) : dgE l L x c = 4 := by unfold dgE; rw [if_pos h, if_pos h1]
theorem dgE_full {l : Int} {L : List Nd} {x c : Int} (h : ValC l x) (h1 : ¬ c < 1) (h2 : 72057594037927935 - sumC L < c) : dgE l L x c = 5 := by unfold dgE; rw [if_pos h, if_neg h1, if_pos h2]
theorem dgE_ok {l : Int} {L : List Nd} {x c : Int} (h : ValC l x) (h1 : ¬ c < 1) (h2 : ¬ 72057594037927935 - sumC L < c) : dgE l L x c = 0 := by unfold dgE; rw [if_pos h, if_neg h1, if_neg h2]
theorem dgIns_no {l k : Int} {L : List Nd} {x c : Int} (h : ¬ dgE l L x c = 0) : dgIns l k L x c = L := if_neg h

end Go.Proofs.YtfilmblpikcpnaaGreat
