/- Texts laid together: PbRef, PbRef2, PbRef3, PbRef4. -/
import Derived.Test.YtkhacpapkalkiaaGreatPbQ
import Derived.Test.YtkhacpapkalkiaaGreatRrQ
import Derived.Test.YtkhacpapkalkiaaGreatDrQ
import Derived.BigRegion
import Derived.Deep.Cut
import Derived.Deep.DeepCutAuto
import Derived.StillTailTactics
import Derived.RegionTactic
import Derived.WalkSpells
/- The document's answers of package dewpondref08: Home, find, way, Get, Walk. -/
namespace Go.Proofs.YtkhacpapkalkiaaGreat
set_option linter.unusedVariables false
set_option maxRecDepth 100000
open Go.RowKit

theorem half_step (X j : Nat) : X / 2 ^ j / 2 = X / 2 ^ (j + 1) := by rw [Nat.div_div_eq_div_mul, Nat.pow_succ]
theorem half_lt {X : Nat} (h : X < 18446744073709551616) (j : Nat) : X / 2 ^ j < 18446744073709551616 := Nat.lt_of_le_of_lt (Nat.div_le_self _ _) h
theorem home_is (b k : Nat) : homeN b (k : Int) = k * 11400714819323198485 % 18446744073709551616 / 2 ^ (64 - b) := by unfold homeN; rw [Int.toNat_natCast]
/-- a table that the document's answer has: a row of slots that came in, or was made -/
def RtAt (w : World) (v : Value) (b : Nat) (S : List Nd) : Prop := OwnNd 83 w 0 v S ∧ S.length = 2 ^ b
theorem rt_form {w : World} {v : Value} {b : Nat} {S : List Nd} (h : RtAt w v b S) : ∃ g c, v = .slice (some ⟨g, 0, none⟩) (2 ^ b) c ∧ g < w.heap.size ∧ 2 ^ b ≤ c ∧ c ≤ maxLen ∧ ∀ k, k < 2 ^ b → w.cell? ⟨g, k * 2, none⟩ = some (.int .i64 (tAt S k).1) ∧ w.cell? ⟨g, k * 2 + 1, none⟩ = some (.int .i64 (tAt S k).2) := by
  have hp := Nat.two_pow_pos b
  rcases ownNd_form h.1 with ⟨_, rfl⟩ | ⟨g, cap, rfl, hb, hg, hn, hc, hi⟩
  · have := h.2; simp only [List.length_nil] at this; omega
  · rw [h.2] at hn
    refine ⟨g, cap, by rw [h.2], hg, hn, hc, fun k hk => ?_⟩
    have q := hi.2 k (by rw [h.2]; exact hk)
    rw [Nat.zero_add] at q
    exact q
end Go.Proofs.YtkhacpapkalkiaaGreat

/- The document's answers of package dewpondref08: Get, Walk, way, Slots2, Nodes. -/
namespace Go.Proofs.YtkhacpapkalkiaaGreat
set_option linter.unusedVariables false
set_option maxRecDepth 100000
open Go.RowKit

/-- the slots that are read -/
def SlAt (w : World) (g N : Nat) (S : List Nd) : Prop := g < w.heap.size ∧ ∀ k, k < N → w.cell? ⟨g, k * 2, none⟩ = some (.int .i64 (tAt S k).1) ∧ w.cell? ⟨g, k * 2 + 1, none⟩ = some (.int .i64 (tAt S k).2)
theorem SlAt.below {w w' : World} {g N : Nat} {S : List Nd} (h : SlAt w g N S) (hb : Below w.heap.size w w') : SlAt w' g N S :=
  ⟨Nat.lt_of_lt_of_le h.1 hb.size, fun k hk => ⟨(hb.cell (p := ⟨g, k * 2, none⟩) h.1).trans (h.2 k hk).1, (hb.cell (p := ⟨g, k * 2 + 1, none⟩) h.1).trans (h.2 k hk).2⟩⟩
end Go.Proofs.YtkhacpapkalkiaaGreat

/- The document's answers of package dewpondref08: Nodes, put. -/
namespace Go.Proofs.YtkhacpapkalkiaaGreat
set_option linter.unusedVariables false
set_option maxRecDepth 100000
open Go.RowKit

/-- a block of three cells -/
structure TBx (w : World) (q : Nat) (x y z : Value) : Prop where
  c0 : w.cell? ⟨q, 0, none⟩ = some x
  c1 : w.cell? ⟨q, 1, none⟩ = some y
  c2 : w.cell? ⟨q, 2, none⟩ = some z
  f0 : w.frozen? ⟨q, 0, none⟩ = false
  f1 : w.frozen? ⟨q, 1, none⟩ = false
  f2 : w.frozen? ⟨q, 2, none⟩ = false
  lt : q < w.heap.size
theorem TBx.to {w w' : World} {q B : Nat} {x y z : Value} (h : TBx w q x y z) (hb : Below B w w') (hB : q < B) : TBx w' q x y z :=
  ⟨(hb.cell (p := ⟨q, 0, none⟩) hB).trans h.c0, (hb.cell (p := ⟨q, 1, none⟩) hB).trans h.c1, (hb.cell (p := ⟨q, 2, none⟩) hB).trans h.c2,
   (hb.frozen (p := ⟨q, 0, none⟩) hB).trans h.f0, (hb.frozen (p := ⟨q, 1, none⟩) hB).trans h.f1, (hb.frozen (p := ⟨q, 2, none⟩) hB).trans h.f2, Nat.lt_of_lt_of_le h.lt hb.size⟩
theorem tbx_new (w : World) (t : TypeId) (x y z : Value) : TBx (w.alloc (.cells #[x, y, z] t)) w.heap.size x y z := ⟨by simp, by simp, by simp, by simp, by simp, by simp, by simp⟩
theorem TBx.alloc {w : World} {q : Nat} {x y z : Value} (h : TBx w q x y z) (o : Obj) : TBx (w.alloc o) q x y z := h.to ((Below.refl w.heap.size w).alloc (Nat.le_refl _) o) h.lt
theorem TBx.far {w : World} {q r k : Nat} {x y z : Value} (h : TBx w q x y z) (hr : r ≠ q) (v : Value) : TBx (w.setCell ⟨r, k, none⟩ v) q x y z := by
  have n : ∀ j, (⟨q, j, none⟩ : Addr) ≠ ⟨r, k, none⟩ := fun j e => by injection e with e; exact hr e.symm
  refine ⟨by rw [World.cell?_setCell_other _ _ _ _ (n 0).symm]; exact h.c0, by rw [World.cell?_setCell_other _ _ _ _ (n 1).symm]; exact h.c1, by rw [World.cell?_setCell_other _ _ _ _ (n 2).symm]; exact h.c2, ?_, ?_, ?_, ?_⟩
  · simp [h.f0]
  · simp [h.f1]
  · simp [h.f2]
  · simpa using h.lt
theorem TBx.set2 {w : World} {q : Nat} {x y z : Value} (h : TBx w q x y z) (v : Value) : TBx (w.setCell ⟨q, 2, none⟩ v) q x y v := by
  have n : ∀ j, j ≠ 2 → (⟨q, j, none⟩ : Addr) ≠ ⟨q, 2, none⟩ := fun j hj e => by injection e with _ e; exact hj e
  refine ⟨by rw [World.cell?_setCell_other _ _ _ _ (n 0 (by decide)).symm]; exact h.c0, by rw [World.cell?_setCell_other _ _ _ _ (n 1 (by decide)).symm]; exact h.c1, World.cell?_setCell_same (u := z) _ _ _ h.c2, ?_, ?_, ?_, ?_⟩
  · simp [h.f0]
  · simp [h.f1]
  · simp [h.f2]
  · simpa using h.lt
theorem TBx.set1 {w : World} {q : Nat} {x y z : Value} (h : TBx w q x y z) (v : Value) : TBx (w.setCell ⟨q, 1, none⟩ v) q x v z := by
  have n : ∀ j, j ≠ 1 → (⟨q, j, none⟩ : Addr) ≠ ⟨q, 1, none⟩ := fun j hj e => by injection e with _ e; exact hj e
  refine ⟨by rw [World.cell?_setCell_other _ _ _ _ (n 0 (by decide)).symm]; exact h.c0, World.cell?_setCell_same (u := y) _ _ _ h.c1, by rw [World.cell?_setCell_other _ _ _ _ (n 2 (by decide)).symm]; exact h.c2, ?_, ?_, ?_, ?_⟩
  · simp [h.f0]
  · simp [h.f1]
  · simp [h.f2]
  · simpa using h.lt
theorem TBx.set0 {w : World} {q : Nat} {x y z : Value} (h : TBx w q x y z) (v : Value) : TBx (w.setCell ⟨q, 0, none⟩ v) q v y z := by
  have n : ∀ j, j ≠ 0 → (⟨q, j, none⟩ : Addr) ≠ ⟨q, 0, none⟩ := fun j hj e => by injection e with _ e; exact hj e
  refine ⟨World.cell?_setCell_same (u := x) _ _ _ h.c0, by rw [World.cell?_setCell_other _ _ _ _ (n 1 (by decide)).symm]; exact h.c1, by rw [World.cell?_setCell_other _ _ _ _ (n 2 (by decide)).symm]; exact h.c2, ?_, ?_, ?_, ?_⟩
  · simp [h.f0]
  · simp [h.f1]
  · simp [h.f2]
  · simpa using h.lt
/-- all three stored anew, one behind the other -/
theorem TBx.all {w : World} {q : Nat} {x y z : Value} (h : TBx w q x y z) (a b c : Value) : TBx (((w.setCell ⟨q, 0, none⟩ a).setCell ⟨q, 1, none⟩ b).setCell ⟨q, 2, none⟩ c) q a b c := ((h.set0 a).set1 b).set2 c
theorem TBx.steps {w : World} {q : Nat} {x y z : Value} (h : TBx w q x y z) : (∀ a, (w.setCell ⟨q, 0, none⟩ a).cell? ⟨q, 0, none⟩ = some a) ∧ (∀ a b, ((w.setCell ⟨q, 0, none⟩ a).setCell ⟨q, 1, none⟩ b).cell? ⟨q, 1, none⟩ = some b) ∧ (∀ a b c, (((w.setCell ⟨q, 0, none⟩ a).setCell ⟨q, 1, none⟩ b).setCell ⟨q, 2, none⟩ c).cell? ⟨q, 2, none⟩ = some c) :=
  ⟨fun a => (h.set0 a).c0, fun a b => ((h.set0 a).set1 b).c1, fun a b c => (h.all a b c).c2⟩
/-- a store elsewhere keeps a row -/
theorem own_set {w : World} {base : Nat} {e : TypeId} {size n : Nat} {v : Value} {xs : List Value} (o : w.ownsRow base e size v n xs) {q : Nat} (h : v.ownBlock ≠ some q) (j : Nat) (u : Value) : (w.setCell ⟨q, j, none⟩ u).ownsRow base e size v n xs :=
  o.kept (row := some q) ⟨rfl, rfl, rfl, by simp, fun k hk hne => by
    have hk2 : ¬ q = k := fun e => hne (by rw [e])
    simp [World.setCell, Array.getElem?_modify, hk2]⟩ (.inr h)
theorem own_set3 {w : World} {base : Nat} {e : TypeId} {size n : Nat} {v : Value} {xs : List Value} (o : w.ownsRow base e size v n xs) {q : Nat} (h : v.ownBlock ≠ some q) (a b c : Value) : (((w.setCell ⟨q, 0, none⟩ a).setCell ⟨q, 1, none⟩ b).setCell ⟨q, 2, none⟩ c).ownsRow base e size v n xs := own_set (own_set (own_set o h 0 a) h 1 b) h 2 c
theorem below_set3 {w w1 : World} {B q : Nat} (h : Below B w w1) (hq : B ≤ q) (a b c : Value) : Below B w (((w1.setCell ⟨q, 0, none⟩ a).setCell ⟨q, 1, none⟩ b).setCell ⟨q, 2, none⟩ c) :=
  ((h.setCell (p := ⟨q, 0, none⟩) hq a).setCell (p := ⟨q, 1, none⟩) hq b).setCell (p := ⟨q, 2, none⟩) hq c
/-- what a call leaves that hands a table out -/
def RtPost (l : Int) (b : Nat) (S : List Nd) (w : World) (e : Ending) (w' : World) : Prop :=
  ∃ g c : Nat, e = .returned (.agg #[.int .i64 l, .int .i64 (b : Int), .slice (some ⟨g, 0, none⟩) (2 ^ b) c]) ∧ OwnNd 83 w' w.heap.size (.slice (some ⟨g, 0, none⟩) (2 ^ b) c) S ∧ Below w.heap.size w w'
theorem sl_own {w : World} {B g c b : Nat} {S : List Nd} (h : OwnNd 83 w B (.slice (some ⟨g, 0, none⟩) (2 ^ b) c) S) : SlAt w g (2 ^ b) S := by
  have hn := (nodes_cells (ownNd_nodes h)).1
  obtain ⟨g2, c2, e, hg, _, _, q⟩ := rt_form (v := .slice (some ⟨g, 0, none⟩) (2 ^ b) c) ⟨own_low h (Nat.zero_le _), hn.symm⟩
  injection e with e _ _
  injection e with e
  injection e with e
  subst e
  exact ⟨hg, q⟩
theorem put_boxes (w : World) (t1 t2 t3 : TypeId) (x y z u v a b c : Value) (w1 : World) (hb : Below (((w.alloc (.cells #[x, y, z] t1)).alloc (.cells #[u, v] t2)).alloc (.cells #[a, b, c] t3)).heap.size (((w.alloc (.cells #[x, y, z] t1)).alloc (.cells #[u, v] t2)).alloc (.cells #[a, b, c] t3)) w1) :
    TBx w1 w.heap.size x y z ∧ w1.cell? ⟨w.heap.size + 1, 0, none⟩ = some u ∧ w1.cell? ⟨w.heap.size + 1, 1, none⟩ = some v ∧ TBx w1 (w.heap.size + 1 + 1) a b c := by
  have e1 : (w.alloc (.cells #[x, y, z] t1)).heap.size = w.heap.size + 1 := by simp
  have e2 : ((w.alloc (.cells #[x, y, z] t1)).alloc (.cells #[u, v] t2)).heap.size = w.heap.size + 1 + 1 := by simp
  have e3 : (((w.alloc (.cells #[x, y, z] t1)).alloc (.cells #[u, v] t2)).alloc (.cells #[a, b, c] t3)).heap.size = w.heap.size + 1 + 1 + 1 := by simp
  have q3 := tbx_new ((w.alloc (.cells #[x, y, z] t1)).alloc (.cells #[u, v] t2)) t3 a b c
  have v0 : ((w.alloc (.cells #[x, y, z] t1)).alloc (.cells #[u, v] t2)).cell? ⟨(w.alloc (.cells #[x, y, z] t1)).heap.size, 0, none⟩ = some u := by simp
  have v1 : ((w.alloc (.cells #[x, y, z] t1)).alloc (.cells #[u, v] t2)).cell? ⟨(w.alloc (.cells #[x, y, z] t1)).heap.size, 1, none⟩ = some v := by simp
  rw [e1] at v0 v1
  have hb4 := (Below.refl ((w.alloc (.cells #[x, y, z] t1)).alloc (.cells #[u, v] t2)).heap.size ((w.alloc (.cells #[x, y, z] t1)).alloc (.cells #[u, v] t2))).alloc (Nat.le_refl _) (.cells #[a, b, c] t3)
  rw [e2] at hb4
  have u0 := (hb4.cell (p := ⟨w.heap.size + 1, 0, none⟩) (by show w.heap.size + 1 < _; omega)).trans v0
  have u1 := (hb4.cell (p := ⟨w.heap.size + 1, 1, none⟩) (by show w.heap.size + 1 < _; omega)).trans v1
  rw [e2] at q3
  rw [e3] at hb
  exact ⟨(((tbx_new w t1 x y z).alloc _).alloc _).to hb (by omega), (hb.cell (p := ⟨w.heap.size + 1, 0, none⟩) (by show w.heap.size + 1 < _; omega)).trans u0, (hb.cell (p := ⟨w.heap.size + 1, 1, none⟩) (by show w.heap.size + 1 < _; omega)).trans u1, q3.to hb (by omega)⟩
end Go.Proofs.YtkhacpapkalkiaaGreat

/- The document's answers of package dewpondref08: Add. -/
namespace Go.Proofs.YtkhacpapkalkiaaGreat
set_option linter.unusedVariables false
set_option maxRecDepth 100000
open Go.RowKit

theorem keep_three {W a b : World} {p q r : Addr} {x y z : Value} (h : a.cell? p = some x ∧ a.cell? q = some y ∧ a.cell? r = some z ∧ Below W.heap.size W a) (hb : Below a.heap.size a b) (hp : p.block < W.heap.size) (hq : q.block < W.heap.size) (hr : r.block < W.heap.size) : b.cell? p = some x ∧ b.cell? q = some y ∧ b.cell? r = some z ∧ Below W.heap.size W b := by
  obtain ⟨h1, h2, h3, h4⟩ := h
  have hz := h4.size
  exact ⟨(hb.cell (by omega)).trans h1, (hb.cell (by omega)).trans h2, (hb.cell (by omega)).trans h3, h4.trans (hb.mono hz)⟩
theorem below_of3 {W a : World} {p q r : Addr} {x y z : Value} (h : a.cell? p = some x ∧ a.cell? q = some y ∧ a.cell? r = some z ∧ Below W.heap.size W a) : Below W.heap.size W a := h.2.2.2
/-- a box of two cells that the region itself made -/
def Duo (w : World) (q : Nat) (x y : Value) : Prop := w.cell? ⟨q, 0, none⟩ = some x ∧ w.cell? ⟨q, 1, none⟩ = some y ∧ w.frozen? ⟨q, 0, none⟩ = false ∧ w.frozen? ⟨q, 1, none⟩ = false ∧ q < w.heap.size
theorem duo_alloc {w w2 : World} {t : TypeId} {x y : Value} (hb : Below (w.alloc (.cells #[x, y] t)).heap.size (w.alloc (.cells #[x, y] t)) w2) : Duo w2 w.heap.size x y := by
  have z : w.heap.size < (w.alloc (.cells #[x, y] t)).heap.size := by simp
  have a0 : (w.alloc (.cells #[x, y] t)).cell? ⟨w.heap.size, 0, none⟩ = some x := by simp
  have a1 : (w.alloc (.cells #[x, y] t)).cell? ⟨w.heap.size, 1, none⟩ = some y := by simp
  have b0 : (w.alloc (.cells #[x, y] t)).frozen? ⟨w.heap.size, 0, none⟩ = false := by simp
  have b1 : (w.alloc (.cells #[x, y] t)).frozen? ⟨w.heap.size, 1, none⟩ = false := by simp
  exact ⟨(hb.cell (p := ⟨w.heap.size, 0, none⟩) z).trans a0, (hb.cell (p := ⟨w.heap.size, 1, none⟩) z).trans a1, (hb.frozen (p := ⟨w.heap.size, 0, none⟩) z).trans b0, (hb.frozen (p := ⟨w.heap.size, 1, none⟩) z).trans b1, Nat.lt_of_lt_of_le z hb.size⟩
theorem duo_kept {w w2 : World} {q : Nat} {x y : Value} (h : Duo w q x y) (hb : Below w.heap.size w w2) : Duo w2 q x y :=
  ⟨(hb.cell (p := ⟨q, 0, none⟩) h.2.2.2.2).trans h.1, (hb.cell (p := ⟨q, 1, none⟩) h.2.2.2.2).trans h.2.1, (hb.frozen (p := ⟨q, 0, none⟩) h.2.2.2.2).trans h.2.2.1, (hb.frozen (p := ⟨q, 1, none⟩) h.2.2.2.2).trans h.2.2.2.1, Nat.lt_of_lt_of_le h.2.2.2.2 hb.size⟩
theorem duo_set {w : World} {q : Nat} {x y : Value} (h : Duo w q x y) : (∀ u, (w.setCell ⟨q, 0, none⟩ u).cell? ⟨q, 1, none⟩ = some y) := fun u => by
  rw [World.cell?_setCell_other _ _ _ _ (ad_ne q)]; exact h.2.1
/-- what a call leaves that hands a table out, and a number: the table is the one that came in, or new -/
def RdPost (l : Int) (b : Nat) (S : List Nd) (n : Int) (v0 : Value) (w : World) (e : Ending) (w' : World) : Prop :=
  ∃ g c : Nat, e = .returned (.tuple #[.agg #[.int .i64 l, .int .i64 (b : Int), .slice (some ⟨g, 0, none⟩) (2 ^ b) c], .int .i64 n]) ∧ OwnNd 83 w' 0 (.slice (some ⟨g, 0, none⟩) (2 ^ b) c) S ∧ Below w.heap.size w w' ∧ (Value.slice (some ⟨g, 0, none⟩) (2 ^ b) c = v0 ∨ w.heap.size ≤ g)
theorem two_boxes (w : World) (t1 t2 : TypeId) (x y z a b c : Value) : Below w.heap.size w ((w.alloc (.cells #[x, y, z] t1)).alloc (.cells #[a, b, c] t2)) ∧ TBx ((w.alloc (.cells #[x, y, z] t1)).alloc (.cells #[a, b, c] t2)) w.heap.size x y z ∧ TBx ((w.alloc (.cells #[x, y, z] t1)).alloc (.cells #[a, b, c] t2)) (w.heap.size + 1) a b c ∧ ((w.alloc (.cells #[x, y, z] t1)).alloc (.cells #[a, b, c] t2)).heap.size = w.heap.size + 2 := by
  have e1 : (w.alloc (.cells #[x, y, z] t1)).heap.size = w.heap.size + 1 := by simp
  have q := tbx_new (w.alloc (.cells #[x, y, z] t1)) t2 a b c
  rw [e1] at q
  exact ⟨((Below.refl _ _).alloc (Nat.le_refl _) _).alloc (by simp) _, (tbx_new w t1 x y z).alloc _, q, by simp⟩
theorem grow_facts {w w4 : World} {T : TypeId} {h0 B4 M b m4 k4 : Nat} {l bo sl x y z : Value} {A4 : Option Addr} {X : List Nd} (T1 : TBx w4 h0 l bo sl) (T2 : TBx w4 (h0 + 1) x y z) (O : OwnNd T w4 B4 (.slice A4 m4 k4) X) (hB : h0 < B4) (hM : M = 2 ^ (b + 1)) (BC : Below h0 w w4) (b1 : Value) (hM2 : M ≤ 2199023255552) :
    TBx (((w4.setCell ⟨h0, 1, none⟩ b1).setCell ⟨h0, 2, none⟩ (.slice (some ⟨w4.heap.size, 0, none⟩) M M)).alloc (.cells (blank (.agg #[.int .i64 0, .int .i64 0]) (M * 2)) T)) h0 l b1 (.slice (some ⟨w4.heap.size, 0, none⟩) M M) ∧
    TBx (((w4.setCell ⟨h0, 1, none⟩ b1).setCell ⟨h0, 2, none⟩ (.slice (some ⟨w4.heap.size, 0, none⟩) M M)).alloc (.cells (blank (.agg #[.int .i64 0, .int .i64 0]) (M * 2)) T)) (h0 + 1) x y z ∧
    OwnNd T (((w4.setCell ⟨h0, 1, none⟩ b1).setCell ⟨h0, 2, none⟩ (.slice (some ⟨w4.heap.size, 0, none⟩) M M)).alloc (.cells (blank (.agg #[.int .i64 0, .int .i64 0]) (M * 2)) T)) B4 (.slice A4 m4 k4) X ∧
    OwnNd T (((w4.setCell ⟨h0, 1, none⟩ b1).setCell ⟨h0, 2, none⟩ (.slice (some ⟨w4.heap.size, 0, none⟩) M M)).alloc (.cells (blank (.agg #[.int .i64 0, .int .i64 0]) (M * 2)) T)) w4.heap.size (.slice (some ⟨w4.heap.size, 0, none⟩) M M) (putL (b + 1) []) ∧
    Below h0 w (((w4.setCell ⟨h0, 1, none⟩ b1).setCell ⟨h0, 2, none⟩ (.slice (some ⟨w4.heap.size, 0, none⟩) M M)).alloc (.cells (blank (.agg #[.int .i64 0, .int .i64 0]) (M * 2)) T)) ∧
    w4.heap.size < (((w4.setCell ⟨h0, 1, none⟩ b1).setCell ⟨h0, 2, none⟩ (.slice (some ⟨w4.heap.size, 0, none⟩) M M)).alloc (.cells (blank (.agg #[.int .i64 0, .int .i64 0]) (M * 2)) T)).heap.size := by
  have hs : ((w4.setCell ⟨h0, 1, none⟩ b1).setCell ⟨h0, 2, none⟩ (.slice (some ⟨w4.heap.size, 0, none⟩) M M)).heap.size = w4.heap.size := by simp
  have bw := (BC.setCell (p := ⟨h0, 1, none⟩) (Nat.le_refl _) b1).setCell (p := ⟨h0, 2, none⟩) (Nat.le_refl _) (.slice (some ⟨w4.heap.size, 0, none⟩) M M)
  have t1 := (T1.set1 b1).set2 (.slice (some ⟨w4.heap.size, 0, none⟩) M M)
  have t2 := (T2.far (r := h0) (k := 1) (by omega) b1).far (r := h0) (k := 2) (by omega) (.slice (some ⟨w4.heap.size, 0, none⟩) M M)
  have o := ownsRow_setCell_below (ownsRow_setCell_below O (a := ⟨h0, 1, none⟩) hB b1) (a := ⟨h0, 2, none⟩) hB (.slice (some ⟨w4.heap.size, 0, none⟩) M M)
  have hl1 := T1.lt
  generalize (w4.setCell ⟨h0, 1, none⟩ b1).setCell ⟨h0, 2, none⟩ (.slice (some ⟨w4.heap.size, 0, none⟩) M M) = v at *
  have r := World.ownsRow_lit (base := w4.heap.size) (e := T) (size := 2) v (blank (.agg #[.int .i64 0, .int .i64 0]) (M * 2)) M (by omega) (by unfold maxLen; omega) (by rw [blank_size])
  rw [hs, blank_nodes] at r
  refine ⟨t1.alloc _, t2.alloc _, o.alloc _, ?_, bw.alloc (by omega) _, by simp; omega⟩
  show World.ownsRow _ _ _ _ _ _ _
  have e : putL (b + 1) [] = List.replicate M nz := by rw [hM]; rfl
  rw [e, List.length_replicate]
  exact r
theorem rt_as {l : Int} {b M : Nat} {X : List Nd} {w w' : World} {e : Ending} (q : RtPost l (b + 1) X w e w') (h1 : ((b + 1 : Nat) : Int) = (b : Int) + 1) (h2 : M = 2 ^ (b + 1)) :
    ∃ g c : Nat, e = .returned (.agg #[.int .i64 l, .int .i64 ((b : Int) + 1), .slice (some ⟨g, 0, none⟩) M c]) ∧ OwnNd 83 w' w.heap.size (.slice (some ⟨g, 0, none⟩) M c) X ∧ Below w.heap.size w w' := by
  obtain ⟨g, c, e1, e2, e3⟩ := q
  rw [h1, ← h2] at e1
  rw [← h2] at e2
  exact ⟨g, c, e1, e2, e3⟩
/-- one node more is put into the greater table -/
theorem put_round {l : Int} {b k : Nat} {S L : List Nd} (T : Tb l b S L) (hb : b ≤ 61) (hk : k < (ndsT S).length) :
    Put (b + 1) ((ndsT S).take k) (putL (b + 1) ((ndsT S).take k)) ∧ ((ndsT S).take k).length < 2 ^ (b + 1) ∧
    (1 ≤ ((ndsT S).getD k nz).1 ∧ ((ndsT S).getD k nz).1 ≤ 9223372036854775807) ∧
    (tAt (putL (b + 1) ((ndsT S).take k)) (posOf (b + 1) (putL (b + 1) ((ndsT S).take k)) ((ndsT S).getD k nz).1)).2 = 0 ∧ 1 ≤ ((ndsT S).getD k nz).2 ∧ ((ndsT S).getD k nz).2 ≤ 9223372036854775807 ∧
    putL (b + 1) ((ndsT S).take (k + 1)) = (putL (b + 1) ((ndsT S).take k)).set (posOf (b + 1) (putL (b + 1) ((ndsT S).take k)) ((ndsT S).getD k nz).1) ((ndsT S).getD k nz) := by
  have hp : 2 ^ (b + 1) = 2 * 2 ^ b := by rw [Nat.pow_succ]; omega
  have p3 := pow_3 T.tab.b3
  have hf := T.half
  have hc := T.cnt
  have h3 := T.tab.b3
  have P := put_take (b := b + 1) (by omega) (by omega) (nds_ids T.tab) (fun n hn => nds_pos T.tab hn) (by omega) k (by omega)
  have hl : ((ndsT S).take k).length < 2 ^ (b + 1) := by rw [List.length_take]; omega
  have hx := nds_pos T.tab (nd_mem hk)
  have hx2 := nds_bds T _ (nd_mem hk)
  have st := put_step P hl hx.1 hx.2 fun n hn => by
    have e := List.take_append_drop k (ndsT S)
    have hi := nds_ids T.tab
    rw [← e] at hi
    exact (List.pairwise_append.1 hi).2.2 n hn ((ndsT S).getD k nz) (by rw [nd_drop hk]; simp)
  refine ⟨P, hl, ⟨hx.1, hx2.1.2⟩, (zero_slot P.tab).1 st.2, hx.2, hx2.2.2, ?_⟩
  rw [nd_take hk, putL_snoc]
  rfl
end Go.Proofs.YtkhacpapkalkiaaGreat
