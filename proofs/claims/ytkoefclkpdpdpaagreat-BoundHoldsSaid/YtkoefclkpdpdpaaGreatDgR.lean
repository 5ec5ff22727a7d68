/- Texts laid together: PbRef, PbRef2, PbRef3, PbRef4, FoRef, FoRef2, FoRef3, FoRef4, PrRef, PrRef2, PrRef3, DgRef, DgRef2, DgRef3, DgRef4, DgRef5, DgRef6, DgRef7, DgLaw, DgLaw2, DgLaw5. -/
import Derived.Test.YtkoefclkpdpdpaaGreatPbQ
import Derived.Test.YtkoefclkpdpdpaaGreatRoQ
import Derived.BigRegion
import Derived.Deep.Cut
import Derived.Deep.DeepCutAuto
import Derived.StillTailTactics
import Derived.RegionTactic
import Derived.WalkSpells
import Derived.Test.YtkoefclkpdpdpaaGreatFoQ
import Derived.Laws.OwnMore
import Derived.Test.YtkoefclkpdpdpaaGreatPoQ
import Derived.Deep.RegionHeld3
import Derived.Deep.DrawnRows
import Derived.Test.YtkoefclkpdpdpaaGreatPrP
import Derived.BigQuiet
import Derived.Test.YtkoefclkpdpdpaaGreatDgN
import Derived.Test.YtkoefclkpdpdpaaGreatDgQ
/- The document's answers of package dewpondref08: Home, find, way, Get, Walk. -/
namespace Go.Proofs.YtkoefclkpdpdpaaGreat
set_option linter.unusedVariables false
set_option maxRecDepth 100000
open Go.RowKit

theorem half_step (X j : Nat) : X / 2 ^ j / 2 = X / 2 ^ (j + 1) := by rw [Nat.div_div_eq_div_mul, Nat.pow_succ]
theorem half_lt {X : Nat} (h : X < 18446744073709551616) (j : Nat) : X / 2 ^ j < 18446744073709551616 := Nat.lt_of_le_of_lt (Nat.div_le_self _ _) h
theorem home_is (b k : Nat) : homeN b (k : Int) = k * 11400714819323198485 % 18446744073709551616 / 2 ^ (64 - b) := by unfold homeN; rw [Int.toNat_natCast]
/-- a table that the document's answer has: a row of slots that came in, or was made -/
def RtAt (w : World) (v : Value) (b : Nat) (S : List Nd) : Prop := OwnNd 87 w 0 v S ∧ S.length = 2 ^ b
theorem rt_form {w : World} {v : Value} {b : Nat} {S : List Nd} (h : RtAt w v b S) : ∃ g c, v = .slice (some ⟨g, 0, none⟩) (2 ^ b) c ∧ g < w.heap.size ∧ 2 ^ b ≤ c ∧ c ≤ maxLen ∧ ∀ k, k < 2 ^ b → w.cell? ⟨g, k * 2, none⟩ = some (.int .i64 (tAt S k).1) ∧ w.cell? ⟨g, k * 2 + 1, none⟩ = some (.int .i64 (tAt S k).2) := by
  have hp := Nat.two_pow_pos b
  rcases ownNd_form h.1 with ⟨_, rfl⟩ | ⟨g, cap, rfl, hb, hg, hn, hc, hi⟩
  · have := h.2; simp only [List.length_nil] at this; omega
  · rw [h.2] at hn
    refine ⟨g, cap, by rw [h.2], hg, hn, hc, fun k hk => ?_⟩
    have q := hi.2 k (by rw [h.2]; exact hk)
    rw [Nat.zero_add] at q
    exact q
end Go.Proofs.YtkoefclkpdpdpaaGreat

/- The document's answers of package dewpondref08: Get, Walk, way, Slots2, Nodes. -/
namespace Go.Proofs.YtkoefclkpdpdpaaGreat
set_option linter.unusedVariables false
set_option maxRecDepth 100000
open Go.RowKit

/-- the slots that are read -/
def SlAt (w : World) (g N : Nat) (S : List Nd) : Prop := g < w.heap.size ∧ ∀ k, k < N → w.cell? ⟨g, k * 2, none⟩ = some (.int .i64 (tAt S k).1) ∧ w.cell? ⟨g, k * 2 + 1, none⟩ = some (.int .i64 (tAt S k).2)
theorem SlAt.below {w w' : World} {g N : Nat} {S : List Nd} (h : SlAt w g N S) (hb : Below w.heap.size w w') : SlAt w' g N S :=
  ⟨Nat.lt_of_lt_of_le h.1 hb.size, fun k hk => ⟨(hb.cell (p := ⟨g, k * 2, none⟩) h.1).trans (h.2 k hk).1, (hb.cell (p := ⟨g, k * 2 + 1, none⟩) h.1).trans (h.2 k hk).2⟩⟩
end Go.Proofs.YtkoefclkpdpdpaaGreat

/- The document's answers of package dewpondref08: Nodes, put. -/
namespace Go.Proofs.YtkoefclkpdpdpaaGreat
set_option linter.unusedVariables false
set_option maxRecDepth 100000
open Go.RowKit

/-- a block of three cells -/
structure TBx (w : World) (q : Nat) (x y z : Value) : Prop where
  c0 : w.cell? ⟨q, 0, none⟩ = some x
  c1 : w.cell? ⟨q, 1, none⟩ = some y
  c2 : w.cell? ⟨q, 2, none⟩ = some z
  f0 : w.frozen? ⟨q, 0, none⟩ = false
  f1 : w.frozen? ⟨q, 1, none⟩ = false
  f2 : w.frozen? ⟨q, 2, none⟩ = false
  lt : q < w.heap.size
theorem TBx.to {w w' : World} {q B : Nat} {x y z : Value} (h : TBx w q x y z) (hb : Below B w w') (hB : q < B) : TBx w' q x y z :=
  ⟨(hb.cell (p := ⟨q, 0, none⟩) hB).trans h.c0, (hb.cell (p := ⟨q, 1, none⟩) hB).trans h.c1, (hb.cell (p := ⟨q, 2, none⟩) hB).trans h.c2,
   (hb.frozen (p := ⟨q, 0, none⟩) hB).trans h.f0, (hb.frozen (p := ⟨q, 1, none⟩) hB).trans h.f1, (hb.frozen (p := ⟨q, 2, none⟩) hB).trans h.f2, Nat.lt_of_lt_of_le h.lt hb.size⟩
theorem tbx_new (w : World) (t : TypeId) (x y z : Value) : TBx (w.alloc (.cells #[x, y, z] t)) w.heap.size x y z := ⟨by simp, by simp, by simp, by simp, by simp, by simp, by simp⟩
theorem TBx.alloc {w : World} {q : Nat} {x y z : Value} (h : TBx w q x y z) (o : Obj) : TBx (w.alloc o) q x y z := h.to ((Below.refl w.heap.size w).alloc (Nat.le_refl _) o) h.lt
theorem TBx.far {w : World} {q r k : Nat} {x y z : Value} (h : TBx w q x y z) (hr : r ≠ q) (v : Value) : TBx (w.setCell ⟨r, k, none⟩ v) q x y z := by
  have n : ∀ j, (⟨q, j, none⟩ : Addr) ≠ ⟨r, k, none⟩ := fun j e => by injection e with e; exact hr e.symm
  refine ⟨by rw [World.cell?_setCell_other _ _ _ _ (n 0).symm]; exact h.c0, by rw [World.cell?_setCell_other _ _ _ _ (n 1).symm]; exact h.c1, by rw [World.cell?_setCell_other _ _ _ _ (n 2).symm]; exact h.c2, ?_, ?_, ?_, ?_⟩
  · simp [h.f0]
  · simp [h.f1]
  · simp [h.f2]
  · simpa using h.lt
theorem TBx.set2 {w : World} {q : Nat} {x y z : Value} (h : TBx w q x y z) (v : Value) : TBx (w.setCell ⟨q, 2, none⟩ v) q x y v := by
  have n : ∀ j, j ≠ 2 → (⟨q, j, none⟩ : Addr) ≠ ⟨q, 2, none⟩ := fun j hj e => by injection e with _ e; exact hj e
  refine ⟨by rw [World.cell?_setCell_other _ _ _ _ (n 0 (by decide)).symm]; exact h.c0, by rw [World.cell?_setCell_other _ _ _ _ (n 1 (by decide)).symm]; exact h.c1, World.cell?_setCell_same (u := z) _ _ _ h.c2, ?_, ?_, ?_, ?_⟩
  · simp [h.f0]
  · simp [h.f1]
  · simp [h.f2]
  · simpa using h.lt
theorem TBx.set1 {w : World} {q : Nat} {x y z : Value} (h : TBx w q x y z) (v : Value) : TBx (w.setCell ⟨q, 1, none⟩ v) q x v z := by
  have n : ∀ j, j ≠ 1 → (⟨q, j, none⟩ : Addr) ≠ ⟨q, 1, none⟩ := fun j hj e => by injection e with _ e; exact hj e
  refine ⟨by rw [World.cell?_setCell_other _ _ _ _ (n 0 (by decide)).symm]; exact h.c0, World.cell?_setCell_same (u := y) _ _ _ h.c1, by rw [World.cell?_setCell_other _ _ _ _ (n 2 (by decide)).symm]; exact h.c2, ?_, ?_, ?_, ?_⟩
  · simp [h.f0]
  · simp [h.f1]
  · simp [h.f2]
  · simpa using h.lt
theorem TBx.set0 {w : World} {q : Nat} {x y z : Value} (h : TBx w q x y z) (v : Value) : TBx (w.setCell ⟨q, 0, none⟩ v) q v y z := by
  have n : ∀ j, j ≠ 0 → (⟨q, j, none⟩ : Addr) ≠ ⟨q, 0, none⟩ := fun j hj e => by injection e with _ e; exact hj e
  refine ⟨World.cell?_setCell_same (u := x) _ _ _ h.c0, by rw [World.cell?_setCell_other _ _ _ _ (n 1 (by decide)).symm]; exact h.c1, by rw [World.cell?_setCell_other _ _ _ _ (n 2 (by decide)).symm]; exact h.c2, ?_, ?_, ?_, ?_⟩
  · simp [h.f0]
  · simp [h.f1]
  · simp [h.f2]
  · simpa using h.lt
/-- all three stored anew, one behind the other -/
theorem TBx.all {w : World} {q : Nat} {x y z : Value} (h : TBx w q x y z) (a b c : Value) : TBx (((w.setCell ⟨q, 0, none⟩ a).setCell ⟨q, 1, none⟩ b).setCell ⟨q, 2, none⟩ c) q a b c := ((h.set0 a).set1 b).set2 c
theorem TBx.steps {w : World} {q : Nat} {x y z : Value} (h : TBx w q x y z) : (∀ a, (w.setCell ⟨q, 0, none⟩ a).cell? ⟨q, 0, none⟩ = some a) ∧ (∀ a b, ((w.setCell ⟨q, 0, none⟩ a).setCell ⟨q, 1, none⟩ b).cell? ⟨q, 1, none⟩ = some b) ∧ (∀ a b c, (((w.setCell ⟨q, 0, none⟩ a).setCell ⟨q, 1, none⟩ b).setCell ⟨q, 2, none⟩ c).cell? ⟨q, 2, none⟩ = some c) :=
  ⟨fun a => (h.set0 a).c0, fun a b => ((h.set0 a).set1 b).c1, fun a b c => (h.all a b c).c2⟩
/-- a store elsewhere keeps a row -/
theorem own_set {w : World} {base : Nat} {e : TypeId} {size n : Nat} {v : Value} {xs : List Value} (o : w.ownsRow base e size v n xs) {q : Nat} (h : v.ownBlock ≠ some q) (j : Nat) (u : Value) : (w.setCell ⟨q, j, none⟩ u).ownsRow base e size v n xs :=
  o.kept (row := some q) ⟨rfl, rfl, rfl, by simp, fun k hk hne => by
    have hk2 : ¬ q = k := fun e => hne (by rw [e])
    simp [World.setCell, Array.getElem?_modify, hk2]⟩ (.inr h)
theorem own_set3 {w : World} {base : Nat} {e : TypeId} {size n : Nat} {v : Value} {xs : List Value} (o : w.ownsRow base e size v n xs) {q : Nat} (h : v.ownBlock ≠ some q) (a b c : Value) : (((w.setCell ⟨q, 0, none⟩ a).setCell ⟨q, 1, none⟩ b).setCell ⟨q, 2, none⟩ c).ownsRow base e size v n xs := own_set (own_set (own_set o h 0 a) h 1 b) h 2 c
theorem below_set3 {w w1 : World} {B q : Nat} (h : Below B w w1) (hq : B ≤ q) (a b c : Value) : Below B w (((w1.setCell ⟨q, 0, none⟩ a).setCell ⟨q, 1, none⟩ b).setCell ⟨q, 2, none⟩ c) :=
  ((h.setCell (p := ⟨q, 0, none⟩) hq a).setCell (p := ⟨q, 1, none⟩) hq b).setCell (p := ⟨q, 2, none⟩) hq c
/-- what a call leaves that hands a table out -/
def RtPost (l : Int) (b : Nat) (S : List Nd) (w : World) (e : Ending) (w' : World) : Prop :=
  ∃ g c : Nat, e = .returned (.agg #[.int .i64 l, .int .i64 (b : Int), .slice (some ⟨g, 0, none⟩) (2 ^ b) c]) ∧ OwnNd 87 w' w.heap.size (.slice (some ⟨g, 0, none⟩) (2 ^ b) c) S ∧ Below w.heap.size w w'
theorem sl_own {w : World} {B g c b : Nat} {S : List Nd} (h : OwnNd 87 w B (.slice (some ⟨g, 0, none⟩) (2 ^ b) c) S) : SlAt w g (2 ^ b) S := by
  have hn := (nodes_cells (ownNd_nodes h)).1
  obtain ⟨g2, c2, e, hg, _, _, q⟩ := rt_form (v := .slice (some ⟨g, 0, none⟩) (2 ^ b) c) ⟨own_low h (Nat.zero_le _), hn.symm⟩
  injection e with e _ _
  injection e with e
  injection e with e
  subst e
  exact ⟨hg, q⟩
theorem put_boxes (w : World) (t1 t2 t3 : TypeId) (x y z u v a b c : Value) (w1 : World) (hb : Below (((w.alloc (.cells #[x, y, z] t1)).alloc (.cells #[u, v] t2)).alloc (.cells #[a, b, c] t3)).heap.size (((w.alloc (.cells #[x, y, z] t1)).alloc (.cells #[u, v] t2)).alloc (.cells #[a, b, c] t3)) w1) :
    TBx w1 w.heap.size x y z ∧ w1.cell? ⟨w.heap.size + 1, 0, none⟩ = some u ∧ w1.cell? ⟨w.heap.size + 1, 1, none⟩ = some v ∧ TBx w1 (w.heap.size + 1 + 1) a b c := by
  have e1 : (w.alloc (.cells #[x, y, z] t1)).heap.size = w.heap.size + 1 := by simp
  have e2 : ((w.alloc (.cells #[x, y, z] t1)).alloc (.cells #[u, v] t2)).heap.size = w.heap.size + 1 + 1 := by simp
  have e3 : (((w.alloc (.cells #[x, y, z] t1)).alloc (.cells #[u, v] t2)).alloc (.cells #[a, b, c] t3)).heap.size = w.heap.size + 1 + 1 + 1 := by simp
  have q3 := tbx_new ((w.alloc (.cells #[x, y, z] t1)).alloc (.cells #[u, v] t2)) t3 a b c
  have v0 : ((w.alloc (.cells #[x, y, z] t1)).alloc (.cells #[u, v] t2)).cell? ⟨(w.alloc (.cells #[x, y, z] t1)).heap.size, 0, none⟩ = some u := by simp
  have v1 : ((w.alloc (.cells #[x, y, z] t1)).alloc (.cells #[u, v] t2)).cell? ⟨(w.alloc (.cells #[x, y, z] t1)).heap.size, 1, none⟩ = some v := by simp
  rw [e1] at v0 v1
  have hb4 := (Below.refl ((w.alloc (.cells #[x, y, z] t1)).alloc (.cells #[u, v] t2)).heap.size ((w.alloc (.cells #[x, y, z] t1)).alloc (.cells #[u, v] t2))).alloc (Nat.le_refl _) (.cells #[a, b, c] t3)
  rw [e2] at hb4
  have u0 := (hb4.cell (p := ⟨w.heap.size + 1, 0, none⟩) (by show w.heap.size + 1 < _; omega)).trans v0
  have u1 := (hb4.cell (p := ⟨w.heap.size + 1, 1, none⟩) (by show w.heap.size + 1 < _; omega)).trans v1
  rw [e2] at q3
  rw [e3] at hb
  exact ⟨(((tbx_new w t1 x y z).alloc _).alloc _).to hb (by omega), (hb.cell (p := ⟨w.heap.size + 1, 0, none⟩) (by show w.heap.size + 1 < _; omega)).trans u0, (hb.cell (p := ⟨w.heap.size + 1, 1, none⟩) (by show w.heap.size + 1 < _; omega)).trans u1, q3.to hb (by omega)⟩
end Go.Proofs.YtkoefclkpdpdpaaGreat

/- The document's answers of package dewpondref08: Add. -/
namespace Go.Proofs.YtkoefclkpdpdpaaGreat
set_option linter.unusedVariables false
set_option maxRecDepth 100000
open Go.RowKit

theorem keep_three {W a b : World} {p q r : Addr} {x y z : Value} (h : a.cell? p = some x ∧ a.cell? q = some y ∧ a.cell? r = some z ∧ Below W.heap.size W a) (hb : Below a.heap.size a b) (hp : p.block < W.heap.size) (hq : q.block < W.heap.size) (hr : r.block < W.heap.size) : b.cell? p = some x ∧ b.cell? q = some y ∧ b.cell? r = some z ∧ Below W.heap.size W b := by
  obtain ⟨h1, h2, h3, h4⟩ := h
  have hz := h4.size
  exact ⟨(hb.cell (by omega)).trans h1, (hb.cell (by omega)).trans h2, (hb.cell (by omega)).trans h3, h4.trans (hb.mono hz)⟩
theorem below_of3 {W a : World} {p q r : Addr} {x y z : Value} (h : a.cell? p = some x ∧ a.cell? q = some y ∧ a.cell? r = some z ∧ Below W.heap.size W a) : Below W.heap.size W a := h.2.2.2
/-- a box of two cells that the region itself made -/
def Duo (w : World) (q : Nat) (x y : Value) : Prop := w.cell? ⟨q, 0, none⟩ = some x ∧ w.cell? ⟨q, 1, none⟩ = some y ∧ w.frozen? ⟨q, 0, none⟩ = false ∧ w.frozen? ⟨q, 1, none⟩ = false ∧ q < w.heap.size
theorem duo_alloc {w w2 : World} {t : TypeId} {x y : Value} (hb : Below (w.alloc (.cells #[x, y] t)).heap.size (w.alloc (.cells #[x, y] t)) w2) : Duo w2 w.heap.size x y := by
  have z : w.heap.size < (w.alloc (.cells #[x, y] t)).heap.size := by simp
  have a0 : (w.alloc (.cells #[x, y] t)).cell? ⟨w.heap.size, 0, none⟩ = some x := by simp
  have a1 : (w.alloc (.cells #[x, y] t)).cell? ⟨w.heap.size, 1, none⟩ = some y := by simp
  have b0 : (w.alloc (.cells #[x, y] t)).frozen? ⟨w.heap.size, 0, none⟩ = false := by simp
  have b1 : (w.alloc (.cells #[x, y] t)).frozen? ⟨w.heap.size, 1, none⟩ = false := by simp
  exact ⟨(hb.cell (p := ⟨w.heap.size, 0, none⟩) z).trans a0, (hb.cell (p := ⟨w.heap.size, 1, none⟩) z).trans a1, (hb.frozen (p := ⟨w.heap.size, 0, none⟩) z).trans b0, (hb.frozen (p := ⟨w.heap.size, 1, none⟩) z).trans b1, Nat.lt_of_lt_of_le z hb.size⟩
theorem duo_kept {w w2 : World} {q : Nat} {x y : Value} (h : Duo w q x y) (hb : Below w.heap.size w w2) : Duo w2 q x y :=
  ⟨(hb.cell (p := ⟨q, 0, none⟩) h.2.2.2.2).trans h.1, (hb.cell (p := ⟨q, 1, none⟩) h.2.2.2.2).trans h.2.1, (hb.frozen (p := ⟨q, 0, none⟩) h.2.2.2.2).trans h.2.2.1, (hb.frozen (p := ⟨q, 1, none⟩) h.2.2.2.2).trans h.2.2.2.1, Nat.lt_of_lt_of_le h.2.2.2.2 hb.size⟩
theorem duo_set {w : World} {q : Nat} {x y : Value} (h : Duo w q x y) : (∀ u, (w.setCell ⟨q, 0, none⟩ u).cell? ⟨q, 1, none⟩ = some y) := fun u => by
  rw [World.cell?_setCell_other _ _ _ _ (ad_ne q)]; exact h.2.1
/-- what a call leaves that hands a table out, and a number: the table is the one that came in, or new -/
def RdPost (l : Int) (b : Nat) (S : List Nd) (n : Int) (v0 : Value) (w : World) (e : Ending) (w' : World) : Prop :=
  ∃ g c : Nat, e = .returned (.tuple #[.agg #[.int .i64 l, .int .i64 (b : Int), .slice (some ⟨g, 0, none⟩) (2 ^ b) c], .int .i64 n]) ∧ OwnNd 87 w' 0 (.slice (some ⟨g, 0, none⟩) (2 ^ b) c) S ∧ Below w.heap.size w w' ∧ (Value.slice (some ⟨g, 0, none⟩) (2 ^ b) c = v0 ∨ w.heap.size ≤ g)
theorem two_boxes (w : World) (t1 t2 : TypeId) (x y z a b c : Value) : Below w.heap.size w ((w.alloc (.cells #[x, y, z] t1)).alloc (.cells #[a, b, c] t2)) ∧ TBx ((w.alloc (.cells #[x, y, z] t1)).alloc (.cells #[a, b, c] t2)) w.heap.size x y z ∧ TBx ((w.alloc (.cells #[x, y, z] t1)).alloc (.cells #[a, b, c] t2)) (w.heap.size + 1) a b c ∧ ((w.alloc (.cells #[x, y, z] t1)).alloc (.cells #[a, b, c] t2)).heap.size = w.heap.size + 2 := by
  have e1 : (w.alloc (.cells #[x, y, z] t1)).heap.size = w.heap.size + 1 := by simp
  have q := tbx_new (w.alloc (.cells #[x, y, z] t1)) t2 a b c
  rw [e1] at q
  exact ⟨((Below.refl _ _).alloc (Nat.le_refl _) _).alloc (by simp) _, (tbx_new w t1 x y z).alloc _, q, by simp⟩
theorem grow_facts {w w4 : World} {T : TypeId} {h0 B4 M b m4 k4 : Nat} {l bo sl x y z : Value} {A4 : Option Addr} {X : List Nd} (T1 : TBx w4 h0 l bo sl) (T2 : TBx w4 (h0 + 1) x y z) (O : OwnNd T w4 B4 (.slice A4 m4 k4) X) (hB : h0 < B4) (hM : M = 2 ^ (b + 1)) (BC : Below h0 w w4) (b1 : Value) (hM2 : M ≤ 2199023255552) :
    TBx (((w4.setCell ⟨h0, 1, none⟩ b1).setCell ⟨h0, 2, none⟩ (.slice (some ⟨w4.heap.size, 0, none⟩) M M)).alloc (.cells (blank (.agg #[.int .i64 0, .int .i64 0]) (M * 2)) T)) h0 l b1 (.slice (some ⟨w4.heap.size, 0, none⟩) M M) ∧
    TBx (((w4.setCell ⟨h0, 1, none⟩ b1).setCell ⟨h0, 2, none⟩ (.slice (some ⟨w4.heap.size, 0, none⟩) M M)).alloc (.cells (blank (.agg #[.int .i64 0, .int .i64 0]) (M * 2)) T)) (h0 + 1) x y z ∧
    OwnNd T (((w4.setCell ⟨h0, 1, none⟩ b1).setCell ⟨h0, 2, none⟩ (.slice (some ⟨w4.heap.size, 0, none⟩) M M)).alloc (.cells (blank (.agg #[.int .i64 0, .int .i64 0]) (M * 2)) T)) B4 (.slice A4 m4 k4) X ∧
    OwnNd T (((w4.setCell ⟨h0, 1, none⟩ b1).setCell ⟨h0, 2, none⟩ (.slice (some ⟨w4.heap.size, 0, none⟩) M M)).alloc (.cells (blank (.agg #[.int .i64 0, .int .i64 0]) (M * 2)) T)) w4.heap.size (.slice (some ⟨w4.heap.size, 0, none⟩) M M) (putL (b + 1) []) ∧
    Below h0 w (((w4.setCell ⟨h0, 1, none⟩ b1).setCell ⟨h0, 2, none⟩ (.slice (some ⟨w4.heap.size, 0, none⟩) M M)).alloc (.cells (blank (.agg #[.int .i64 0, .int .i64 0]) (M * 2)) T)) ∧
    w4.heap.size < (((w4.setCell ⟨h0, 1, none⟩ b1).setCell ⟨h0, 2, none⟩ (.slice (some ⟨w4.heap.size, 0, none⟩) M M)).alloc (.cells (blank (.agg #[.int .i64 0, .int .i64 0]) (M * 2)) T)).heap.size := by
  have hs : ((w4.setCell ⟨h0, 1, none⟩ b1).setCell ⟨h0, 2, none⟩ (.slice (some ⟨w4.heap.size, 0, none⟩) M M)).heap.size = w4.heap.size := by simp
  have bw := (BC.setCell (p := ⟨h0, 1, none⟩) (Nat.le_refl _) b1).setCell (p := ⟨h0, 2, none⟩) (Nat.le_refl _) (.slice (some ⟨w4.heap.size, 0, none⟩) M M)
  have t1 := (T1.set1 b1).set2 (.slice (some ⟨w4.heap.size, 0, none⟩) M M)
  have t2 := (T2.far (r := h0) (k := 1) (by omega) b1).far (r := h0) (k := 2) (by omega) (.slice (some ⟨w4.heap.size, 0, none⟩) M M)
  have o := ownsRow_setCell_below (ownsRow_setCell_below O (a := ⟨h0, 1, none⟩) hB b1) (a := ⟨h0, 2, none⟩) hB (.slice (some ⟨w4.heap.size, 0, none⟩) M M)
  have hl1 := T1.lt
  generalize (w4.setCell ⟨h0, 1, none⟩ b1).setCell ⟨h0, 2, none⟩ (.slice (some ⟨w4.heap.size, 0, none⟩) M M) = v at *
  have r := World.ownsRow_lit (base := w4.heap.size) (e := T) (size := 2) v (blank (.agg #[.int .i64 0, .int .i64 0]) (M * 2)) M (by omega) (by unfold maxLen; omega) (by rw [blank_size])
  rw [hs, blank_nodes] at r
  refine ⟨t1.alloc _, t2.alloc _, o.alloc _, ?_, bw.alloc (by omega) _, by simp; omega⟩
  show World.ownsRow _ _ _ _ _ _ _
  have e : putL (b + 1) [] = List.replicate M nz := by rw [hM]; rfl
  rw [e, List.length_replicate]
  exact r
theorem rt_as {l : Int} {b M : Nat} {X : List Nd} {w w' : World} {e : Ending} (q : RtPost l (b + 1) X w e w') (h1 : ((b + 1 : Nat) : Int) = (b : Int) + 1) (h2 : M = 2 ^ (b + 1)) :
    ∃ g c : Nat, e = .returned (.agg #[.int .i64 l, .int .i64 ((b : Int) + 1), .slice (some ⟨g, 0, none⟩) M c]) ∧ OwnNd 87 w' w.heap.size (.slice (some ⟨g, 0, none⟩) M c) X ∧ Below w.heap.size w w' := by
  obtain ⟨g, c, e1, e2, e3⟩ := q
  rw [h1, ← h2] at e1
  rw [← h2] at e2
  exact ⟨g, c, e1, e2, e3⟩
/-- one node more is put into the greater table -/
theorem put_round {l : Int} {b k : Nat} {S L : List Nd} (T : Tb l b S L) (hb : b ≤ 61) (hk : k < (ndsT S).length) :
    Put (b + 1) ((ndsT S).take k) (putL (b + 1) ((ndsT S).take k)) ∧ ((ndsT S).take k).length < 2 ^ (b + 1) ∧
    (1 ≤ ((ndsT S).getD k nz).1 ∧ ((ndsT S).getD k nz).1 ≤ 9223372036854775807) ∧
    (tAt (putL (b + 1) ((ndsT S).take k)) (posOf (b + 1) (putL (b + 1) ((ndsT S).take k)) ((ndsT S).getD k nz).1)).2 = 0 ∧ 1 ≤ ((ndsT S).getD k nz).2 ∧ ((ndsT S).getD k nz).2 ≤ 9223372036854775807 ∧
    putL (b + 1) ((ndsT S).take (k + 1)) = (putL (b + 1) ((ndsT S).take k)).set (posOf (b + 1) (putL (b + 1) ((ndsT S).take k)) ((ndsT S).getD k nz).1) ((ndsT S).getD k nz) := by
  have hp : 2 ^ (b + 1) = 2 * 2 ^ b := by rw [Nat.pow_succ]; omega
  have p3 := pow_3 T.tab.b3
  have hf := T.half
  have hc := T.cnt
  have h3 := T.tab.b3
  have P := put_take (b := b + 1) (by omega) (by omega) (nds_ids T.tab) (fun n hn => nds_pos T.tab hn) (by omega) k (by omega)
  have hl : ((ndsT S).take k).length < 2 ^ (b + 1) := by rw [List.length_take]; omega
  have hx := nds_pos T.tab (nd_mem hk)
  have hx2 := nds_bds T _ (nd_mem hk)
  have st := put_step P hl hx.1 hx.2 fun n hn => by
    have e := List.take_append_drop k (ndsT S)
    have hi := nds_ids T.tab
    rw [← e] at hi
    exact (List.pairwise_append.1 hi).2.2 n hn ((ndsT S).getD k nz) (by rw [nd_drop hk]; simp)
  refine ⟨P, hl, ⟨hx.1, hx2.1.2⟩, (zero_slot P.tab).1 st.2, hx.2, hx2.2.2, ?_⟩
  rw [nd_take hk, putL_snoc]
  rfl
end Go.Proofs.YtkoefclkpdpdpaaGreat

/- The document's answers of package dewpondref11: Ahead, With. -/
namespace Go.Proofs.YtkoefclkpdpdpaaGreat
set_option linter.unusedVariables false
set_option maxRecDepth 100000
open Go.RowKit

/-- all numbers of a slice that is read, appended to a row of the call's own -/
theorem push_all (w : World) {ops : Array Oper} {rest : List Oper} {o : Oper} {a : Act} {Z : Exit → Act → World → Prop} (hg : o.guard = none) (s x : Operand)
    (hop : o.op = Op.call { callee := Callee.builtin Builtin.append, args := #[s, x], argTypes := #[50, 50] }) {B : Nat} (v : Value) (T U : List Int) {A : Option Addr} {m c : Nat}
    (hs : a.eval s = v) (row : OwnI 3 w B v T) (hx : a.eval x = .slice A m c) (hm : m = U.length) (hA : A = none → c = 0) (hc : Cells w A m (fun k => .int .i64 (U.getD k 0))) (hn : T.length + m ≤ 100000) (hB : B ≤ w.heap.size)
    (h : ∀ v' w', OwnI 3 w' B v' (T ++ U) → w.grownBy w' v.ownBlock → At2 w v v' → wpList Tryz.prog ops Z rest (a.put o.dst v') w') : wpList Tryz.prog ops Z (o :: rest) a w := by
  obtain ⟨i0, hi, hz0, hz1, hz2⟩ := info_parts foInt_info
  cases A with
  | none =>
    have hU : U = [] := by
      rcases Nat.eq_zero_or_pos m with q | q
      · exact List.eq_nil_of_length_eq_zero (by omega)
      · obtain ⟨b, o, e, _⟩ := hc q; cases e
    subst hU
    have hc0 := hA rfl
    subst hc0
    simp at hm
    subst hm
    refine wpList_append_own_none hg s x 50 hop B 3 i0 1 Tryz.underlying50 hi v T.length (ints T) hs row hx ?_
    exact h v w (by rw [List.append_nil]; exact row) ⟨rfl, rfl, rfl, Nat.le_refl _, fun _ _ _ => rfl⟩ (At2.refl _ _)
  | some ad =>
    refine wpList_append_own_at w hg s x 50 hop B 3 i0 (.int .i64 0) 1 8 Tryz.underlying50 hi hz0 hz1 hz2 rfl (by decide) v T.length (ints T) hs row ad m c (ints U) hx (by rw [ints_len]; omega) (fun j u hj => ?_) (fun u hu => ?_) (by unfold maxLen; omega) (by omega) hB ?_
    · have hjl : j < U.length := by have := (List.getElem?_eq_some_iff.1 hj).1; rwa [ints_len] at this
      obtain ⟨b, o, e, hbl, hcell⟩ := hc (by omega)
      injection e with e
      subst e
      have q := hcell j (by omega)
      have eu : u = .int .i64 (U.getD j 0) := by
        have := List.getElem?_eq_getElem hjl
        simp [ints, this] at hj
        rw [← hj]; simp [List.getD_eq_getElem?_getD, this]
      rw [eu]
      refine Eq.trans (congrArg w.cell? ?_) q
      unfold Addr.add
      split
      · rename_i hz; rw [hz]; rfl
      · rfl
    · unfold ints at hu
      obtain ⟨x, _, rfl⟩ := List.mem_map.1 hu
      rfl
    · intro v' w' r1 r2 _ r4
      refine h v' w' ⟨by simp [ints], ?_⟩ r2 (at_two (r4.imp id fun q => ⟨_, q, Nat.le_refl _⟩))
      have q := r1.2
      rw [← ints_app] at q
      rw [List.length_append, ← hm]
      exact q
/-- a slice of numbers that is read, and can be cut -/
structure IntsC (w : World) (A : Option Addr) (n c : Nat) (T : List Int) : Prop where
  at' : IntsAt w (.slice A n c) T
  le : n ≤ c
  nil : A = none → c = 0
theorem IntsC.below {w w' : World} {A : Option Addr} {n c : Nat} {T : List Int} (h : IntsC w A n c T) (hb : Below w.heap.size w w') : IntsC w' A n c T := ⟨h.at'.below hb, h.le, h.nil⟩
theorem IntsC.len {w : World} {A : Option Addr} {n c : Nat} {T : List Int} (h : IntsC w A n c T) : n = T.length := (ints_cells h.at').1
theorem IntsC.cells {w : World} {A : Option Addr} {n c : Nat} {T : List Int} (h : IntsC w A n c T) : Cells w A n (fun k => .int .i64 (T.getD k 0)) := by have := (ints_cells h.at').2; rwa [← h.len] at this
theorem intsC_nil (w : World) : IntsC w none 0 0 [] := ⟨ints_nil w, Nat.le_refl _, fun _ => rfl⟩
theorem ownI_c {e : TypeId} {w : World} {B : Nat} {A : Option Addr} {n c : Nat} {T : List Int} (h : OwnI e w B (.slice A n c) T) : IntsC w A n c T := by
  refine ⟨ownI_ints h, ?_, ?_⟩
  · rcases ownI_form h with ⟨e, _⟩ | ⟨g, cap, e, _, _, hn, _⟩
    · injection e with e1 e2 e3; omega
    · injection e with e1 e2 e3; omega
  · intro q
    rcases ownI_form h with ⟨e, _⟩ | ⟨g, cap, e, _, _, hn, _⟩
    · injection e
    · injection e with e1; rw [q] at e1; cases e1
theorem cells_take {w : World} {A : Option Addr} {n k : Nat} {T : List Int} (h : Cells w A n (fun k => .int .i64 (T.getD k 0))) (hk : k ≤ n) : Cells w A k (fun j => .int .i64 ((T.take k).getD j 0)) := fun h0 => by
  obtain ⟨b, o, e, hl, hc⟩ := h (by omega)
  refine ⟨b, o, e, hl, fun j hj => ?_⟩
  rw [hc j (by omega)]
  simp [List.getD_eq_getElem?_getD, hj]
theorem cells_drop {w : World} {a : Addr} {n k c : Nat} {T : List Int} (h : Cells w (some a) n (fun k => .int .i64 (T.getD k 0))) (hk : k ≤ n) (hc : n ≤ c) : Cells w (some (advA a c k 1)) (n - k) (fun j => .int .i64 ((T.drop k).getD j 0)) := fun h0 => by
  obtain ⟨b, o, e, hl, hcell⟩ := h (by omega)
  injection e with e
  subst e
  refine ⟨b, o + k, ?_, hl, fun j hj => ?_⟩
  · have hne : ¬ c = k := by omega
    unfold advA
    rw [if_neg hne]
    unfold Addr.add
    split
    · rename_i hz; rw [Nat.mul_one] at hz; rw [hz]; rfl
    · rw [Nat.mul_one]
  · have q := hcell (k + j) (by omega)
    rw [show o + k + j = o + (k + j) by omega, q]
    simp [List.getD_eq_getElem?_getD]
/-- a slice that lies in new blocks, if anywhere -/
def NewA (A : Option Addr) (k : Nat) : Prop := ∀ ad, A = some ad → k ≤ ad.block
theorem own_newA {e : TypeId} {w : World} {B : Nat} {A : Option Addr} {n c : Nat} {T : List Int} (h : OwnI e w B (.slice A n c) T) : NewA A B := fun ad q => by
  subst q
  exact (World.ownsRow.lt h ad.block rfl).1
theorem NewA.mono {A : Option Addr} {k j : Nat} (h : NewA A k) (hj : j ≤ k) : NewA A j := fun ad q => Nat.le_trans hj (h ad q)
end Go.Proofs.YtkoefclkpdpdpaaGreat

/- The document's answers of package dewpondref11: Agenda, Parents. -/
namespace Go.Proofs.YtkoefclkpdpdpaaGreat
set_option linter.unusedVariables false
set_option maxRecDepth 100000
open Go.RowKit

theorem agH_bd {ids : List Int} (h : ∀ x ∈ ids, -9223372036854775808 ≤ x ∧ x ≤ 9223372036854775807) (k : Nat) : ∀ y ∈ agH [] (ids.take k), -9223372036854775808 ≤ y ∧ y ≤ 9223372036854775807 := fun y hy => by
  rcases (agH_mem [] (ids.take k) y).1 hy with q | q
  · simp at q
  · exact h y (List.mem_of_mem_take q.2)
theorem agH_tlen (ids : List Int) (k : Nat) : (agH [] (ids.take k)).length ≤ k := by
  have a := agH_len [] (ids.take k)
  simp at a
  omega
end Go.Proofs.YtkoefclkpdpdpaaGreat

/- The document's answers of package dewpondref11: Mass, Ready, First. -/
namespace Go.Proofs.YtkoefclkpdpdpaaGreat
set_option linter.unusedVariables false
set_option maxRecDepth 100000
open Go.RowKit
attribute [local go_sem ↓] Go.wp_at_zero Go.wp_at_succ

end Go.Proofs.YtkoefclkpdpdpaaGreat

/- The document's answer of package dewpondref11: Do. -/
namespace Go.Proofs.YtkoefclkpdpdpaaGreat
set_option linter.unusedVariables false
set_option maxRecDepth 100000
open Go.RowKit

end Go.Proofs.YtkoefclkpdpdpaaGreat

/- The document's answers of package dewpondref12: Is, Bound, Cap, Tight, Light. -/
namespace Go.Proofs.YtkoefclkpdpdpaaGreat
set_option linter.unusedVariables false
set_option maxRecDepth 100000
open Go.RowKit

theorem rPrIs_any (k : Int) (w : World) : Calls Tryz.prog 109 #[.int .i64 k] w fun e w' => e = .returned (.bool (kIs k)) ∧ w = w' := by
  unfold kIs
  by_cases h1 : 1 ≤ k
  · have c1 : decide (1 ≤ k) = true := decide_eq_true h1
    by_cases h2 : k ≤ 1048576
    · have c2 : decide (k ≤ 1048576) = true := decide_eq_true h2
      have H := Lib.hid (decide_eq_true (p := 1 ≤ k ∧ k ≤ 1048576) ⟨h1, h2⟩)
      clear h1 h2
      go_enter Tryz.func109, Tryz.ntmps109
      go_wp2_with fail
      go_ret
      exact ⟨by rw [H.out]; rfl, rfl⟩
    · have c2 : decide (k ≤ 1048576) = false := decide_eq_false h2
      have H := Lib.hid (decide_eq_false (p := 1 ≤ k ∧ k ≤ 1048576) fun q => h2 q.2)
      clear h1 h2
      go_enter Tryz.func109, Tryz.ntmps109
      go_wp2_with fail
      go_ret
      exact ⟨by rw [H.out]; rfl, rfl⟩
  · have c1 : decide (1 ≤ k) = false := decide_eq_false h1
    have H := Lib.hid (decide_eq_false (p := 1 ≤ k ∧ k ≤ 1048576) fun q => h1 q.1)
    clear h1
    go_enter Tryz.func109, Tryz.ntmps109
    go_wp2_with fail
    go_ret
    exact ⟨by rw [H.out]; rfl, rfl⟩
theorem rPrCap_any (l k : Int) (A : Option Addr) (n c : Nat) (L : List Nd) (w : World) (h : NodesAt w (.slice A n c) L) (hr : RollC l L) (hn : n ≤ 1000) (K0 : -9223372036854775808 ≤ k) (K1 : k ≤ 9223372036854775807) :
    Calls Tryz.prog 114 #[.agg #[.int .i64 l, .slice A n c], .int .i64 k] w fun e w' => e = .returned (.int .i64 (quoN (sumC L) k)) ∧ Below w.heap.size w w' := by
  have HB0 : Hid (Below w.heap.size w (w.alloc (.cells #[.int .i64 l, .slice A n c] 29))) := (Below.refl _ _).alloc (Nat.le_refl _) _
  have TT := Lib.hid (rsTotal_any l A n c L _ (h.below HB0.out) hr (by omega))
  have nn := good_nonneg (roll_good hr)
  have s0 : 0 ≤ sumC L := Int.le_trans (sum_le nn 0).1 (sum_le nn 0).2
  have s1 := hr.2.2.2.2
  have CP := Lib.hid (fun w => rFoCap_any (sumC L) k w (by omega) (by omega) K0 K1)
  clear h hr nn
  generalize quoN (sumC L) k = q at *
  generalize sumC L = s at *
  go_enter Tryz.func114, Tryz.ntmps114
  go_wp2_with (first
    | (go_at_call 90; refine TT.out.mono ?_; rintro e w1 ⟨rfl, hb1⟩)
    | (go_at_call 141; refine (CP.out _).mono ?_; rintro e w2 ⟨rfl, rfl⟩))
  go_ret
  exact ⟨rfl, HB0.out.trans (hb1.mono HB0.out.size)⟩
theorem light_snoc {l cap : Int} {L : List Nd} {k : Nat} (hk : k < L.length) (h : LightC l cap (L.take k)) (h2 : KidC l (L.getD k nz).1 → (L.getD k nz).2 ≤ cap) : LightC l cap (L.take (k + 1)) := by
  rw [nd_take hk]
  intro m hm hq
  rcases List.mem_append.1 hm with z | z
  · exact h m z hq
  · rw [List.mem_singleton.1 z] at hq ⊢
    exact h2 hq
theorem prBelow4 {W a : World} {p q r s : Addr} {x y z u : Value} (h : a.cell? p = some x ∧ a.cell? q = some y ∧ a.cell? r = some z ∧ a.cell? s = some u ∧ Below W.heap.size W a) : Below W.heap.size W a := h.2.2.2.2
set_option maxHeartbeats 3200000 in
theorem rPrLight_any (l k : Int) (A : Option Addr) (n c : Nat) (L : List Nd) (w : World) (h : NodesAt w (.slice A n c) L) (hr : RollC l L) (hn : n ≤ 1000) (K0 : -9223372036854775808 ≤ k) (K1 : k ≤ 9223372036854775807) :
    Calls Tryz.prog 73 #[.agg #[.int .i64 l, .slice A n c], .int .i64 k] w fun e w' => e = .returned (.bool (lightB l L k)) ∧ Below w.heap.size w w' := by
  have HB0 : Hid (Below w.heap.size w (w.alloc (.cells #[.int .i64 l, .slice A n c] 29))) := (Below.refl _ _).alloc (Nat.le_refl _) _
  have XR := Lib.hid (foBx2 w 29 (.int .i64 l) (.slice A n c))
  have u : 1 ≤ l ∧ l ≤ 48 := of_decide_eq_true hr.1
  have HL := Lib.hid (nodes_cells h).1
  have HA := Lib.hid (nodes_cells h).2.2.2
  have NB := Lib.hid (nbds_roll hr)
  have IS := Lib.hid (fun w => rPrIs_any k w)
  have CP := Lib.hid (fun w1 (hb : Below w.heap.size w w1) => rPrCap_any l k A n c L w1 (h.below hb) hr hn K0 K1)
  have RES : Hid (∀ b : Bool, (b = true → kIs k = true → LightC l (quoN (sumC L) k) L) → (b = false → ¬ LightC l (quoN (sumC L) k) L ∨ kIs k = false) → (kIs k && b) = lightB l L k) := by
    intro b h1 h2
    unfold lightB
    cases hk : kIs k
    · simp
    · rw [cap_quo hr hk] at h1 h2
      rw [hk] at h2
      cases b
      · rcases h2 rfl with q | q
        · rw [decide_eq_false q]
        · cases q
      · rw [decide_eq_true (h1 rfl hk)]
  generalize hcp : quoN (sumC L) k = cap at *
  clear h hr hcp
  go_enter Tryz.func73, Tryz.ntmps73
  go_wp2_with fail
  generalize w.alloc (.cells #[.int .i64 l, .slice A n c] 29) = W at *
  go_loopw [5] (fun i wr => ∃ m : Nat, m ≤ n ∧ i = .int .i64 m ∧ LightC l cap (L.take m) ∧ Below W.heap.size W wr) (fun i _ => n - (intOf i).toNat)
  case atStart => exact ⟨0, by omega, rfl, fun _ hm => by simp at hm, Below.refl _ _⟩
  case round =>
    rename_i wr
    obtain ⟨m, hm, rfl, hlt, hb⟩ := hrel
    have LT := Lib.hid hlt
    have BB := Lib.hid hb
    have BW := Lib.hid (HB0.out.trans (hb.mono HB0.out.size))
    obtain ⟨x0, x1, _, _, hz⟩ := box_cells (own_below XR.out hb)
    have HZ := Lib.hid hz
    clear hlt hb hz
    by_cases hlt : m < n
    · have hk2 : m < L.length := by have := HL.out; omega
      obtain ⟨b, o, rfl, hin⟩ := HA.out (by omega)
      obtain ⟨e0, e1⟩ := (hin.below BW.out hin.1).2 m hk2
      have HQ : Hid (b < wr.heap.size) := Nat.lt_of_lt_of_le hin.1 BW.out.size
      have hx := nbds_at NB.out hk2
      have SN := Lib.hid (fun h => light_snoc (k := m) (l := l) (cap := cap) hk2 LT.out h)
      have NO : Hid (KidC l (L.getD m nz).1 → cap < (L.getD m nz).2 → ¬ LightC l cap L) := fun h1 h2 h3 => by
        have := h3 _ (nd_mem hk2) h1
        omega
      clear hin
      generalize (L.getD m nz).1 = x at *
      generalize (L.getD m nz).2 = y at *
      have KD := Lib.hid (fun w => rkids_any l x w (by omega) (by omega) hx.1.1 hx.1.2)
      have k0 : (0 : Int) ≤ (m : Int) := Int.natCast_nonneg _
      have k1 : (m : Int) < (n : Int) := by omega
      by_cases hk : KidC l x
      · obtain ⟨k1, k2, k3⟩ := kid_yes hk
        rw [k1, k2, k3] at KD
        clear k1 k2 k3
        by_cases hc : cap < y
        · have c1 : decide (y > cap) = true := decide_eq_true hc
          have RR := Lib.hid (RES.out false (fun q => by cases q) (fun _ => .inl (NO.out hk hc)))
          clear hk hc
          go_wp2_with fail
          go_region_held3 (fun w' => w'.cell? ⟨w.heap.size, 0, none⟩ = some (.int .i64 l) ∧ w'.cell? ⟨w.heap.size, 1, none⟩ = some (.slice (some ⟨b, o, none⟩) n c) ∧ w'.cell? ⟨b, o + m * 2, none⟩ = some (.int .i64 x) ∧ w'.cell? ⟨b, o + m * 2 + 1, none⟩ = some (.int .i64 y) ∧ Below wr.heap.size wr w')
            (first | assumption | (exact keep4 (by assumption) (by assumption) HZ.out HZ.out HQ.out HQ.out) | (exact ⟨x0, x1, e0, e1, below_drew _⟩))
            (first | (go_at_call 113; refine (KD.out _).mono ?_; rintro e w6 ⟨rfl, rfl⟩))
          rename_i hH
          obtain ⟨y0, y1, f0, f1, hbH⟩ := hH
          have B6 := Lib.hid (BB.out.trans (hbH.mono BB.out.size))
          have BW6 := Lib.hid (BW.out.trans (hbH.mono BW.out.size))
          have HZ6 := Lib.hid (Nat.lt_of_lt_of_le HZ.out hbH.size)
          have HQ6 := Lib.hid (Nat.lt_of_lt_of_le HQ.out hbH.size)
          clear x0 x1 e0 e1 hbH
          generalize World.drew wr = wd at *
          go_wp2_with fail
          go_region_held3 (fun w' => w'.cell? ⟨w.heap.size, 0, none⟩ = some (.int .i64 l) ∧ w'.cell? ⟨w.heap.size, 1, none⟩ = some (.slice (some ⟨b, o, none⟩) n c) ∧ w'.cell? ⟨b, o + m * 2, none⟩ = some (.int .i64 x) ∧ w'.cell? ⟨b, o + m * 2 + 1, none⟩ = some (.int .i64 y) ∧ Below wd.heap.size wd w')
            (first | assumption | (exact keep4 (by assumption) (by assumption) HZ6.out HZ6.out HQ6.out HQ6.out) | (exact ⟨y0, y1, f0, f1, below_drew _⟩))
            (first | ((with_reducible refine (CP.out _ (BW6.out.trans ((prBelow4 (by assumption) : Below wd.heap.size wd _).mono BW6.out.size))).mono ?_); rintro e w7 ⟨rfl, hb7⟩))
          rename_i hH
          have B7 := Lib.hid (B6.out.trans (hH.2.2.2.2.mono B6.out.size))
          have BW7 := Lib.hid (BW6.out.trans (hH.2.2.2.2.mono BW6.out.size))
          clear hH y0 y1 f0 f1
          go_wp2_with fail
          go_ret
          exact ⟨by rw [← RR.out, Bool.and_false]; rfl, BW7.out⟩
        · have c1 : decide (y > cap) = false := decide_eq_false hc
          have SS := Lib.hid (SN.out (fun _ => by omega))
          clear hk hc
          go_wp2_with fail
          go_region_held3 (fun w' => w'.cell? ⟨w.heap.size, 0, none⟩ = some (.int .i64 l) ∧ w'.cell? ⟨w.heap.size, 1, none⟩ = some (.slice (some ⟨b, o, none⟩) n c) ∧ w'.cell? ⟨b, o + m * 2, none⟩ = some (.int .i64 x) ∧ w'.cell? ⟨b, o + m * 2 + 1, none⟩ = some (.int .i64 y) ∧ Below wr.heap.size wr w')
            (first | assumption | (exact keep4 (by assumption) (by assumption) HZ.out HZ.out HQ.out HQ.out) | (exact ⟨x0, x1, e0, e1, below_drew _⟩))
            (first | (go_at_call 113; refine (KD.out _).mono ?_; rintro e w6 ⟨rfl, rfl⟩))
          rename_i hH
          obtain ⟨y0, y1, f0, f1, hbH⟩ := hH
          have B6 := Lib.hid (BB.out.trans (hbH.mono BB.out.size))
          have BW6 := Lib.hid (BW.out.trans (hbH.mono BW.out.size))
          have HZ6 := Lib.hid (Nat.lt_of_lt_of_le HZ.out hbH.size)
          have HQ6 := Lib.hid (Nat.lt_of_lt_of_le HQ.out hbH.size)
          clear x0 x1 e0 e1 hbH
          generalize World.drew wr = wd at *
          go_wp2_with fail
          go_region_held3 (fun w' => w'.cell? ⟨w.heap.size, 0, none⟩ = some (.int .i64 l) ∧ w'.cell? ⟨w.heap.size, 1, none⟩ = some (.slice (some ⟨b, o, none⟩) n c) ∧ w'.cell? ⟨b, o + m * 2, none⟩ = some (.int .i64 x) ∧ w'.cell? ⟨b, o + m * 2 + 1, none⟩ = some (.int .i64 y) ∧ Below wd.heap.size wd w')
            (first | assumption | (exact keep4 (by assumption) (by assumption) HZ6.out HZ6.out HQ6.out HQ6.out) | (exact ⟨y0, y1, f0, f1, below_drew _⟩))
            (first | ((with_reducible refine (CP.out _ (BW6.out.trans ((prBelow4 (by assumption) : Below wd.heap.size wd _).mono BW6.out.size))).mono ?_); rintro e w7 ⟨rfl, hb7⟩))
          rename_i hH
          have B7 := Lib.hid (B6.out.trans (hH.2.2.2.2.mono B6.out.size))
          have BW7 := Lib.hid (BW6.out.trans (hH.2.2.2.2.mono BW6.out.size))
          clear hH y0 y1 f0 f1
          go_wp2_with fail
          go_roundw
          case rel => exact ⟨m + 1, by omega, by go_num, SS.out, B7.out⟩
          case measure => simp [intOf]; omega
      · obtain ⟨k1, k2, k3⟩ := kid_no hk
        rw [k1, k2, k3] at KD
        have SS := Lib.hid (SN.out (fun q => absurd q hk))
        clear k1 k2 k3 hk
        go_wp2_with fail
        go_region_held3 (fun w' => w'.cell? ⟨w.heap.size, 0, none⟩ = some (.int .i64 l) ∧ w'.cell? ⟨w.heap.size, 1, none⟩ = some (.slice (some ⟨b, o, none⟩) n c) ∧ w'.cell? ⟨b, o + m * 2, none⟩ = some (.int .i64 x) ∧ w'.cell? ⟨b, o + m * 2 + 1, none⟩ = some (.int .i64 y) ∧ Below wr.heap.size wr w')
          (first | assumption | (exact keep4 (by assumption) (by assumption) HZ.out HZ.out HQ.out HQ.out) | (exact ⟨x0, x1, e0, e1, below_drew _⟩))
          (first | (go_at_call 113; refine (KD.out _).mono ?_; rintro e w6 ⟨rfl, rfl⟩))
        rename_i hH
        obtain ⟨y0, y1, f0, f1, hbH⟩ := hH
        have B6 := Lib.hid (BB.out.trans (hbH.mono BB.out.size))
        have BW6 := Lib.hid (BW.out.trans (hbH.mono BW.out.size))
        have HZ6 := Lib.hid (Nat.lt_of_lt_of_le HZ.out hbH.size)
        have HQ6 := Lib.hid (Nat.lt_of_lt_of_le HQ.out hbH.size)
        clear x0 x1 e0 e1 hbH
        generalize World.drew wr = wd at *
        go_wp2_with fail
        go_quiet (fail)
        have B7 := Lib.hid (drewN_below B6.out nq)
        go_wp2_with fail
        go_roundw
        case rel => exact ⟨m + 1, by omega, by go_num, SS.out, B7.out⟩
        case measure => simp [intOf]; omega
    · obtain rfl : m = n := by omega
      have e : L.take m = L := List.take_of_length_le (by have := HL.out; omega)
      rw [e] at LT
      have RR := Lib.hid (RES.out true (fun _ _ => LT.out) (fun q => by cases q))
      clear e
      go_wp2_with (go_at_call 109; refine (IS.out _).mono ?_; rintro e w1 ⟨rfl, rfl⟩)
      go_ret
      exact ⟨by rw [← RR.out, Bool.and_true]; rfl, BW.out⟩

end Go.Proofs.YtkoefclkpdpdpaaGreat

/- The document's answer of package dewpondref12: Run. -/
namespace Go.Proofs.YtkoefclkpdpdpaaGreat
set_option linter.unusedVariables false
set_option maxRecDepth 100000
open Go.RowKit

end Go.Proofs.YtkoefclkpdpdpaaGreat

/- The document's answer of package dewpondref12: Below. -/
namespace Go.Proofs.YtkoefclkpdpdpaaGreat
set_option linter.unusedVariables false
set_option maxRecDepth 100000
open Go.RowKit

end Go.Proofs.YtkoefclkpdpdpaaGreat

/- The document's answers of package dewpondref13: Is, New, Weight, Cap. -/
namespace Go.Proofs.YtkoefclkpdpdpaaGreat
set_option linter.unusedVariables false
set_option maxRecDepth 100000
open Go.RowKit

theorem dgBelow3 {W a : World} {p q r : Addr} {x y z : Value} (h : a.cell? p = some x ∧ a.cell? q = some y ∧ a.cell? r = some z ∧ Below W.heap.size W a) : Below W.heap.size W a := h.2.2.2
theorem rDgIs_any (l k kd : Int) (w : World) : Calls Tryz.prog 70 #[.agg #[.int .i64 l, .int .i64 k, .int .i64 kd]] w fun e w' => e = .returned (.bool (kIs k && isP kd l)) ∧ Below w.heap.size w w' := by
  have HB0 : Hid (Below w.heap.size w (w.alloc (.cells #[.int .i64 l, .int .i64 k, .int .i64 kd] 23))) := (Below.refl _ _).alloc (Nat.le_refl _) _
  obtain ⟨x0, x1, x2, _, _, _, hz⟩ := tri_all (tri_new w 23 (.int .i64 l) (.int .i64 k) (.int .i64 kd))
  have IS := Lib.hid (fun w => rPrIs_any k w)
  have PS := Lib.hid (fun w => poIs_any kd l w)
  cases hk : kIs k
  · rw [hk] at IS
    clear hk
    go_enter Tryz.func70, Tryz.ntmps70
    go_wp2_with fail
    generalize w.alloc (.cells #[.int .i64 l, .int .i64 k, .int .i64 kd] 23) = W at *
    go_wp2_with (go_at_call 109; refine (IS.out _).mono ?_; rintro e w1 ⟨rfl, rfl⟩)
    go_ret
    exact ⟨by simp, HB0.out⟩
  · rw [hk] at IS
    clear hk
    go_enter Tryz.func70, Tryz.ntmps70
    go_wp2_with fail
    generalize w.alloc (.cells #[.int .i64 l, .int .i64 k, .int .i64 kd] 23) = W at *
    go_wp2_with (first | (go_at_call 109; refine (IS.out _).mono ?_; rintro e w1 ⟨rfl, rfl⟩) | (go_at_call 110; refine (PS.out _).mono ?_; rintro e w2 ⟨rfl, rfl⟩))
    go_ret
    exact ⟨by simp, HB0.out⟩
theorem rDgNew_any (l k kd : Int) (w : World) : Calls Tryz.prog 72 #[.agg #[.int .i64 l, .int .i64 k, .int .i64 kd]] w fun e w' => e = .returned (.agg #[.int .i64 k, .int .i64 l, .slice none 0 0]) ∧ Below w.heap.size w w' := by
  have HB0 : Hid (Below w.heap.size w (w.alloc (.cells #[.int .i64 l, .int .i64 k, .int .i64 kd] 23))) := (Below.refl _ _).alloc (Nat.le_refl _) _
  have R0 := Lib.hid (tri_new w 23 (.int .i64 l) (.int .i64 k) (.int .i64 kd))
  have hz : (w.alloc (.cells #[.int .i64 l, .int .i64 k, .int .i64 kd] 23)).heap.size = w.heap.size + 1 := by simp
  have R1 : Hid (((w.alloc (.cells #[.int .i64 l, .int .i64 k, .int .i64 kd] 23)).alloc (.cells #[.int .i64 0, .int .i64 0, .slice none 0 0] 31)).ownsRow w.heap.size 31 3 (.slice (some ⟨w.heap.size + 1, 0, none⟩) 1 1) 1 [.int .i64 0, .int .i64 0, .slice none 0 0]) := by
    have q := tri_new (w.alloc (.cells #[.int .i64 l, .int .i64 k, .int .i64 kd] 23)) 31 (.int .i64 0) (.int .i64 0) (.slice none 0 0)
    rw [hz] at q
    exact own_low q (Nat.le_succ _)
  have R2 := Lib.hid (World.ownsRow.alloc R0.out (.cells #[.int .i64 0, .int .i64 0, .slice none 0 0] 31))
  have HB1 : Hid (Below w.heap.size w ((w.alloc (.cells #[.int .i64 l, .int .i64 k, .int .i64 kd] 23)).alloc (.cells #[.int .i64 0, .int .i64 0, .slice none 0 0] 31))) := HB0.out.alloc (by simp) _
  clear hz
  go_enter Tryz.func72, Tryz.ntmps72
  go_wp2_with fail
  exact bodyPost_ret (v := .agg #[.int .i64 k, .int .i64 l, .slice none 0 0]) (by simp [results, Tryz.results72, go_sem]) rfl ⟨rfl, HB0.out.alloc HB0.out.size _⟩
theorem rDgWeight_any (l k : Int) (A : Option Addr) (n c : Nat) (L : List Nd) (w : World) (h : NodesAt w (.slice A n c) L) (hr : RollC l L) (hn : n ≤ 1000) :
    Calls Tryz.prog 48 #[.agg #[.int .i64 k, .int .i64 l, .slice A n c]] w fun e w' => e = .returned (.int .i64 (sumC L)) ∧ Below w.heap.size w w' := by
  have HB0 : Hid (Below w.heap.size w (w.alloc (.cells #[.int .i64 k, .int .i64 l, .slice A n c] 31))) := (Below.refl _ _).alloc (Nat.le_refl _) _
  obtain ⟨x0, x1, x2, _, _, _, hz⟩ := tri_all (tri_new w 31 (.int .i64 k) (.int .i64 l) (.slice A n c))
  have TT := Lib.hid (fun w1 (hb : Below (w.alloc (.cells #[.int .i64 k, .int .i64 l, .slice A n c] 31)).heap.size (w.alloc (.cells #[.int .i64 k, .int .i64 l, .slice A n c] 31)) w1) => rsTotal_any l A n c L w1 (h.below (HB0.out.trans (hb.mono HB0.out.size))) hr (by omega))
  clear h hr
  go_enter Tryz.func48, Tryz.ntmps48
  go_wp2_with (go_at_call 90; refine (TT.out _ (Below.refl _ _)).mono ?_; rintro e w1 ⟨rfl, hb1⟩)
  go_ret
  exact ⟨rfl, HB0.out.trans (hb1.mono HB0.out.size)⟩
end Go.Proofs.YtkoefclkpdpdpaaGreat

/- The document's answer of package dewpondref13: Compress. -/
namespace Go.Proofs.YtkoefclkpdpdpaaGreat
set_option linter.unusedVariables false
set_option maxRecDepth 100000
open Go.RowKit

end Go.Proofs.YtkoefclkpdpdpaaGreat

/- The document's answer of package dewpondref13: Insert. -/
namespace Go.Proofs.YtkoefclkpdpdpaaGreat
set_option linter.unusedVariables false
set_option maxRecDepth 100000
open Go.RowKit

end Go.Proofs.YtkoefclkpdpdpaaGreat

/- The document's answer of package dewpondref13: Insert, where it is OK. -/
namespace Go.Proofs.YtkoefclkpdpdpaaGreat
set_option linter.unusedVariables false
set_option maxRecDepth 100000
open Go.RowKit

end Go.Proofs.YtkoefclkpdpdpaaGreat

/- The document's answers of package dewpondref13: Do, Above. -/
namespace Go.Proofs.YtkoefclkpdpdpaaGreat
set_option linter.unusedVariables false
set_option maxRecDepth 100000
open Go.RowKit

end Go.Proofs.YtkoefclkpdpdpaaGreat

/- The document's answer of package dewpondref13: Load. -/
namespace Go.Proofs.YtkoefclkpdpdpaaGreat
set_option linter.unusedVariables false
set_option maxRecDepth 100000
open Go.RowKit

/-- the two boxes of a call of Load: the conf, and the digest that is handed out -/
structure DgJ (w W : World) (l k kd : Int) : Prop where
  s : W.ownsRow w.heap.size 23 3 (.slice (some ⟨w.heap.size, 0, none⟩) 1 1) 1 [.int .i64 l, .int .i64 k, .int .i64 kd]
  r : W.ownsRow w.heap.size 31 3 (.slice (some ⟨w.heap.size + 1, 0, none⟩) 1 1) 1 [.int .i64 0, .int .i64 0, .slice none 0 0]
  b : Below w.heap.size w W
theorem dgJ_new (w : World) (l k kd : Int) : DgJ w ((w.alloc (.cells #[.int .i64 l, .int .i64 k, .int .i64 kd] 23)).alloc (.cells #[.int .i64 0, .int .i64 0, .slice none 0 0] 31)) l k kd := by
  have e1 : (w.alloc (.cells #[.int .i64 l, .int .i64 k, .int .i64 kd] 23)).heap.size = w.heap.size + 1 := by simp
  have q := tri_new (w.alloc (.cells #[.int .i64 l, .int .i64 k, .int .i64 kd] 23)) 31 (.int .i64 0) (.int .i64 0) (.slice none 0 0)
  rw [e1] at q
  exact ⟨(tri_new w _ _ _ _).alloc _, own_low q (by omega), ((Below.refl _ _).alloc (Nat.le_refl _) _).alloc (by simp) _⟩
theorem DgJ.below {w W W' : World} {l k kd : Int} (h : DgJ w W l k kd) (hb : Below W.heap.size W W') : DgJ w W' l k kd := ⟨own_below h.s hb, own_below h.r hb, h.b.trans (hb.mono h.b.size)⟩
/-- what Load leaves: the slice that came in, or nothing -/
def RDgLoadPost (k l : Int) (v : Value) (x : Int) (w : World) (e : Ending) (w' : World) : Prop := e = .returned (.tuple #[.agg #[.int .i64 k, .int .i64 l, v], .int .i64 x]) ∧ Below w.heap.size w w'
theorem dgJ_end {w W : World} {l k kd : Int} (I : DgJ w W l k kd) (a b x : Int) (v : Value) : RDgLoadPost a b v x w (.returned (.tuple #[.agg #[.int .i64 a, .int .i64 b, v], .int .i64 x])) (((W.setCell ⟨w.heap.size + 1, 0, none⟩ (.int .i64 a)).setCell ⟨w.heap.size + 1, 1, none⟩ (.int .i64 b)).setCell ⟨w.heap.size + 1, 2, none⟩ v) :=
  ⟨rfl, I.b.trans (tri_set I.r (.int .i64 a) (.int .i64 b) v).2.2.1⟩
set_option maxHeartbeats 3200000 in
theorem rDgLoad_no (kd l k : Int) (A : Option Addr) (m c : Nat) (L : List Nd) (w : World) (hv : NodesAt w (.slice A m c) L) (hB : NBds L) (hm : m ≤ 500) (L0 : -9223372036854775808 ≤ l) (L1 : l ≤ 9223372036854775807) (hx : ¬ dgLdE kd l k L = 0) :
    Calls Tryz.prog 35 #[.agg #[.int .i64 l, .int .i64 k, .int .i64 kd], .slice A m c] w (RDgLoadPost 0 0 (.slice none 0 0) (dgLdE kd l k L) w) := by
  have I0 := Lib.hid (dgJ_new w l k kd)
  have HV := Lib.hid (hv.below I0.out.b)
  have HNL := Lib.hid (nodes_cells hv).1
  have HNB : Hid (NBds L) := hB
  have IS := Lib.hid (fun w => rDgIs_any l k kd w)
  obtain ⟨x0, x1, x2, _, _, _, hz⟩ := tri_all I0.out.s
  clear hv hB
  by_cases hc : kIs k = true ∧ isP kd l = true
  · rw [hc.1, hc.2] at IS
    have kb : 1 ≤ k ∧ k ≤ 1048576 := of_decide_eq_true hc.1
    have RT := Lib.hid (fun w1 (h : NodesAt w1 (.slice A m c) L) => rRight_any l A m c L w1 h HNB.out (by omega) L0 L1)
    unfold RightPost at RT
    cases hr : rollB l L
    · rw [hr] at RT
      have E : Hid (dgLdE kd l k L = 10) := dgLdE_form hc.1 hc.2 hr
      rw [E.out]
      clear hc hr hx
      go_enter Tryz.func35, Tryz.ntmps35
      go_wp2_with fail
      generalize (w.alloc (.cells #[.int .i64 l, .int .i64 k, .int .i64 kd] 23)).alloc (.cells #[.int .i64 0, .int .i64 0, .slice none 0 0] 31) = W0 at *
      refine (IS.out _).mono ?_
      rintro e w1 ⟨rfl, hb1⟩
      have I1 := Lib.hid (I0.out.below hb1)
      have V1 := Lib.hid (HV.out.below hb1)
      obtain ⟨x0, x1, x2, _, _, _, hz⟩ := tri_all I1.out.s
      clear hb1
      go_wp2_with fail
      refine (RT.out _ V1.out).mono ?_
      rintro e w2 ⟨rfl, hb2⟩
      have I2 := Lib.hid (I1.out.below hb2)
      obtain ⟨y0, y1, y2, f0, f1, f2, hz2⟩ := tri_all I2.out.r
      obtain ⟨q0, q1, q2⟩ := set_three I2.out.r (.int .i64 0) (.int .i64 0) (.slice none 0 0)
      have E2 := Lib.hid (dgJ_end I2.out 0 0 10 (.slice none 0 0))
      clear hb2
      go_wp2_with fail
      exact bodyPost_ret (v := .tuple #[.agg #[.int .i64 0, .int .i64 0, .slice none 0 0], .int .i64 10]) (by simp [results, Tryz.results35, go_sem, q0, q1, q2]) rfl E2.out
    · rw [hr] at RT
      have HR := Lib.hid (roll_iff.1 hr)
      have h4 : ¬ ((L.length : Int) ≤ 8 * k ∧ lightB l L k = true) := fun z => hx (dgLdE_ok hc.1 hc.2 hr z.1 z.2)
      have E : Hid (dgLdE kd l k L = 13) := dgLdE_cap hc.1 hc.2 hr h4
      rw [E.out]
      have NW := Lib.hid (fun w => rDgNew_any l k kd w)
      have hw8 : IntKind.i64.wrap (8 * k) = 8 * k := wrap_lit rfl (by omega) (by omega)
      have LT := Lib.hid (fun w1 (h : NodesAt w1 (.slice A m c) L) => rPrLight_any l k A m c L w1 h HR.out (by omega) (by omega) (by omega))
      have H4 := Lib.hid h4
      clear hc hr hx h4
      go_enter Tryz.func35, Tryz.ntmps35
      go_wp2_with fail
      generalize (w.alloc (.cells #[.int .i64 l, .int .i64 k, .int .i64 kd] 23)).alloc (.cells #[.int .i64 0, .int .i64 0, .slice none 0 0] 31) = W0 at *
      refine (IS.out _).mono ?_
      rintro e w1 ⟨rfl, hb1⟩
      have I1 := Lib.hid (I0.out.below hb1)
      have V1 := Lib.hid (HV.out.below hb1)
      obtain ⟨x0, x1, x2, _, _, _, hz⟩ := tri_all I1.out.s
      clear hb1
      go_wp2_with fail
      refine (RT.out _ V1.out).mono ?_
      rintro e w2 ⟨rfl, hb2⟩
      have I2 := Lib.hid (I1.out.below hb2)
      have V2 := Lib.hid (V1.out.below hb2)
      obtain ⟨x0, x1, x2, _, _, _, hz⟩ := tri_all I2.out.s
      clear hb2
      go_wp2_with fail
      refine (NW.out _).mono ?_
      rintro e w3 ⟨rfl, hb3⟩
      have hba : Below w3.heap.size w3 (w3.alloc (.cells #[.int .i64 k, .int .i64 l, .slice A m c] 31)) := (Below.refl _ _).alloc (Nat.le_refl _) _
      have I3 := Lib.hid (I2.out.below hb3)
      have I4 := Lib.hid (I3.out.below hba)
      have V4 := Lib.hid ((V2.out.below hb3).below hba)
      obtain ⟨x0, x1, x2, _, _, _, hz⟩ := tri_all I3.out.s
      clear hb3 hba
      by_cases hl : (L.length : Int) ≤ 8 * k
      · have z2 : decide (8 * k < (m : Int)) = false := decide_eq_false (by have := HNL.out; omega)
        have hlt : lightB l L k = false := Bool.eq_false_iff.2 fun z => H4.out ⟨hl, z⟩
        rw [hlt] at LT
        clear hl hlt
        go_wp2_with fail
        generalize w3.alloc (.cells #[.int .i64 k, .int .i64 l, .slice A m c] 31) = W4 at *
        refine (LT.out _ V4.out).mono ?_
        rintro e w5 ⟨rfl, hb5⟩
        have I5 := Lib.hid (I4.out.below hb5)
        obtain ⟨y0, y1, y2, f0, f1, f2, hz2⟩ := tri_all I5.out.r
        obtain ⟨q0, q1, q2⟩ := set_three I5.out.r (.int .i64 0) (.int .i64 0) (.slice none 0 0)
        have E2 := Lib.hid (dgJ_end I5.out 0 0 13 (.slice none 0 0))
        clear hb5
        go_wp2_with fail
        exact bodyPost_ret (v := .tuple #[.agg #[.int .i64 0, .int .i64 0, .slice none 0 0], .int .i64 13]) (by simp [results, Tryz.results35, go_sem, q0, q1, q2]) rfl E2.out
      · have z2 : decide (8 * k < (m : Int)) = true := decide_eq_true (by have := HNL.out; omega)
        obtain ⟨y0, y1, y2, f0, f1, f2, hz2⟩ := tri_all I3.out.r
        obtain ⟨q0, q1, q2⟩ := set_three I3.out.r (.int .i64 0) (.int .i64 0) (.slice none 0 0)
        have E2 := Lib.hid (dgJ_end I3.out 0 0 13 (.slice none 0 0))
        clear hl
        go_wp2_with fail
        exact bodyPost_ret (v := .tuple #[.agg #[.int .i64 0, .int .i64 0, .slice none 0 0], .int .i64 13]) (by simp [results, Tryz.results35, go_sem, q0, q1, q2, hz2]) rfl ⟨rfl, E2.out.2.alloc E2.out.2.size _⟩
  · have E : Hid (dgLdE kd l k L = 2) := dgLdE_conf hc
    rw [E.out]
    have hf : (kIs k && isP kd l) = false := by
      rw [Bool.and_eq_false_iff]
      rcases Classical.em (kIs k = true) with q | q
      · exact .inr (Bool.eq_false_iff.2 fun z => hc ⟨q, z⟩)
      · exact .inl (Bool.eq_false_iff.2 q)
    rw [hf] at IS
    clear hc hf hx
    go_enter Tryz.func35, Tryz.ntmps35
    go_wp2_with fail
    generalize (w.alloc (.cells #[.int .i64 l, .int .i64 k, .int .i64 kd] 23)).alloc (.cells #[.int .i64 0, .int .i64 0, .slice none 0 0] 31) = W0 at *
    refine (IS.out _).mono ?_
    rintro e w1 ⟨rfl, hb1⟩
    have I1 := Lib.hid (I0.out.below hb1)
    obtain ⟨y0, y1, y2, f0, f1, f2, hz2⟩ := tri_all I1.out.r
    obtain ⟨q0, q1, q2⟩ := set_three I1.out.r (.int .i64 0) (.int .i64 0) (.slice none 0 0)
    have E2 := Lib.hid (dgJ_end I1.out 0 0 2 (.slice none 0 0))
    clear hb1
    go_wp2_with fail
    exact bodyPost_ret (v := .tuple #[.agg #[.int .i64 0, .int .i64 0, .slice none 0 0], .int .i64 2]) (by simp [results, Tryz.results35, go_sem, q0, q1, q2]) rfl E2.out
set_option maxHeartbeats 3200000 in
theorem rDgLoad_ok (kd l k : Int) (A : Option Addr) (m c : Nat) (L : List Nd) (w : World) (hv : NodesAt w (.slice A m c) L) (hB : NBds L) (hm : m ≤ 500) (L0 : -9223372036854775808 ≤ l) (L1 : l ≤ 9223372036854775807) (hc : kIs k = true ∧ isP kd l = true) (hr : rollB l L = true) (hl : (L.length : Int) ≤ 8 * k) (hlt : lightB l L k = true) :
    Calls Tryz.prog 35 #[.agg #[.int .i64 l, .int .i64 k, .int .i64 kd], .slice A m c] w (RDgLoadPost k l (.slice A m c) 0 w) := by
  have I0 := Lib.hid (dgJ_new w l k kd)
  have HV := Lib.hid (hv.below I0.out.b)
  have hnl := (nodes_cells hv).1
  have HNB : Hid (NBds L) := hB
  have IS := Lib.hid (fun w => rDgIs_any l k kd w)
  obtain ⟨x0, x1, x2, _, _, _, hz⟩ := tri_all I0.out.s
  rw [hc.1, hc.2] at IS
  have kb : 1 ≤ k ∧ k ≤ 1048576 := of_decide_eq_true hc.1
  have RT := Lib.hid (fun w1 (h : NodesAt w1 (.slice A m c) L) => rRight_any l A m c L w1 h HNB.out (by omega) L0 L1)
  unfold RightPost at RT
  rw [hr] at RT
  have HR := Lib.hid (roll_iff.1 hr)
  have NW := Lib.hid (fun w => rDgNew_any l k kd w)
  have hw8 : IntKind.i64.wrap (8 * k) = 8 * k := wrap_lit rfl (by omega) (by omega)
  have LT := Lib.hid (fun w1 (h : NodesAt w1 (.slice A m c) L) => rPrLight_any l k A m c L w1 h HR.out (by omega) (by omega) (by omega))
  rw [hlt] at LT
  have z2 : decide (8 * k < (m : Int)) = false := decide_eq_false (by omega)
  clear hv hB hc hr hlt hl hnl
  go_enter Tryz.func35, Tryz.ntmps35
  go_wp2_with fail
  generalize (w.alloc (.cells #[.int .i64 l, .int .i64 k, .int .i64 kd] 23)).alloc (.cells #[.int .i64 0, .int .i64 0, .slice none 0 0] 31) = W0 at *
  refine (IS.out _).mono ?_
  rintro e w1 ⟨rfl, hb1⟩
  have I1 := Lib.hid (I0.out.below hb1)
  have V1 := Lib.hid (HV.out.below hb1)
  obtain ⟨x0, x1, x2, _, _, _, hz⟩ := tri_all I1.out.s
  clear hb1
  go_wp2_with fail
  refine (RT.out _ V1.out).mono ?_
  rintro e w2 ⟨rfl, hb2⟩
  have I2 := Lib.hid (I1.out.below hb2)
  have V2 := Lib.hid (V1.out.below hb2)
  obtain ⟨x0, x1, x2, _, _, _, hz⟩ := tri_all I2.out.s
  clear hb2
  go_wp2_with fail
  refine (NW.out _).mono ?_
  rintro e w3 ⟨rfl, hb3⟩
  have hba : Below w3.heap.size w3 (w3.alloc (.cells #[.int .i64 k, .int .i64 l, .slice A m c] 31)) := (Below.refl _ _).alloc (Nat.le_refl _) _
  have I3 := Lib.hid (I2.out.below hb3)
  have I4 := Lib.hid (I3.out.below hba)
  have V4 := Lib.hid ((V2.out.below hb3).below hba)
  have T4 := Lib.hid (tri_new w3 31 (.int .i64 k) (.int .i64 l) (.slice A m c))
  obtain ⟨x0, x1, x2, _, _, _, hz⟩ := tri_all I3.out.s
  clear hb3 hba
  go_wp2_with fail
  generalize w3.alloc (.cells #[.int .i64 k, .int .i64 l, .slice A m c] 31) = W4 at *
  refine (LT.out _ V4.out).mono ?_
  rintro e w5 ⟨rfl, hb5⟩
  have I5 := Lib.hid (I4.out.below hb5)
  obtain ⟨t0, t1, t2, _, _, _, hz3⟩ := tri_all (own_below T4.out hb5)
  obtain ⟨y0, y1, y2, f0, f1, f2, hz2⟩ := tri_all I5.out.r
  obtain ⟨q0, q1, q2⟩ := set_three I5.out.r (.int .i64 k) (.int .i64 l) (.slice A m c)
  have E2 := Lib.hid (dgJ_end I5.out k l 0 (.slice A m c))
  clear hb5
  go_wp2_with fail
  exact bodyPost_ret (v := .tuple #[.agg #[.int .i64 k, .int .i64 l, .slice A m c], .int .i64 0]) (by simp [results, Tryz.results35, go_sem, q0, q1, q2]) rfl E2.out

end Go.Proofs.YtkoefclkpdpdpaaGreat

/- The document's answer of package dewpondref13: Above. -/
namespace Go.Proofs.YtkoefclkpdpdpaaGreat
set_option linter.unusedVariables false
set_option maxRecDepth 100000
open Go.RowKit

end Go.Proofs.YtkoefclkpdpdpaaGreat

/- What the statements of layer digest call: Do, and the chapter's example (alive). -/
namespace Go.Proofs.YtkoefclkpdpdpaaGreat
set_option linter.unusedVariables false
set_option maxRecDepth 100000
open Go.RowKit

theorem dgSame_below {P : Program} {f : FuncId} {args : Array Value} {L M : List Nd} {w : World} (h : Calls P f args w (SamePost L M w)) : Calls P f args w fun e w' => e = .returned (.bool (sameB L M)) ∧ Below w.heap.size w w' :=
  h.mono fun _ _ ⟨a, q, b⟩ => ⟨a, by rw [b]; exact drewN_below (Below.refl _ _) q⟩
theorem dgLdo_one {l k : Int} {L : List Nd} {x c : Int} : dgDo l k L 1 x c = pressW l k L ∧ dgTell l k L 1 x c = (pressN l k L : Int) := ⟨rfl, rfl⟩
theorem dgLdo_two {l k : Int} {L : List Nd} {x c : Int} : dgDo l k L 2 x c = [] ∧ dgTell l k L 2 x c = 0 := ⟨rfl, rfl⟩
theorem dgLdo_else {l k kd : Int} {L : List Nd} {x c : Int} (h1 : ¬ kd = 1) (h2 : ¬ kd = 2) : dgDo l k L kd x c = dgIns l k L x c ∧ dgTell l k L kd x c = dgE l L x c := by
  unfold dgDo dgTell
  rw [if_neg h1, if_neg h1, if_neg h2, if_neg h2]
  exact ⟨rfl, rfl⟩
theorem dgPost_from {B q p g h : Nat} {kd l k : Int} {n m : Nat} {M : List Nd} {x : Int} {w w0 w' : World} {v : Value} (hb : Below w.heap.size w w0) (hm : n ≤ m) (f : ∃ p' g' h', DgA w' B q p' g' h' kd l k n M ∧ Kp (dgF q p g h) w0 w' ∧ ∀ i, dgF q p' g' h' i → dgF q p g h i ∨ w0.heap.size ≤ i) :
    DgPost B q p g h kd l k m M x w (.returned (.int .i64 x)) w' := by
  obtain ⟨p', g', h', a, b, c⟩ := f
  exact ⟨rfl, p', g', h', a.more hm, (Kp.of (F := dgF q p g h) hb).trans b (fun i _ z => z), fun i z => (c i z).imp (fun z => z) fun z => by have := hb.size; omega⟩
set_option maxHeartbeats 1600000 in
theorem dgLdo_any {B q p g h : Nat} {kd l k : Int} {n : Nat} {L : List Nd} (op x c : Int) (w : World) (d : DgA w B q p g h kd l k n L) (hn : n ≤ 400)
    (A0 : -9223372036854775808 ≤ x) (A1 : x ≤ 9223372036854775807) (B0 : -9223372036854775808 ≤ c) (B1 : c ≤ 9223372036854775807) :
    Calls Tryz.prog 58 #[.pointer (some ⟨q, 0, none⟩), .agg #[.int .i64 op, .int .i64 x, .int .i64 c]] w (DgPost B q p g h kd l k (n + 1) (dgDo l k L op x c) (dgTell l k L op x c) w) := by
  have HB0 : Hid (Below w.heap.size w (w.alloc (.cells #[.int .i64 op, .int .i64 x, .int .i64 c] 115))) := (Below.refl _ _).alloc (Nat.le_refl _) _
  obtain ⟨x0, x1, x2, _, _, _, hz⟩ := tri_all (tri_nw w 115 (.int .i64 op) (.int .i64 x) (.int .i64 c))
  have D0 := Lib.hid (d.below HB0.out)
  clear d
  by_cases h1 : op = 1
  · subst h1
    rw [dgLdo_one.1, dgLdo_one.2]
    have CP := Lib.hid (dgCompress_any _ D0.out hn)
    generalize pressW l k L = M at *
    generalize ((pressN l k L : Nat) : Int) = t at *
    go_enter Tryz.func58, Tryz.ntmps58
    go_wp2_with fail
    generalize w.alloc (.cells #[.int .i64 1, .int .i64 x, .int .i64 c] 115) = W at *
    refine CP.out.mono ?_
    rintro e w1 ⟨rfl, q1⟩
    have E := Lib.hid (dgPost_from (x := t) (v := .int .i64 t) HB0.out (Nat.le_succ n) q1)
    clear q1
    go_wp2_with fail
    go_ret
    exact E.out
  · by_cases h2 : op = 2
    · subst h2
      rw [dgLdo_two.1, dgLdo_two.2]
      have CP := Lib.hid (dgReset_any _ D0.out)
      clear h1
      go_enter Tryz.func58, Tryz.ntmps58
      go_wp2_with fail
      generalize w.alloc (.cells #[.int .i64 2, .int .i64 x, .int .i64 c] 115) = W at *
      refine CP.out.mono ?_
      rintro e w1 ⟨rfl, q1⟩
      have E := Lib.hid (dgPost_from (x := 0) (v := .int .i64 0) HB0.out (Nat.le_succ n) q1)
      clear q1
      go_wp2_with fail
      go_ret
      exact E.out
    · rw [(dgLdo_else h1 h2).1, (dgLdo_else h1 h2).2]
      have CP := Lib.hid (dgInsert_any x c _ D0.out hn A0 A1 B0 B1)
      have b1 : (op == 1) = false := beq_eq_false_iff_ne.2 h1
      have b2 : (op == 2) = false := beq_eq_false_iff_ne.2 h2
      clear h1 h2
      generalize dgIns l k L x c = M at *
      generalize dgE l L x c = t at *
      go_enter Tryz.func58, Tryz.ntmps58
      go_wp2_with fail
      generalize w.alloc (.cells #[.int .i64 op, .int .i64 x, .int .i64 c] 115) = W at *
      refine CP.out.mono ?_
      rintro e w1 ⟨rfl, q1⟩
      have E := Lib.hid (dgPost_from (x := t) (v := .int .i64 t) HB0.out (Nat.le_refl _) q1)
      clear q1
      go_wp2_with fail
      go_ret
      exact E.out
end Go.Proofs.YtkoefclkpdpdpaaGreat

/- What the statements of layer digest call: is a digest the document's (like)? -/
namespace Go.Proofs.YtkoefclkpdpdpaaGreat
set_option linter.unusedVariables false
set_option maxRecDepth 100000
open Go.RowKit

theorem keep_sixD {W a b : World} {p0 p1 p2 p3 p4 p5 : Addr} {x0 x1 x2 x3 x4 x5 : Value} (h : a.cell? p0 = some x0 ∧ a.cell? p1 = some x1 ∧ a.cell? p2 = some x2 ∧ a.cell? p3 = some x3 ∧ a.cell? p4 = some x4 ∧ a.cell? p5 = some x5 ∧ Below W.heap.size W a) (hb : Below a.heap.size a b)
    (q0 : p0.block < W.heap.size) (q1 : p1.block < W.heap.size) (q2 : p2.block < W.heap.size) (q3 : p3.block < W.heap.size) (q4 : p4.block < W.heap.size) (q5 : p5.block < W.heap.size) :
    b.cell? p0 = some x0 ∧ b.cell? p1 = some x1 ∧ b.cell? p2 = some x2 ∧ b.cell? p3 = some x3 ∧ b.cell? p4 = some x4 ∧ b.cell? p5 = some x5 ∧ Below W.heap.size W b := by
  obtain ⟨h0, h1, h2, h3, h4, h5, h6⟩ := h
  have hz := h6.size
  exact ⟨(hb.cell (by omega)).trans h0, (hb.cell (by omega)).trans h1, (hb.cell (by omega)).trans h2, (hb.cell (by omega)).trans h3, (hb.cell (by omega)).trans h4, (hb.cell (by omega)).trans h5, h6.trans (hb.mono hz)⟩
theorem below_six {W a : World} {p0 p1 p2 p3 p4 p5 : Addr} {x0 x1 x2 x3 x4 x5 : Value} (h : a.cell? p0 = some x0 ∧ a.cell? p1 = some x1 ∧ a.cell? p2 = some x2 ∧ a.cell? p3 = some x3 ∧ a.cell? p4 = some x4 ∧ a.cell? p5 = some x5 ∧ Below W.heap.size W a) : Below W.heap.size W a := h.2.2.2.2.2.2
end Go.Proofs.YtkoefclkpdpdpaaGreat

/- The walk of the statement DigestPlays of layer digest: for every input it returns true, and nothing that was there before is changed. -/
namespace Go.Proofs.YtkoefclkpdpdpaaGreat
set_option linter.unusedVariables false
set_option maxRecDepth 100000
open Go.RowKit

end Go.Proofs.YtkoefclkpdpdpaaGreat
