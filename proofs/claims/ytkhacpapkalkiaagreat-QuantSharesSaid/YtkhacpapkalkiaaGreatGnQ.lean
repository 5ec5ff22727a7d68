/- Texts laid together: Core, Row, Held. -/
import Derived.WalkKit
import Derived.Lib.Hide
import Derived.OpenShut
import Derived.Laws.MakeOwn
import Derived.Laws.OwnMore
import Derived.OwnWalk
import Derived.Deep.Draws
/- Plain facts on worlds that only grow: what lies in older blocks stays as it was. No program is spoken of here. -/
namespace Go.Proofs.YtkhacpapkalkiaaGreat
set_option linter.unusedVariables false
open Go.RowKit

theorem int_bd {a : Int} (h : (Lit.int .i64 a).wf = true) : -9223372036854775808 ≤ a ∧ a ≤ 9223372036854775807 := by
  have := bounds_i64 h; omega

/-- behind a call that only made new memory, older cells and marks read as before -/
theorem bcell {W w1 : World} (hb : Below W.heap.size W w1) : (∀ b o, b < W.heap.size → w1.cell? ⟨b, o, none⟩ = W.cell? ⟨b, o, none⟩) ∧ (∀ b o, b < W.heap.size → w1.frozen? ⟨b, o, none⟩ = W.frozen? ⟨b, o, none⟩) :=
  ⟨fun b o h => hb.cell (p := ⟨b, o, none⟩) h, fun b o h => hb.frozen (p := ⟨b, o, none⟩) h⟩

theorem ad_ne (b : Nat) : (⟨b, 0, none⟩ : Addr) ≠ ⟨b, 1, none⟩ := fun e => by injection e with _ h; cases h
/-- two cells of one block, stored one behind the other -/
theorem set_two {w : World} {b : Nat} {x y : Value} (h0 : w.cell? ⟨b, 0, none⟩ = some x) (h1 : w.cell? ⟨b, 1, none⟩ = some y) :
    (∀ u, (w.setCell ⟨b, 0, none⟩ u).cell? ⟨b, 0, none⟩ = some u) ∧ (∀ u u', ((w.setCell ⟨b, 0, none⟩ u).setCell ⟨b, 1, none⟩ u').cell? ⟨b, 1, none⟩ = some u') :=
  ⟨fun u => World.cell?_setCell_same _ _ _ h0, fun u u' => World.cell?_setCell_same (u := y) _ _ _ (by rw [World.cell?_setCell_other _ _ _ _ (ad_ne b)]; exact h1)⟩

theorem below_drew (w : World) : Below w.heap.size w w.drew := ⟨rfl, rfl, rfl, Nat.le_refl _, fun _ _ => rfl⟩
/-- what a region that draws its order holds of four cells, behind a call that only made new memory -/
theorem keep_four {W a b : World} {N : Nat} {p q r s : Addr} {x y z u : Value} (h : a.cell? p = some x ∧ a.cell? q = some y ∧ a.cell? r = some z ∧ a.cell? s = some u ∧ N < a.heap.size ∧ Below W.heap.size W a) (hb : Below a.heap.size a b)
    (hp : p.block ≤ N) (hq : q.block ≤ N) (hr : r.block ≤ N) (hs : s.block ≤ N) : b.cell? p = some x ∧ b.cell? q = some y ∧ b.cell? r = some z ∧ b.cell? s = some u ∧ N < b.heap.size ∧ Below W.heap.size W b := by
  obtain ⟨h1, h2, h3, h4, h6, h5⟩ := h
  have hz := h5.size
  have hy := hb.size
  exact ⟨(hb.cell (by omega)).trans h1, (hb.cell (by omega)).trans h2, (hb.cell (by omega)).trans h3, (hb.cell (by omega)).trans h4, by omega, h5.trans (hb.mono hz)⟩

/-- the ending of a walk -/
theorem ret_b {a b : Bool} (h : a = b) : Ending.returned (.bool a) = .returned (.bool b) := by rw [h]

end Go.Proofs.YtkhacpapkalkiaaGreat

/- Slices whose cells are known: what it means that a slice begins a row of known cells, and that this is kept while memory grows; rows of the call's own; slices that are made empty with room. No program is spoken of here. -/
namespace Go.Proofs.YtkhacpapkalkiaaGreat
set_option linter.unusedVariables false
open Go.RowKit

/-- behind the address A lie m cells, of the values f 0, f 1, .. -/
def Cells (w : World) (A : Option Addr) (m : Nat) (f : Nat → Value) : Prop :=
  0 < m → ∃ b o, A = some ⟨b, o, none⟩ ∧ b < w.heap.size ∧ ∀ k, k < m → w.cell? ⟨b, o + k, none⟩ = some (f k)
theorem Cells.below {w w' : World} {A : Option Addr} {m : Nat} {f : Nat → Value} (h : Cells w A m f) (hb : Below w.heap.size w w') : Cells w' A m f := fun h0 => by
  obtain ⟨b, o, ea, hlt, hc⟩ := h h0
  exact ⟨b, o, ea, Nat.lt_of_lt_of_le hlt hb.size, fun k hk => (hb.cell (p := ⟨b, o + k, none⟩) hlt).trans (hc k hk)⟩
theorem Cells.same {w : World} {A : Option Addr} {m : Nat} {f g : Nat → Value} (h : Cells w A m f) (hfg : ∀ k, k < m → f k = g k) : Cells w A m g := fun h0 => by
  obtain ⟨b, o, ea, hlt, hc⟩ := h h0
  exact ⟨b, o, ea, hlt, fun k hk => by rw [hc k hk, hfg k hk]⟩
/-- behind the address A lie n pairs of whole numbers -/
def Pairs (w : World) (A : Option Addr) (n : Nat) (a x : Nat → Int) : Prop :=
  0 < n → ∃ b o, A = some ⟨b, o, none⟩ ∧ b < w.heap.size ∧ ∀ k, k < n → w.cell? ⟨b, o + k * 2, none⟩ = some (.int .i64 (a k)) ∧ w.cell? ⟨b, o + k * 2 + 1, none⟩ = some (.int .i64 (x k))
/-- a row of the call's own is such a row of cells -/
theorem cells_own {w : World} {base : Nat} {e : TypeId} {size n : Nat} {v : Value} {xs : List Value} (h : w.ownsRow base e size v n xs) (hs : 0 < size) : ∃ A c, v = .slice A n c ∧ Cells w A (n * size) (fun k => xs.getD k undef) := by
  have hf := h
  rcases h.2 with ⟨rfl, rfl⟩ | ⟨g, cap, cur, rfl, _, _⟩
  · exact ⟨none, 0, rfl, fun h0 => by omega⟩
  · refine ⟨_, cap, rfl, fun h0 => ⟨g, 0, rfl, (World.ownsRow.lt hf g rfl).2, fun k hk => ?_⟩⟩
    have hl : k < xs.length := by rw [hf.1]; exact hk
    have hc := World.ownsRow.cells hf (g := g) rfl k xs[k] (List.getElem?_eq_getElem hl)
    have ha : (⟨g, 0, none⟩ : Addr).add k = ⟨g, 0 + k, none⟩ := by unfold Addr.add; split <;> simp_all
    rw [← ha, hc]; simp [List.getD_eq_getElem?_getD, List.getElem?_eq_getElem hl]
/-- two rows of the call's own, of unlike element types, never lie in one block -/
theorem own_apart {w : World} {b1 b2 s1 s2 n1 n2 : Nat} {e1 e2 : TypeId} {v1 v2 : Value} {xs ys : List Value} (h1 : w.ownsRow b1 e1 s1 v1 n1 xs) (h2 : w.ownsRow b2 e2 s2 v2 n2 ys) (he : e1 ≠ e2) :
    v1.ownBlock = none ∨ v1.ownBlock ≠ v2.ownBlock := by
  rcases h1.2 with ⟨rfl, _⟩ | ⟨g1, c1, cur1, rfl, _, hg1, _⟩
  · exact .inl rfl
  · right
    rcases h2.2 with ⟨rfl, _⟩ | ⟨g2, c2, cur2, rfl, _, hg2, _⟩
    · simp [Value.ownBlock]
    · intro e
      have : g1 = g2 := by simpa [Value.ownBlock] using e
      subst this
      rw [hg1] at hg2
      injection hg2 with hg2
      injection hg2 with _ ht
      exact he ht
/-- a cell of a block that is no row of the slice's own is as it was, behind an append -/
theorem grown_cell {w w' : World} {row : Option Nat} (hg : w.grownBy w' row) {p : Addr} (hp : p.block < w.heap.size) (hne : some p.block ≠ row) : w'.cell? p = w.cell? p :=
  World.cell?_of_block (hg.block p.block hp hne)
theorem own_far {w : World} {base : Nat} {e : TypeId} {size n : Nat} {v : Value} {xs : List Value} (h : w.ownsRow base e size v n xs) {g : Nat} (hg : w.heap.size ≤ g) : some g ≠ v.ownBlock := fun e => by
  have := (h.lt g e.symm).2
  omega
theorem drewN_below {B : Nat} {a w : World} (h : Below B a w) (n : Nat) : Below B a (w.drewN n) := ⟨h.os, h.tape, h.output, h.size, h.block⟩

/-- make of no elements, with room for n: the cells stand for themselves -/
def blank (z : Value) (m : Nat) : Array Value := madeCells z.cells m
theorem blank_size (z : Value) (m : Nat) : (blank z m).size = m := size_madeCells _ _
theorem make_room {P : Program} {t e : TypeId} {i : TypeInfo} {z : Value} (ht : P.underlying t = some (.slice e)) (hi : P.info? e = some i) (hz : i.zero = some z) {size bytes : Nat} (hs : i.size = size) (hb : i.bytes = bytes)
    (n : Nat) (hbytes : bytes * n ≤ 281474976710656) (h63 : n ≤ 9223372036854775807) (w : World) :
    (Instr.makeSlice t (.int .i64 0) (.int .i64 (n : Int))).run P w = .ok (.slice (some ⟨w.heap.size, 0, none⟩) 0 n) (w.alloc (.cells (blank z (n * size)) e)) := by
  have hbi : (i.bytes : Int) * (n : Int) ≤ 281474976710656 := by
    have h : ((bytes * n : Nat) : Int) ≤ 281474976710656 := by omega
    rw [hb]; rwa [Int.natCast_mul] at h
  have h := run_make (P := P) w t e i z ht hi hz .i64 .i64 0 n (Int.le_refl _) (by omega) hbi (by omega)
  simp only [Int.toNat_zero, Int.toNat_natCast, hs] at h
  exact h
theorem room_own {w : World} {B : Nat} {e : TypeId} {z : Value} {n size : Nat} (hB : B ≤ w.heap.size) (hn : n ≤ maxLen) :
    (w.alloc (.cells (blank z (n * size)) e)).ownsRow B e size (.slice (some ⟨w.heap.size, 0, none⟩) 0 n) 0 [] := World.ownsRow_made w _ n hB hn (blank_size _ _)

/-- two cells that were made just now -/
theorem two_new (w : World) (x y : Value) (t : TypeId) (g : Nat) (hg : g = w.heap.size) : ∀ j u, [x, y][j]? = some u → (w.alloc (.cells #[x, y] t)).cell? ((⟨g, 0, none⟩ : Addr).add j) = some u := fun j u hj => by
  subst hg
  match j, hj with
  | 0, hj => simp at hj; subst hj; simp [Addr.add]
  | 1, hj => simp at hj; subst hj; simp [Addr.add]
theorem own_below {w w1 : World} {base : Nat} {e : TypeId} {size n : Nat} {v : Value} {xs : List Value} (h : w.ownsRow base e size v n xs) (hb : Below w.heap.size w w1) : w1.ownsRow base e size v n xs :=
  h.kept (row := none) ⟨hb.os, hb.tape, hb.output, hb.size, fun i hi _ => hb.block i hi⟩ (by cases v.ownBlock <;> simp)
theorem one_new (w : World) (x : Value) (t : TypeId) (g : Nat) (hg : g = w.heap.size) : ∀ j u, [x][j]? = some u → (w.alloc (.cells #[x] t)).cell? ((⟨g, 0, none⟩ : Addr).add j) = some u := fun j u hj => by
  subst hg
  match j, hj with
  | 0, hj => simp at hj; subst hj; simp [Addr.add]
theorem one_iface (t : TypeId) (x : Value) : ∀ u ∈ [Value.iface t x], u.oneCell' = true := fun u hu => by
  simp at hu; subst hu; rfl
theorem two_cell (x y : Int) : ∀ u ∈ [Value.int .i64 x, Value.int .i64 y], u.oneCell' = true := fun u hu => by
  simp at hu; rcases hu with rfl | rfl <;> rfl

end Go.Proofs.YtkhacpapkalkiaaGreat

/- What a region that draws its order holds of some cells and of all that lay, kept by what only makes memory. No program is spoken of here. -/
namespace Go.Proofs.YtkhacpapkalkiaaGreat
set_option linter.unusedVariables false
open Go.RowKit

theorem held1 {W a b : World} {p : Addr} {x : Value} (h : a.cell? p = some x ∧ Below W.heap.size W a) (hb : Below a.heap.size a b) (hp : p.block < W.heap.size) : b.cell? p = some x ∧ Below W.heap.size W b := by
  obtain ⟨h1, h3⟩ := h
  have hz := h3.size
  exact ⟨(hb.cell (by omega)).trans h1, h3.trans (hb.mono hz)⟩
theorem held1N {W a : World} {p : Addr} {x : Value} (h : a.cell? p = some x ∧ Below W.heap.size W a) (n : Nat) : (a.drewN n).cell? p = some x ∧ Below W.heap.size W (a.drewN n) := ⟨h.1, drewN_below h.2 n⟩
theorem held1B {W a : World} {p : Addr} {x : Value} (h : a.cell? p = some x ∧ Below W.heap.size W a) : Below W.heap.size W a := h.2
theorem held2 {W a b : World} {p q : Addr} {x y : Value} (h : a.cell? p = some x ∧ a.cell? q = some y ∧ Below W.heap.size W a) (hb : Below a.heap.size a b) (hp : p.block < W.heap.size) (hq : q.block < W.heap.size) : b.cell? p = some x ∧ b.cell? q = some y ∧ Below W.heap.size W b :=
  ⟨(held1 ⟨h.1, h.2.2⟩ hb hp).1, held1 h.2 hb hq⟩
theorem held2N {W a : World} {p q : Addr} {x y : Value} (h : a.cell? p = some x ∧ a.cell? q = some y ∧ Below W.heap.size W a) (n : Nat) : (a.drewN n).cell? p = some x ∧ (a.drewN n).cell? q = some y ∧ Below W.heap.size W (a.drewN n) := ⟨h.1, held1N h.2 n⟩
theorem held2B {W a : World} {p q : Addr} {x y : Value} (h : a.cell? p = some x ∧ a.cell? q = some y ∧ Below W.heap.size W a) : Below W.heap.size W a := h.2.2
theorem held3 {W a b : World} {p q r : Addr} {x y z : Value} (h : a.cell? p = some x ∧ a.cell? q = some y ∧ a.cell? r = some z ∧ Below W.heap.size W a) (hb : Below a.heap.size a b) (hp : p.block < W.heap.size) (hq : q.block < W.heap.size) (hr : r.block < W.heap.size) : b.cell? p = some x ∧ b.cell? q = some y ∧ b.cell? r = some z ∧ Below W.heap.size W b :=
  ⟨(held1 ⟨h.1, h.2.2.2⟩ hb hp).1, held2 h.2 hb hq hr⟩
theorem held3N {W a : World} {p q r : Addr} {x y z : Value} (h : a.cell? p = some x ∧ a.cell? q = some y ∧ a.cell? r = some z ∧ Below W.heap.size W a) (n : Nat) : (a.drewN n).cell? p = some x ∧ (a.drewN n).cell? q = some y ∧ (a.drewN n).cell? r = some z ∧ Below W.heap.size W (a.drewN n) := ⟨h.1, held2N h.2 n⟩
theorem held3B {W a : World} {p q r : Addr} {x y z : Value} (h : a.cell? p = some x ∧ a.cell? q = some y ∧ a.cell? r = some z ∧ Below W.heap.size W a) : Below W.heap.size W a := h.2.2.2
theorem held4 {W a b : World} {p q r s : Addr} {x y z u : Value} (h : a.cell? p = some x ∧ a.cell? q = some y ∧ a.cell? r = some z ∧ a.cell? s = some u ∧ Below W.heap.size W a) (hb : Below a.heap.size a b) (hp : p.block < W.heap.size) (hq : q.block < W.heap.size) (hr : r.block < W.heap.size) (hs : s.block < W.heap.size) :
    b.cell? p = some x ∧ b.cell? q = some y ∧ b.cell? r = some z ∧ b.cell? s = some u ∧ Below W.heap.size W b :=
  ⟨(held1 ⟨h.1, h.2.2.2.2⟩ hb hp).1, held3 h.2 hb hq hr hs⟩
theorem held4N {W a : World} {p q r s : Addr} {x y z u : Value} (h : a.cell? p = some x ∧ a.cell? q = some y ∧ a.cell? r = some z ∧ a.cell? s = some u ∧ Below W.heap.size W a) (n : Nat) : (a.drewN n).cell? p = some x ∧ (a.drewN n).cell? q = some y ∧ (a.drewN n).cell? r = some z ∧ (a.drewN n).cell? s = some u ∧ Below W.heap.size W (a.drewN n) := ⟨h.1, held3N h.2 n⟩
theorem held4B {W a : World} {p q r s : Addr} {x y z u : Value} (h : a.cell? p = some x ∧ a.cell? q = some y ∧ a.cell? r = some z ∧ a.cell? s = some u ∧ Below W.heap.size W a) : Below W.heap.size W a := h.2.2.2.2
theorem ret_n {a b : Int} (h : a = b) : Ending.returned (.int .i64 a) = .returned (.int .i64 b) := by rw [h]

end Go.Proofs.YtkhacpapkalkiaaGreat
