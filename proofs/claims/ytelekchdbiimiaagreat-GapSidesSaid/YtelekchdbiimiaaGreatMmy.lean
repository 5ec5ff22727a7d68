/- Texts laid together: Core, Row, Held, NdMem, NdSl, NdFold, TiMem, DsMem, PbMem, PlMem, Keep. -/
import Derived.WalkKit
import Derived.Lib.Hide
import Derived.OpenShut
import Derived.Laws.MakeOwn
import Derived.Laws.OwnMore
import Derived.OwnWalk
import Derived.Deep.Draws
import Derived.Test.YtelekchdbiimiaaGreatPln
import Derived.Maps.AppendAt
import Derived.Deep.AppendLies
namespace Go.Proofs.YtelekchdbiimiaaGreat
set_option linter.unusedVariables false
open Go.RowKit
theorem int_bd {a : Int} (h : (Lit.int .i64 a).wf = true) : -9223372036854775808 ≤ a ∧ a ≤ 9223372036854775807 := by
  have := bounds_i64 h; omega
theorem ad_ne (b : Nat) : (⟨b, 0, none⟩ : Addr) ≠ ⟨b, 1, none⟩ := fun e => by injection e with _ h; cases h
/-- two cells of one block, stored one behind the other -/
theorem set_two {w : World} {b : Nat} {x y : Value} (h0 : w.cell? ⟨b, 0, none⟩ = some x) (h1 : w.cell? ⟨b, 1, none⟩ = some y) :
    (∀ u, (w.setCell ⟨b, 0, none⟩ u).cell? ⟨b, 0, none⟩ = some u) ∧ (∀ u u', ((w.setCell ⟨b, 0, none⟩ u).setCell ⟨b, 1, none⟩ u').cell? ⟨b, 1, none⟩ = some u') :=
  ⟨fun u => World.cell?_setCell_same _ _ _ h0, fun u u' => World.cell?_setCell_same (u := y) _ _ _ (by rw [World.cell?_setCell_other _ _ _ _ (ad_ne b)]; exact h1)⟩
theorem below_drew (w : World) : Below w.heap.size w w.drew := ⟨rfl, rfl, rfl, Nat.le_refl _, fun _ _ => rfl⟩
/-- the ending of a walk -/
theorem ret_b {a b : Bool} (h : a = b) : Ending.returned (.bool a) = .returned (.bool b) := by rw [h]
end Go.Proofs.YtelekchdbiimiaaGreat
namespace Go.Proofs.YtelekchdbiimiaaGreat
set_option linter.unusedVariables false
open Go.RowKit
/-- behind the address A lie m cells, of the values f 0, f 1, .. -/
def Cells (w : World) (A : Option Addr) (m : Nat) (f : Nat → Value) : Prop :=
  0 < m → ∃ b o, A = some ⟨b, o, none⟩ ∧ b < w.heap.size ∧ ∀ k, k < m → w.cell? ⟨b, o + k, none⟩ = some (f k)
theorem Cells.below {w w' : World} {A : Option Addr} {m : Nat} {f : Nat → Value} (h : Cells w A m f) (hb : Below w.heap.size w w') : Cells w' A m f := fun h0 => by
  obtain ⟨b, o, ea, hlt, hc⟩ := h h0
  exact ⟨b, o, ea, Nat.lt_of_lt_of_le hlt hb.size, fun k hk => (hb.cell (p := ⟨b, o + k, none⟩) hlt).trans (hc k hk)⟩
theorem Cells.same {w : World} {A : Option Addr} {m : Nat} {f g : Nat → Value} (h : Cells w A m f) (hfg : ∀ k, k < m → f k = g k) : Cells w A m g := fun h0 => by
  obtain ⟨b, o, ea, hlt, hc⟩ := h h0
  exact ⟨b, o, ea, hlt, fun k hk => by rw [hc k hk, hfg k hk]⟩
/-- two rows of the call's own, of unlike element types, never lie in one block -/
theorem own_apart {w : World} {b1 b2 s1 s2 n1 n2 : Nat} {e1 e2 : TypeId} {v1 v2 : Value} {xs ys : List Value} (h1 : w.ownsRow b1 e1 s1 v1 n1 xs) (h2 : w.ownsRow b2 e2 s2 v2 n2 ys) (he : e1 ≠ e2) :
    v1.ownBlock = none ∨ v1.ownBlock ≠ v2.ownBlock := by
  rcases h1.2 with ⟨rfl, _⟩ | ⟨g1, c1, cur1, rfl, _, hg1, _⟩
  · exact .inl rfl
  · right
    rcases h2.2 with ⟨rfl, _⟩ | ⟨g2, c2, cur2, rfl, _, hg2, _⟩
    · simp [Value.ownBlock]
    · intro e
      have : g1 = g2 := by simpa [Value.ownBlock] using e
      subst this
      rw [hg1] at hg2
      injection hg2 with hg2
      injection hg2 with _ ht
      exact he ht
/-- a cell of a block that is no row of the slice's own is as it was, behind an append -/
theorem grown_cell {w w' : World} {row : Option Nat} (hg : w.grownBy w' row) {p : Addr} (hp : p.block < w.heap.size) (hne : some p.block ≠ row) : w'.cell? p = w.cell? p :=
  World.cell?_of_block (hg.block p.block hp hne)
theorem drewN_below {B : Nat} {a w : World} (h : Below B a w) (n : Nat) : Below B a (w.drewN n) := ⟨h.os, h.tape, h.output, h.size, h.block⟩
/-- make of no elements, with room for n: the cells stand for themselves -/
def blank (z : Value) (m : Nat) : Array Value := madeCells z.cells m
theorem blank_size (z : Value) (m : Nat) : (blank z m).size = m := size_madeCells _ _
theorem make_room {P : Program} {t e : TypeId} {i : TypeInfo} {z : Value} (ht : P.underlying t = some (.slice e)) (hi : P.info? e = some i) (hz : i.zero = some z) {size bytes : Nat} (hs : i.size = size) (hb : i.bytes = bytes)
    (n : Nat) (hbytes : bytes * n ≤ 281474976710656) (h63 : n ≤ 9223372036854775807) (w : World) :
    (Instr.makeSlice t (.int .i64 0) (.int .i64 (n : Int))).run P w = .ok (.slice (some ⟨w.heap.size, 0, none⟩) 0 n) (w.alloc (.cells (blank z (n * size)) e)) := by
  have hbi : (i.bytes : Int) * (n : Int) ≤ 281474976710656 := by
    have h : ((bytes * n : Nat) : Int) ≤ 281474976710656 := by omega
    rw [hb]; rwa [Int.natCast_mul] at h
  have h := run_make (P := P) w t e i z ht hi hz .i64 .i64 0 n (Int.le_refl _) (by omega) hbi (by omega)
  simp only [Int.toNat_zero, Int.toNat_natCast, hs] at h
  exact h
theorem room_own {w : World} {B : Nat} {e : TypeId} {z : Value} {n size : Nat} (hB : B ≤ w.heap.size) (hn : n ≤ maxLen) :
    (w.alloc (.cells (blank z (n * size)) e)).ownsRow B e size (.slice (some ⟨w.heap.size, 0, none⟩) 0 n) 0 [] := World.ownsRow_made w _ n hB hn (blank_size _ _)
/-- two cells that were made just now -/
theorem two_new (w : World) (x y : Value) (t : TypeId) (g : Nat) (hg : g = w.heap.size) : ∀ j u, [x, y][j]? = some u → (w.alloc (.cells #[x, y] t)).cell? ((⟨g, 0, none⟩ : Addr).add j) = some u := fun j u hj => by
  subst hg
  match j, hj with
  | 0, hj => simp at hj; subst hj; simp [Addr.add]
  | 1, hj => simp at hj; subst hj; simp [Addr.add]
theorem own_below {w w1 : World} {base : Nat} {e : TypeId} {size n : Nat} {v : Value} {xs : List Value} (h : w.ownsRow base e size v n xs) (hb : Below w.heap.size w w1) : w1.ownsRow base e size v n xs :=
  h.kept (row := none) ⟨hb.os, hb.tape, hb.output, hb.size, fun i hi _ => hb.block i hi⟩ (by cases v.ownBlock <;> simp)
theorem one_new (w : World) (x : Value) (t : TypeId) (g : Nat) (hg : g = w.heap.size) : ∀ j u, [x][j]? = some u → (w.alloc (.cells #[x] t)).cell? ((⟨g, 0, none⟩ : Addr).add j) = some u := fun j u hj => by
  subst hg
  match j, hj with
  | 0, hj => simp at hj; subst hj; simp [Addr.add]
theorem two_cell (x y : Int) : ∀ u ∈ [Value.int .i64 x, Value.int .i64 y], u.oneCell' = true := fun u hu => by
  simp at hu; rcases hu with rfl | rfl <;> rfl
end Go.Proofs.YtelekchdbiimiaaGreat
namespace Go.Proofs.YtelekchdbiimiaaGreat
set_option linter.unusedVariables false
open Go.RowKit
theorem held1 {W a b : World} {p : Addr} {x : Value} (h : a.cell? p = some x ∧ Below W.heap.size W a) (hb : Below a.heap.size a b) (hp : p.block < W.heap.size) : b.cell? p = some x ∧ Below W.heap.size W b := by
  obtain ⟨h1, h3⟩ := h
  have hz := h3.size
  exact ⟨(hb.cell (by omega)).trans h1, h3.trans (hb.mono hz)⟩
theorem held1N {W a : World} {p : Addr} {x : Value} (h : a.cell? p = some x ∧ Below W.heap.size W a) (n : Nat) : (a.drewN n).cell? p = some x ∧ Below W.heap.size W (a.drewN n) := ⟨h.1, drewN_below h.2 n⟩
theorem held1B {W a : World} {p : Addr} {x : Value} (h : a.cell? p = some x ∧ Below W.heap.size W a) : Below W.heap.size W a := h.2
theorem held2 {W a b : World} {p q : Addr} {x y : Value} (h : a.cell? p = some x ∧ a.cell? q = some y ∧ Below W.heap.size W a) (hb : Below a.heap.size a b) (hp : p.block < W.heap.size) (hq : q.block < W.heap.size) : b.cell? p = some x ∧ b.cell? q = some y ∧ Below W.heap.size W b :=
  ⟨(held1 ⟨h.1, h.2.2⟩ hb hp).1, held1 h.2 hb hq⟩
theorem held2N {W a : World} {p q : Addr} {x y : Value} (h : a.cell? p = some x ∧ a.cell? q = some y ∧ Below W.heap.size W a) (n : Nat) : (a.drewN n).cell? p = some x ∧ (a.drewN n).cell? q = some y ∧ Below W.heap.size W (a.drewN n) := ⟨h.1, held1N h.2 n⟩
theorem held3 {W a b : World} {p q r : Addr} {x y z : Value} (h : a.cell? p = some x ∧ a.cell? q = some y ∧ a.cell? r = some z ∧ Below W.heap.size W a) (hb : Below a.heap.size a b) (hp : p.block < W.heap.size) (hq : q.block < W.heap.size) (hr : r.block < W.heap.size) : b.cell? p = some x ∧ b.cell? q = some y ∧ b.cell? r = some z ∧ Below W.heap.size W b :=
  ⟨(held1 ⟨h.1, h.2.2.2⟩ hb hp).1, held2 h.2 hb hq hr⟩
theorem held3N {W a : World} {p q r : Addr} {x y z : Value} (h : a.cell? p = some x ∧ a.cell? q = some y ∧ a.cell? r = some z ∧ Below W.heap.size W a) (n : Nat) : (a.drewN n).cell? p = some x ∧ (a.drewN n).cell? q = some y ∧ (a.drewN n).cell? r = some z ∧ Below W.heap.size W (a.drewN n) := ⟨h.1, held2N h.2 n⟩
theorem held4 {W a b : World} {p q r s : Addr} {x y z u : Value} (h : a.cell? p = some x ∧ a.cell? q = some y ∧ a.cell? r = some z ∧ a.cell? s = some u ∧ Below W.heap.size W a) (hb : Below a.heap.size a b) (hp : p.block < W.heap.size) (hq : q.block < W.heap.size) (hr : r.block < W.heap.size) (hs : s.block < W.heap.size) :
    b.cell? p = some x ∧ b.cell? q = some y ∧ b.cell? r = some z ∧ b.cell? s = some u ∧ Below W.heap.size W b :=
  ⟨(held1 ⟨h.1, h.2.2.2.2⟩ hb hp).1, held3 h.2 hb hq hr hs⟩
theorem held4N {W a : World} {p q r s : Addr} {x y z u : Value} (h : a.cell? p = some x ∧ a.cell? q = some y ∧ a.cell? r = some z ∧ a.cell? s = some u ∧ Below W.heap.size W a) (n : Nat) : (a.drewN n).cell? p = some x ∧ (a.drewN n).cell? q = some y ∧ (a.drewN n).cell? r = some z ∧ (a.drewN n).cell? s = some u ∧ Below W.heap.size W (a.drewN n) := ⟨h.1, held3N h.2 n⟩
theorem held4B {W a : World} {p q r s : Addr} {x y z u : Value} (h : a.cell? p = some x ∧ a.cell? q = some y ∧ a.cell? r = some z ∧ a.cell? s = some u ∧ Below W.heap.size W a) : Below W.heap.size W a := h.2.2.2.2
theorem ret_n {a b : Int} (h : a = b) : Ending.returned (.int .i64 a) = .returned (.int .i64 b) := by rw [h]
end Go.Proofs.YtelekchdbiimiaaGreat
namespace Go.Proofs.YtelekchdbiimiaaGreat
set_option linter.unusedVariables false
open Go.RowKit
def nods : List Nd → List Value
  | [] => []
  | r :: L => .int .i64 r.1 :: .int .i64 r.2 :: nods L
theorem nods_len (L : List Nd) : (nods L).length = L.length * 2 := by
  induction L with
  | nil => rfl
  | cons r L ih => simp [nods, ih]; omega
theorem nods_app (L M : List Nd) : nods (L ++ M) = nods L ++ nods M := by
  induction L with
  | nil => simp [nods]
  | cons r L ih => simp [nods, ih]
theorem nods_get : ∀ (L : List Nd) (k : Nat), k < L.length → (nods L)[k * 2]? = some (.int .i64 (L.getD k nz).1) ∧ (nods L)[k * 2 + 1]? = some (.int .i64 (L.getD k nz).2) := by
  intro L
  induction L with
  | nil => intro k h; simp at h
  | cons r L ih =>
    intro k h
    cases k with
    | zero => simp [nods]
    | succ k =>
      have := ih k (by simp at h; omega)
      have e1 : (k + 1) * 2 = k * 2 + 1 + 1 := by omega
      rw [e1]
      simp only [nods, List.getElem?_cons_succ, List.getD_cons_succ]
      exact this
theorem nods_one (L : List Nd) : ∀ u ∈ nods L, u.oneCell' = true := by
  induction L with
  | nil => intro u h; simp [nods] at h
  | cons r L ih =>
    intro u h
    simp only [nods, List.mem_cons] at h
    rcases h with rfl | rfl | h
    · rfl
    · rfl
    · exact ih u h
theorem nods_at {L : List Nd} : ∀ j u, (nods L)[j]? = some u → ∃ k, k < L.length ∧ ((j = k * 2 ∧ u = .int .i64 (L.getD k nz).1) ∨ (j = k * 2 + 1 ∧ u = .int .i64 (L.getD k nz).2)) := by
  intro j u h
  have hl := (List.getElem?_eq_some_iff.1 h).1
  rw [nods_len] at hl
  have g := nods_get L (j / 2) (by omega)
  refine ⟨j / 2, by omega, ?_⟩
  rcases Nat.mod_two_eq_zero_or_one j with e | e
  · left
    have e2 : j / 2 * 2 = j := by omega
    rw [e2] at g
    rw [g.1] at h
    injection h with h
    exact ⟨e2.symm, h.symm⟩
  · right
    have e2 : j / 2 * 2 + 1 = j := by omega
    rw [e2] at g
    rw [g.2] at h
    injection h with h
    exact ⟨e2.symm, h.symm⟩
/-- the cells from o on in block b hold the nodes L -/
def NdIn (w : World) (b o : Nat) (L : List Nd) : Prop := b < w.heap.size ∧ ∀ k, k < L.length → w.cell? ⟨b, o + k * 2, none⟩ = some (.int .i64 (L.getD k nz).1) ∧ w.cell? ⟨b, o + k * 2 + 1, none⟩ = some (.int .i64 (L.getD k nz).2)
theorem NdIn.block {w w' : World} {b o : Nat} {L : List Nd} (h : NdIn w b o L) (hs : w.heap.size ≤ w'.heap.size) (hb : w'.heap[b]? = w.heap[b]?) : NdIn w' b o L :=
  ⟨Nat.lt_of_lt_of_le h.1 hs, fun k hk => ⟨(World.cell?_of_block (a := ⟨b, o + k * 2, none⟩) hb).trans (h.2 k hk).1, (World.cell?_of_block (a := ⟨b, o + k * 2 + 1, none⟩) hb).trans (h.2 k hk).2⟩⟩
theorem NdIn.below {B : Nat} {w w' : World} {b o : Nat} {L : List Nd} (h : NdIn w b o L) (hb : Below B w w') (hB : b < B) : NdIn w' b o L := h.block hb.size (hb.block b hB)
theorem NdIn.take {w : World} {b o k : Nat} {L : List Nd} (h : NdIn w b o L) : NdIn w b o (L.take k) := by
  refine ⟨h.1, fun j hj => ?_⟩
  have hj' : j < k ∧ j < L.length := by rw [List.length_take] at hj; omega
  have := h.2 j (by omega)
  have e : (L.take k).getD j nz = L.getD j nz := by
    rw [List.getD_eq_getElem?_getD, List.getD_eq_getElem?_getD, List.getElem?_take_of_lt (by omega)]
  rw [e]; exact this
theorem NdIn.drop {w : World} {b o k : Nat} {L : List Nd} (h : NdIn w b o L) : NdIn w b (o + k * 2) (L.drop k) := by
  refine ⟨h.1, fun j hj => ?_⟩
  have hj' : j < L.length - k := by simpa using hj
  have := h.2 (k + j) (by omega)
  have e : (L.drop k).getD j nz = L.getD (k + j) nz := by
    rw [List.getD_eq_getElem?_getD, List.getD_eq_getElem?_getD, List.getElem?_drop]
  rw [e]
  have e1 : o + k * 2 + j * 2 = o + (k + j) * 2 := by omega
  rw [e1]; exact this
theorem NdIn.news {w : World} {b o : Nat} {L : List Nd} (h : NdIn w b o L) : ∀ j u, (nods L)[j]? = some u → w.cell? ((⟨b, o, none⟩ : Addr).add j) = some u := by
  intro j u hj
  have ea : (⟨b, o, none⟩ : Addr).add j = ⟨b, o + j, none⟩ := by
    unfold Addr.add; split
    · rename_i h; subst h; rfl
    · rfl
  obtain ⟨k, hk, (⟨e1, e2⟩ | ⟨e1, e2⟩)⟩ := nods_at j u hj
  · rw [ea, e1, e2]; exact (h.2 k hk).1
  · rw [ea, e1, e2, ← Nat.add_assoc]; exact (h.2 k hk).2
/-- behind the address A lie the nodes L -/
def NdAt (w : World) (A : Option Addr) (L : List Nd) : Prop := 0 < L.length → ∃ b o, A = some ⟨b, o, none⟩ ∧ NdIn w b o L
/-- v is a slice of the nodes L, with room for c -/
def NodesAt (w : World) (v : Value) (L : List Nd) : Prop := ∃ A c, v = .slice A L.length c ∧ L.length ≤ c ∧ c ≤ maxLen ∧ (A = none → c = 0) ∧ NdAt w A L
theorem NdAt.below {w w' : World} {A : Option Addr} {L : List Nd} (h : NdAt w A L) (hb : Below w.heap.size w w') : NdAt w' A L := fun h0 => by
  obtain ⟨b, o, ea, hc⟩ := h h0
  exact ⟨b, o, ea, hc.below hb hc.1⟩
theorem NodesAt.below {w w' : World} {v : Value} {L : List Nd} (h : NodesAt w v L) (hb : Below w.heap.size w w') : NodesAt w' v L := by
  obtain ⟨A, c, e, h1, h2, h3, hc⟩ := h
  exact ⟨A, c, e, h1, h2, h3, hc.below hb⟩
theorem nodes_nil (w : World) : NodesAt w (.slice none 0 0) [] := ⟨none, 0, rfl, by simp, by unfold maxLen; omega, fun _ => rfl, fun h => by simp at h⟩
theorem nodes_cells {w : World} {A : Option Addr} {m c : Nat} {L : List Nd} (h : NodesAt w (.slice A m c) L) : m = L.length ∧ L.length ≤ c ∧ c ≤ maxLen ∧ NdAt w A L := by
  obtain ⟨A', c', e, h1, h2, _, hc⟩ := h
  injection e with e1 e2 e3
  subst e1 e3
  exact ⟨e2, h1, h2, hc⟩
theorem nodes_none {w : World} {m c : Nat} {L : List Nd} (h : NodesAt w (.slice none m c) L) : m = 0 ∧ c = 0 ∧ L = [] := by
  obtain ⟨A', c', e, h1, h2, h3, hc⟩ := h
  injection e with e1 e2 e3
  subst e1 e3
  have := h3 rfl
  exact ⟨by omega, this, List.eq_nil_of_length_eq_zero (by omega)⟩
/-- the slice v is a row of the call's own that holds the nodes L -/
def OwnNd (e : TypeId) (w : World) (B : Nat) (v : Value) (L : List Nd) : Prop := w.ownsRow B e 2 v L.length (nods L)
theorem ownNd_nil (e : TypeId) (w : World) (B : Nat) : OwnNd e w B (.slice none 0 0) [] := World.ownsRow_nil w B e 2
theorem ownNd_snoc {e : TypeId} {w : World} {B : Nat} {v : Value} {L : List Nd} {x y : Int} (h : w.ownsRow B e 2 v (L.length + 1) (nods L ++ [.int .i64 x, .int .i64 y])) : OwnNd e w B v (L ++ [(x, y)]) := by
  unfold OwnNd
  rw [nods_app, List.length_append]
  exact h
theorem ownNd_app {e : TypeId} {w : World} {B : Nat} {v : Value} {L M : List Nd} (h : w.ownsRow B e 2 v (L.length + M.length) (nods L ++ nods M)) : OwnNd e w B v (L ++ M) := by
  unfold OwnNd
  rw [nods_app, List.length_append]
  exact h
theorem ownNd_form {e : TypeId} {w : World} {B : Nat} {v : Value} {L : List Nd} (h : OwnNd e w B v L) :
    (v = .slice none 0 0 ∧ L = []) ∨ ∃ g cap, v = .slice (some ⟨g, 0, none⟩) L.length cap ∧ B ≤ g ∧ g < w.heap.size ∧ L.length ≤ cap ∧ cap ≤ maxLen ∧ NdIn w g 0 L := by
  have hf := h
  rcases h.2 with ⟨hv, h0⟩ | ⟨g, cap, cur, hv, hb, hg, hn, hc, _⟩
  · exact .inl ⟨hv, List.eq_nil_of_length_eq_zero h0⟩
  · subst hv
    refine .inr ⟨g, cap, rfl, hb, (hf.lt g rfl).2, hn, hc, (hf.lt g rfl).2, fun k hk => ?_⟩
    have a := World.ownsRow.cellAt hf (k * 2) (by omega)
    have b := World.ownsRow.cellAt hf (k * 2 + 1) (by omega)
    have c := nods_get L k hk
    rw [Nat.zero_add, a, b]
    exact c
theorem ownNd_nodes {e : TypeId} {w : World} {B : Nat} {v : Value} {L : List Nd} (h : OwnNd e w B v L) : NodesAt w v L := by
  rcases ownNd_form h with ⟨rfl, rfl⟩ | ⟨g, cap, rfl, hb, hg, hn, hc, hi⟩
  · exact nodes_nil w
  · exact ⟨_, cap, rfl, hn, hc, fun e => by simp at e, fun _ => ⟨g, 0, rfl, hi⟩⟩
theorem ownNd_slice {e : TypeId} {w : World} {B size n : Nat} {v : Value} {xs : List Value} (h : w.ownsRow B e size v n xs) : ∃ A m c, v = .slice A m c := by
  rcases h.2 with ⟨hv, h0⟩ | ⟨g, cap, cur, hv, _⟩
  · exact ⟨none, 0, 0, hv⟩
  · exact ⟨_, n, cap, hv⟩
def NBds (L : List Nd) : Prop := ∀ n ∈ L, (-9223372036854775808 ≤ n.1 ∧ n.1 ≤ 9223372036854775807) ∧ (-9223372036854775808 ≤ n.2 ∧ n.2 ≤ 9223372036854775807)
theorem nbds_at {L : List Nd} (h : NBds L) {k : Nat} (hk : k < L.length) : (-9223372036854775808 ≤ (L.getD k nz).1 ∧ (L.getD k nz).1 ≤ 9223372036854775807) ∧ (-9223372036854775808 ≤ (L.getD k nz).2 ∧ (L.getD k nz).2 ≤ 9223372036854775807) := h _ (nd_mem hk)
theorem nbds_perm {L M : List Nd} (h : M.Perm L) (g : NBds L) : NBds M := fun n hn => g n (h.mem_iff.1 hn)
abbrev Pl := Nd × Int
def plz : Pl := ((0, 0), 0)
def plas : List Pl → List Value
  | [] => []
  | r :: L => .int .i64 r.1.1 :: .int .i64 r.1.2 :: .int .i64 r.2 :: plas L
theorem plas_len (L : List Pl) : (plas L).length = L.length * 3 := by
  induction L with
  | nil => rfl
  | cons r L ih => simp [plas, ih]; omega
theorem plas_get : ∀ (L : List Pl) (k : Nat), k < L.length → (plas L)[k * 3]? = some (.int .i64 (L.getD k plz).1.1) ∧ (plas L)[k * 3 + 1]? = some (.int .i64 (L.getD k plz).1.2) ∧ (plas L)[k * 3 + 2]? = some (.int .i64 (L.getD k plz).2) := by
  intro L
  induction L with
  | nil => intro k h; simp at h
  | cons r L ih =>
    intro k h
    cases k with
    | zero => simp [plas]
    | succ k =>
      have := ih k (by simp at h; omega)
      have e1 : (k + 1) * 3 = k * 3 + 1 + 1 + 1 := by omega
      rw [e1]
      simp only [plas, List.getElem?_cons_succ, List.getD_cons_succ]
      exact this
theorem plas_at {L : List Pl} : ∀ j u, (plas L)[j]? = some u → ∃ k, k < L.length ∧ ((j = k * 3 ∧ u = .int .i64 (L.getD k plz).1.1) ∨ (j = k * 3 + 1 ∧ u = .int .i64 (L.getD k plz).1.2) ∨ (j = k * 3 + 2 ∧ u = .int .i64 (L.getD k plz).2)) := by
  intro j u h
  have hl := (List.getElem?_eq_some_iff.1 h).1
  rw [plas_len] at hl
  have g := plas_get L (j / 3) (by omega)
  refine ⟨j / 3, by omega, ?_⟩
  rcases (show j % 3 = 0 ∨ j % 3 = 1 ∨ j % 3 = 2 by omega) with e | e | e
  · left
    have e2 : j / 3 * 3 = j := by omega
    rw [e2] at g
    rw [g.1] at h
    injection h with h
    exact ⟨e2.symm, h.symm⟩
  · right; left
    have e2 : j / 3 * 3 + 1 = j := by omega
    rw [e2] at g
    rw [g.2.1] at h
    injection h with h
    exact ⟨e2.symm, h.symm⟩
  · right; right
    have e2 : j / 3 * 3 + 2 = j := by omega
    rw [e2] at g
    rw [g.2.2] at h
    injection h with h
    exact ⟨e2.symm, h.symm⟩
def PlIn (w : World) (b o : Nat) (L : List Pl) : Prop := b < w.heap.size ∧ ∀ k, k < L.length → w.cell? ⟨b, o + k * 3, none⟩ = some (.int .i64 (L.getD k plz).1.1) ∧ w.cell? ⟨b, o + k * 3 + 1, none⟩ = some (.int .i64 (L.getD k plz).1.2) ∧ w.cell? ⟨b, o + k * 3 + 2, none⟩ = some (.int .i64 (L.getD k plz).2)
theorem PlIn.block {w w' : World} {b o : Nat} {L : List Pl} (h : PlIn w b o L) (hs : w.heap.size ≤ w'.heap.size) (hb : w'.heap[b]? = w.heap[b]?) : PlIn w' b o L :=
  ⟨Nat.lt_of_lt_of_le h.1 hs, fun k hk => ⟨(World.cell?_of_block (a := ⟨b, o + k * 3, none⟩) hb).trans (h.2 k hk).1, (World.cell?_of_block (a := ⟨b, o + k * 3 + 1, none⟩) hb).trans (h.2 k hk).2.1, (World.cell?_of_block (a := ⟨b, o + k * 3 + 2, none⟩) hb).trans (h.2 k hk).2.2⟩⟩
theorem PlIn.below {B : Nat} {w w' : World} {b o : Nat} {L : List Pl} (h : PlIn w b o L) (hb : Below B w w') (hB : b < B) : PlIn w' b o L := h.block hb.size (hb.block b hB)
theorem PlIn.take {w : World} {b o k : Nat} {L : List Pl} (h : PlIn w b o L) : PlIn w b o (L.take k) := by
  refine ⟨h.1, fun j hj => ?_⟩
  have hj' : j < k ∧ j < L.length := by rw [List.length_take] at hj; omega
  have := h.2 j (by omega)
  have e : (L.take k).getD j plz = L.getD j plz := by
    rw [List.getD_eq_getElem?_getD, List.getD_eq_getElem?_getD, List.getElem?_take_of_lt (by omega)]
  rw [e]; exact this
theorem PlIn.drop {w : World} {b o k : Nat} {L : List Pl} (h : PlIn w b o L) : PlIn w b (o + k * 3) (L.drop k) := by
  refine ⟨h.1, fun j hj => ?_⟩
  have hj' : j < L.length - k := by simpa using hj
  have := h.2 (k + j) (by omega)
  have e : (L.drop k).getD j plz = L.getD (k + j) plz := by
    rw [List.getD_eq_getElem?_getD, List.getD_eq_getElem?_getD, List.getElem?_drop]
  rw [e]
  have e1 : o + k * 3 + j * 3 = o + (k + j) * 3 := by omega
  rw [e1]; exact this
theorem PlIn.news {w : World} {b o : Nat} {L : List Pl} (h : PlIn w b o L) : ∀ j u, (plas L)[j]? = some u → w.cell? ((⟨b, o, none⟩ : Addr).add j) = some u := by
  intro j u hj
  have ea : (⟨b, o, none⟩ : Addr).add j = ⟨b, o + j, none⟩ := by
    unfold Addr.add; split
    · rename_i h; subst h; rfl
    · rfl
  obtain ⟨k, hk, (⟨e1, e2⟩ | ⟨e1, e2⟩ | ⟨e1, e2⟩)⟩ := plas_at j u hj
  · rw [ea, e1, e2]; exact (h.2 k hk).1
  · rw [ea, e1, e2, ← Nat.add_assoc]; exact (h.2 k hk).2.1
  · rw [ea, e1, e2, ← Nat.add_assoc]; exact (h.2 k hk).2.2
end Go.Proofs.YtelekchdbiimiaaGreat
namespace Go.Proofs.YtelekchdbiimiaaGreat
set_option linter.unusedVariables false
open Go.RowKit
/-- where s[k:] lies: at the very end of the room it stays where it was -/
def advA (a : Addr) (c k s : Nat) : Addr := if c = k then a else a.add (k * s)
theorem NdAt.adv {w : World} {a : Addr} {L : List Nd} {c k : Nat} (h : NdAt w (some a) L) (hc : L.length ≤ c) : NdAt w (some (advA a c k 2)) (L.drop k) := fun h0 => by
  have hk : k < L.length := by rw [List.length_drop] at h0; omega
  obtain ⟨b, o, e, hin⟩ := h (by omega)
  injection e with e
  subst e
  refine ⟨b, o + k * 2, ?_, hin.drop⟩
  have hne : ¬ c = k := by omega
  unfold advA
  rw [if_neg hne]
  unfold Addr.add
  split
  · rename_i hz; rw [hz]; rfl
  · rfl
theorem NdAt.take {w : World} {A : Option Addr} {L : List Nd} {k : Nat} (h : NdAt w A L) : NdAt w A (L.take k) := fun h0 => by
  have hk : k < L.length ∨ 0 < L.length := by simp at h0; omega
  obtain ⟨b, o, e, hin⟩ := h (by omega)
  exact ⟨b, o, e, hin.take⟩
theorem NdAt.news {w w' : World} {a : Addr} {L : List Nd} (h : NdAt w (some a) L) (hb : Below w.heap.size w w') : ∀ j u, (nods L)[j]? = some u → w'.cell? (a.add j) = some u := fun j u hj => by
  have h0 : 0 < L.length := by
    have := (List.getElem?_eq_some_iff.1 hj).1
    rw [nods_len] at this; omega
  obtain ⟨b, o, e, hin⟩ := h h0
  injection e with e
  subst e
  exact (hin.below hb hin.1).news j u hj
theorem NdAt.first {w w' : World} {a : Addr} {x : Nd} {L : List Nd} (h : NdAt w (some a) (x :: L)) (hb : Below w.heap.size w w') : ∃ b o, a = ⟨b, o, none⟩ ∧ b < w.heap.size ∧ w'.cell? ⟨b, o, none⟩ = some (.int .i64 x.1) ∧ w'.cell? ⟨b, o + 1, none⟩ = some (.int .i64 x.2) := by
  obtain ⟨b, o, e, hin⟩ := h (by simp)
  injection e with e
  have := (hin.below hb hin.1).2 0 (by simp)
  simp only [Nat.zero_mul, Nat.add_zero, List.getD_cons_zero] at this
  exact ⟨b, o, e, hin.1, this.1, this.2⟩
theorem add_zero' (a : Addr) : a.add 0 = a := by simp [Addr.add]
section
variable {P : Program}
theorem sl_from {t e : TypeId} {i : TypeInfo} (ht : P.underlying t = some (.slice e)) (hi : P.info? e = some i) {s : Nat} (hs : i.size = s) (a : Addr) (n c k : Nat) (hk : k ≤ n) (w : World) :
    (Instr.slice t (.slice (some a) n c) (some (.int .i64 (k : Int))) none none).run P w = .ok (.slice (some (advA a c k s)) (n - k) (c - k)) w := by
  have he : P.elem t = e := by unfold Program.elem; rw [ht]
  have ht' : P.underlying t = some (.slice (P.elem t)) := by rw [he]; exact ht
  rw [run_slice_l w t (some a) n c ht' .i64 (k : Int) (by omega) (by omega), he]
  have hz : (sizeOf e).run P w = .ok s w := by
    have hc : P.cellsOf e = s := by simp [Program.cellsOf, hi, hs]
    simp [run_sizeOf, hi, hc]
  rw [hz]
  simp only [Result.andThen_ok, sliced, Int.toNat_natCast, advA, Option.map]
  split <;> rfl
theorem sl_one {t e : TypeId} {i : TypeInfo} (ht : P.underlying t = some (.slice e)) (hi : P.info? e = some i) {s : Nat} (hs : i.size = s) (a : Addr) (n c : Nat) (hk : 1 ≤ n) (w : World) :
    (Instr.slice t (.slice (some a) n c) (some (.int .i64 1)) none none).run P w = .ok (.slice (some (advA a c 1 s)) (n - 1) (c - 1)) w := sl_from ht hi hs a n c 1 hk w
theorem sl_to {t e : TypeId} {i : TypeInfo} (ht : P.underlying t = some (.slice e)) (hi : P.info? e = some i) {s : Nat} (hs : i.size = s) (A : Option Addr) (n c k : Nat) (hk : k ≤ c) (w : World) :
    (Instr.slice t (.slice A n c) none (some (.int .i64 (k : Int))) none).run P w = .ok (.slice A k c) w := by
  have he : P.elem t = e := by unfold Program.elem; rw [ht]
  have ht' : P.underlying t = some (.slice (P.elem t)) := by rw [he]; exact ht
  rw [run_slice_h w t A n c ht' .i64 (k : Int) (by omega) (by omega), he]
  have hz : (sizeOf e).run P w = .ok s w := by
    have hc : P.cellsOf e = s := by simp [Program.cellsOf, hi, hs]
    simp [run_sizeOf, hi, hc]
  rw [hz]
  simp only [Result.andThen_ok, sliced, Int.toNat_natCast, Nat.zero_mul, Nat.sub_zero]
  cases A with
  | none => simp
  | some a => simp [add_zero']
end
/-- four cells, kept by what only makes memory -/
theorem keep4 {W a b : World} {p q r s : Addr} {x y z u : Value} (h : a.cell? p = some x ∧ a.cell? q = some y ∧ a.cell? r = some z ∧ a.cell? s = some u ∧ Below W.heap.size W a) (hb : Below a.heap.size a b)
    (hp : p.block < W.heap.size) (hq : q.block < W.heap.size) (hr : r.block < W.heap.size) (hs : s.block < W.heap.size) : b.cell? p = some x ∧ b.cell? q = some y ∧ b.cell? r = some z ∧ b.cell? s = some u ∧ Below W.heap.size W b := by
  obtain ⟨h1, h2, h3, h4, h5⟩ := h
  have hz := h5.size
  exact ⟨(hb.cell (by omega)).trans h1, (hb.cell (by omega)).trans h2, (hb.cell (by omega)).trans h3, (hb.cell (by omega)).trans h4, h5.trans (hb.mono hz)⟩
/-- two cells of older blocks, kept by an append to a row of the call's own -/
theorem keep2g {W w1 w2 : World} {base size n : Nat} {e : TypeId} {v : Value} {xs : List Value} {p q : Addr} {x y : Value} (hc : W.cell? p = some x) (hd : W.cell? q = some y) (hown : w1.ownsRow base e size v n xs) (hg : W.grownBy w2 v.ownBlock)
    (hp : p.block < base) (hq : q.block < base) (hz : base ≤ W.heap.size) : w2.cell? p = some x ∧ w2.cell? q = some y :=
  ⟨(grown_cell hg (by omega) fun e => by have := (World.ownsRow.lt hown _ e.symm).1; omega).trans hc, (grown_cell hg (by omega) fun e => by have := (World.ownsRow.lt hown _ e.symm).1; omega).trans hd⟩
end Go.Proofs.YtelekchdbiimiaaGreat
namespace Go.Proofs.YtelekchdbiimiaaGreat
set_option linter.unusedVariables false
open Go.RowKit
/-- what a call of Fold leaves -/
def FoldPost (L : List Nd) (w : World) (e : Ending) (w' : World) : Prop :=
  (foldB L = false ∧ e = .returned (.tuple #[.slice none 0 0, .bool false]) ∧ Below w.heap.size w w') ∨
  (foldB L = true ∧ ∃ F A c, e = .returned (.tuple #[.slice A (List.length F) c, .bool true]) ∧ FoldOf L F ∧ NodesAt w' (.slice A F.length c) F ∧ Below w.heap.size w w')
theorem own_low {e : TypeId} {w : World} {B B2 size n : Nat} {v : Value} {xs : List Value} (h : w.ownsRow B e size v n xs) (hB : B2 ≤ B) : w.ownsRow B2 e size v n xs := by
  refine ⟨h.1, ?_⟩
  rcases h.2 with hn | ⟨g, cap, cur, rfl, hb, rest⟩
  · exact .inl hn
  · exact .inr ⟨g, cap, cur, rfl, by omega, rest⟩
/-- what a call of Fold leaves: the list is a row of its own -/
def FoldOwn (T : TypeId) (L : List Nd) (w : World) (e : Ending) (w' : World) : Prop :=
  (foldB L = false ∧ e = .returned (.tuple #[.slice none 0 0, .bool false]) ∧ Below w.heap.size w w') ∨
  (foldB L = true ∧ ∃ F A c, e = .returned (.tuple #[.slice A (List.length F) c, .bool true]) ∧ FoldOf L F ∧ OwnNd T w' w.heap.size (.slice A F.length c) F ∧ Below w.heap.size w w')
theorem FoldOwn.post {T : TypeId} {L : List Nd} {w w' : World} {e : Ending} (h : FoldOwn T L w e w') : FoldPost L w e w' := by
  rcases h with h | ⟨a, F, A, c, b, f, o, hb⟩
  · exact .inl h
  · exact .inr ⟨a, F, A, c, b, f, ownNd_nodes o, hb⟩
end Go.Proofs.YtelekchdbiimiaaGreat
namespace Go.Proofs.YtelekchdbiimiaaGreat
set_option linter.unusedVariables false
open Go.RowKit
def ints (T : List Int) : List Value := T.map (Value.int .i64)
theorem ints_len (T : List Int) : (ints T).length = T.length := by simp [ints]
theorem ints_app (S T : List Int) : ints (S ++ T) = ints S ++ ints T := by simp [ints]
/-- the slice v is a row of the call's own that holds the numbers T -/
def OwnI (e : TypeId) (w : World) (B : Nat) (v : Value) (T : List Int) : Prop := w.ownsRow B e 1 v T.length (ints T)
theorem ownI_nil (e : TypeId) (w : World) (B : Nat) : OwnI e w B (.slice none 0 0) [] := World.ownsRow_nil w B e 1
theorem ownI_form {e : TypeId} {w : World} {B : Nat} {v : Value} {T : List Int} (h : OwnI e w B v T) :
    (v = .slice none 0 0 ∧ T = []) ∨ ∃ g cap, v = .slice (some ⟨g, 0, none⟩) T.length cap ∧ B ≤ g ∧ g < w.heap.size ∧ T.length ≤ cap ∧ cap ≤ maxLen := by
  have hf := h
  rcases h.2 with ⟨hv, h0⟩ | ⟨g, cap, cur, hv, hb, hg, hn, hc, _⟩
  · exact .inl ⟨hv, List.eq_nil_of_length_eq_zero h0⟩
  · exact .inr ⟨g, cap, hv, hb, (hf.lt g (by rw [hv]; rfl)).2, hn, hc⟩
theorem own_slice {e : TypeId} {w : World} {B size n : Nat} {v : Value} {xs : List Value} (h : w.ownsRow B e size v n xs) : ∃ A m c, v = .slice A m c := by
  rcases h.2 with ⟨hv, h0⟩ | ⟨g, cap, cur, hv, _⟩
  · exact ⟨none, 0, 0, hv⟩
  · exact ⟨_, n, cap, hv⟩
theorem ownI_cell {e : TypeId} {w : World} {B g cap : Nat} {T : List Int} (h : OwnI e w B (.slice (some ⟨g, 0, none⟩) T.length cap) T) (k : Nat) (hk : k < T.length) : w.cell? ⟨g, k, none⟩ = some (.int .i64 (T.getD k 0)) := by
  have := World.ownsRow.cellAt h k (by omega)
  rw [this]
  simp [ints, List.getD_eq_getElem?_getD, List.getElem?_eq_getElem hk]
theorem ownI_cut {e : TypeId} {w : World} {B g cap : Nat} {S P : List Int} (h : OwnI e w B (.slice (some ⟨g, 0, none⟩) (S ++ P).length cap) (S ++ P)) :
    OwnI e w B (.slice (some ⟨g, 0, none⟩) S.length cap) S := by
  refine ⟨by simp [ints], ?_⟩
  rcases h.2 with ⟨h', _⟩ | ⟨g', cap', cur, h', hb, hg, hn, hc, hs, ht⟩
  · simp at h'
  · simp only [Value.slice.injEq, Option.some.injEq, Addr.mk.injEq, and_true, true_and] at h'
    obtain ⟨rfl, rfl⟩ := h'
    refine .inr ⟨g, cap, cur, rfl, hb, hg, by simp at hn; omega, hc, hs, ?_⟩
    have h1 := congrArg (List.take S.length) ht
    rw [List.take_take, ints_app] at h1
    rw [List.take_append_of_le_length (by simp [ints])] at h1
    have e1 : min S.length ((S ++ P).length * 1) = S.length * 1 := by simp
    rw [e1] at h1
    rw [h1]
    exact List.take_of_length_le (by simp [ints])
/-- behind a call the slice lies where it lay, or in a new block -/
def At (w : World) (v v' : Value) : Prop := v'.ownBlock = v.ownBlock ∨ ∃ k, v'.ownBlock = some k ∧ w.heap.size ≤ k
theorem At.refl (w : World) (v : Value) : At w v v := .inl rfl
theorem At.trans {w w1 : World} {v v1 v2 : Value} (h : At w v v1) (h1 : At w1 v1 v2) (hs : w.heap.size ≤ w1.heap.size) : At w v v2 := by
  rcases h1 with e | ⟨k, e, hk⟩
  · rcases h with f | ⟨k, f, hk⟩
    · exact .inl (e.trans f)
    · exact .inr ⟨k, e.trans f, hk⟩
  · exact .inr ⟨k, e, by omega⟩
theorem grown_trans {w w1 w2 : World} {v v1 : Value} (h : w.grownBy w1 v.ownBlock) (h1 : w1.grownBy w2 v1.ownBlock) (ha : At w v v1) : w.grownBy w2 v.ownBlock :=
  ⟨h1.os.trans h.os, h1.tape.trans h.tape, h1.output.trans h.output, Nat.le_trans h.size h1.size, fun k hk hne => by
    rw [h1.block k (Nat.lt_of_lt_of_le hk h.size) ?_, h.block k hk hne]
    rcases ha with e | ⟨j, e, hj⟩
    · rw [e]; exact hne
    · rw [e]; intro g; injection g; omega⟩
theorem grown_below {w w1 : World} {row : Option Nat} (h : Below w.heap.size w w1) : w.grownBy w1 row := ⟨h.os, h.tape, h.output, h.size, fun k hk _ => h.block k hk⟩
theorem below_grown {B : Nat} {w w1 : World} {v : Value} (h : w.grownBy w1 v.ownBlock) (hb : ∀ g, v.ownBlock = some g → B ≤ g) (hB : B ≤ w.heap.size) : Below B w w1 :=
  ⟨h.os, h.tape, h.output, h.size, fun k hk => h.block k (by omega) (fun e => by have := hb k e.symm; omega)⟩
/-- a slice that is only read: it holds the numbers T -/
def IntsAt (w : World) (v : Value) (T : List Int) : Prop := ∃ A c, v = .slice A T.length c ∧ Cells w A T.length (fun k => .int .i64 (T.getD k 0))
theorem IntsAt.below {w w' : World} {v : Value} {T : List Int} (h : IntsAt w v T) (hb : Below w.heap.size w w') : IntsAt w' v T := by
  obtain ⟨A, c, e, hc⟩ := h
  exact ⟨A, c, e, hc.below hb⟩
theorem ints_nil (w : World) : IntsAt w (.slice none 0 0) [] := ⟨none, 0, rfl, fun h => by simp at h⟩
theorem ownI_ints {e : TypeId} {w : World} {B : Nat} {v : Value} {T : List Int} (h : OwnI e w B v T) : IntsAt w v T := by
  rcases ownI_form h with ⟨rfl, rfl⟩ | ⟨g, cap, rfl, hb, hg, hn, hc⟩
  · exact ints_nil w
  · exact ⟨_, cap, rfl, fun h0 => ⟨g, 0, rfl, hg, fun k hk => by rw [Nat.zero_add]; exact ownI_cell h k hk⟩⟩
theorem ownI_snoc {e : TypeId} {w : World} {B : Nat} {v : Value} {T : List Int} {x : Int} {n : Nat} (hn : n = T.length) (h : w.ownsRow B e 1 v (n + 1) (ints T ++ [.int .i64 x])) : OwnI e w B v (T ++ [x]) := by
  subst hn
  unfold OwnI
  rw [ints_app, List.length_append]
  exact h
theorem new_cell (w : World) (x : Value) (t : TypeId) (g : Nat) (hg : g = w.heap.size) : (w.alloc (.cells #[x] t)).cell? ⟨g, 0, none⟩ = some x := by subst hg; simp
theorem ints_cells {w : World} {A : Option Addr} {m c : Nat} {T : List Int} (h : IntsAt w (.slice A m c) T) : m = T.length ∧ Cells w A T.length (fun k => .int .i64 (T.getD k 0)) := by
  obtain ⟨A', c', e, hc⟩ := h
  injection e with e1 e2 e3
  subst e1
  exact ⟨e2, hc⟩
theorem take_at {T : List Int} {k : Nat} (h : k < T.length) : T.take (k + 1) = T.take k ++ [T.getD k 0] := by
  rw [List.take_succ_eq_append_getElem h]; simp [List.getD_eq_getElem?_getD, List.getElem?_eq_getElem h]
theorem getD_mem {T : List Int} {k : Nat} (h : k < T.length) : T.getD k 0 ∈ T := by
  rw [List.getD_eq_getElem?_getD, List.getElem?_eq_getElem h]; exact List.getElem_mem h
theorem one_int (x : Int) : ∀ u ∈ [Value.int .i64 x], u.oneCell' = true := fun u hu => by
  simp at hu; subst hu; rfl
end Go.Proofs.YtelekchdbiimiaaGreat
namespace Go.Proofs.YtelekchdbiimiaaGreat
set_option linter.unusedVariables false
open Go.RowKit
/-- but for the blocks g and h, what was there is as it was -/
structure Chg (g h : Nat) (w w' : World) : Prop where
  os : w'.os = w.os
  tape : w'.tape = w.tape
  output : w'.output = w.output
  size : w.heap.size ≤ w'.heap.size
  block : ∀ k, k < w.heap.size → k ≠ g → k ≠ h → w'.heap[k]? = w.heap[k]?
theorem Chg.of {g h : Nat} {w w' : World} (hb : Below w.heap.size w w') : Chg g h w w' := ⟨hb.os, hb.tape, hb.output, hb.size, fun k hk _ _ => hb.block k hk⟩
theorem Chg.refl (g h : Nat) (w : World) : Chg g h w w := ⟨rfl, rfl, rfl, Nat.le_refl _, fun _ _ _ _ => rfl⟩
theorem Chg.trans {g h : Nat} {a b c : World} (p : Chg g h a b) (q : Chg g h b c) : Chg g h a c :=
  ⟨q.os.trans p.os, q.tape.trans p.tape, q.output.trans p.output, Nat.le_trans p.size q.size, fun k hk h1 h2 => (q.block k (Nat.lt_of_lt_of_le hk p.size) h1 h2).trans (p.block k hk h1 h2)⟩
theorem Chg.grown_g {g h : Nat} {w w' : World} (hg : w.grownBy w' (some g)) : Chg g h w w' := ⟨hg.os, hg.tape, hg.output, hg.size, fun k hk h1 _ => hg.block k hk (by simpa using h1)⟩
theorem Chg.grown_h {g h : Nat} {w w' : World} (hg : w.grownBy w' (some h)) : Chg g h w w' := ⟨hg.os, hg.tape, hg.output, hg.size, fun k hk _ h2 => hg.block k hk (by simpa using h2)⟩
theorem Chg.below {g h B : Nat} {w w' : World} (c : Chg g h w w') (h1 : B ≤ g) (h2 : B ≤ h) (h3 : B ≤ w.heap.size) : Below B w w' :=
  ⟨c.os, c.tape, c.output, c.size, fun k hk => c.block k (by omega) (by omega) (by omega)⟩
theorem Chg.cell {g h : Nat} {w w' : World} (c : Chg g h w w') {b o : Nat} (h0 : b < w.heap.size) (h1 : b ≠ g) (h2 : b ≠ h) : w'.cell? ⟨b, o, none⟩ = w.cell? ⟨b, o, none⟩ := World.cell?_of_block (a := ⟨b, o, none⟩) (c.block b h0 h1 h2)
theorem Chg.frozen {g h : Nat} {w w' : World} (c : Chg g h w w') {b o : Nat} (h0 : b < w.heap.size) (h1 : b ≠ g) (h2 : b ≠ h) : w'.frozen? ⟨b, o, none⟩ = w.frozen? ⟨b, o, none⟩ := World.frozen?_of_block (a := ⟨b, o, none⟩) (c.block b h0 h1 h2)
theorem own_chg {g h : Nat} {w w' : World} {base : Nat} {e : TypeId} {size n : Nat} {v : Value} {xs : List Value} (hv : w.ownsRow base e size v n xs) (c : Chg g h w w') (h1 : v.ownBlock ≠ some g) (h2 : v.ownBlock ≠ some h) : w'.ownsRow base e size v n xs := by
  refine ⟨hv.1, ?_⟩
  rcases hv.2 with hn | ⟨k, cap, cur, rfl, hb, hgg, rest⟩
  · exact .inl hn
  · refine .inr ⟨k, cap, cur, rfl, hb, ?_, rest⟩
    rw [c.block k (Array.getElem?_eq_some_iff.1 hgg).1 (by simpa [Value.ownBlock] using h1) (by simpa [Value.ownBlock] using h2)]
    exact hgg
/-- a block of four cells, and a row of N whole numbers -/
structure Ds (TD TI : TypeId) (w : World) (B g h N : Nat) (xs ys : List Value) : Prop where
  top : w.ownsRow B TD 4 (.slice (some ⟨g, 0, none⟩) 1 1) 1 xs
  row : w.ownsRow B TI 1 (.slice (some ⟨h, 0, none⟩) N N) N ys
  ne : g ≠ h
theorem Ds.setTop {TD TI : TypeId} {w : World} {B g h N : Nat} {xs ys : List Value} (d : Ds TD TI w B g h N xs ys) (j : Nat) (u : Value) :
    Ds TD TI (w.setCell ⟨g, j, none⟩ u) B g h N (xs.set j u) ys ∧ Chg g h w (w.setCell ⟨g, j, none⟩ u) := by
  have q := World.ownsRow.stored d.top j u
  exact ⟨⟨q.1, d.row.kept q.2 (.inr (by simp [Value.ownBlock]; exact fun e => d.ne e.symm)), d.ne⟩, Chg.grown_g q.2⟩
theorem Ds.setRow {TD TI : TypeId} {w : World} {B g h N : Nat} {xs ys : List Value} (d : Ds TD TI w B g h N xs ys) (j : Nat) (u : Value) :
    Ds TD TI (w.setCell ⟨h, j, none⟩ u) B g h N xs (ys.set j u) ∧ Chg g h w (w.setCell ⟨h, j, none⟩ u) := by
  have q := World.ownsRow.stored d.row j u
  exact ⟨⟨d.top.kept q.2 (.inr (by simp [Value.ownBlock]; exact d.ne)), q.1, d.ne⟩, Chg.grown_h q.2⟩
theorem Ds.lt {TD TI : TypeId} {w : World} {B g h N : Nat} {xs ys : List Value} (d : Ds TD TI w B g h N xs ys) : B ≤ g ∧ g < w.heap.size ∧ B ≤ h ∧ h < w.heap.size :=
  ⟨(d.top.lt g rfl).1, (d.top.lt g rfl).2, (d.row.lt h rfl).1, (d.row.lt h rfl).2⟩
theorem Ds.below {TD TI : TypeId} {w w' : World} {B g h N : Nat} {xs ys : List Value} (d : Ds TD TI w B g h N xs ys) (hb : Below w.heap.size w w') : Ds TD TI w' B g h N xs ys :=
  ⟨own_below d.top hb, own_below d.row hb, d.ne⟩
/-- a row of another type is kept, too -/
theorem Ds.other {TD TI e : TypeId} {w w' : World} {B g h N base size n : Nat} {v : Value} {xs ys zs : List Value} (d : Ds TD TI w B g h N xs ys) (o : w.ownsRow base e size v n zs) (c : Chg g h w w') (e1 : e ≠ TD) (e2 : e ≠ TI) : w'.ownsRow base e size v n zs := by
  refine own_chg o c ?_ ?_
  · rcases own_apart o d.top e1 with q | q
    · rw [q]; simp
    · exact q
  · rcases own_apart o d.row e2 with q | q
    · rw [q]; simp
    · exact q
def topW (l : Int) (L : List Nd) (h : Nat) : List Value := [.int .i64 l, .int .i64 (L.length : Int), .int .i64 (sumC L), .slice (some ⟨h, 0, none⟩) (plcN l) (plcN l)]
/-- the store of the universe of l bits that holds the list L -/
def DsAt (TD TI : TypeId) (w : World) (B g h : Nat) (l : Int) (L : List Nd) : Prop := Ds TD TI w B g h (plcN l) (topW l L h) (ints (tabW L (plcN l)))
section
variable {TD TI : TypeId} {w w' : World} {B g h : Nat} {l : Int} {L : List Nd}
theorem DsAt.cells (d : DsAt TD TI w B g h l L) : w.cell? ⟨g, 0, none⟩ = some (.int .i64 l) ∧ w.cell? ⟨g, 1, none⟩ = some (.int .i64 (L.length : Int)) ∧ w.cell? ⟨g, 2, none⟩ = some (.int .i64 (sumC L)) ∧ w.cell? ⟨g, 3, none⟩ = some (.slice (some ⟨h, 0, none⟩) (plcN l) (plcN l)) :=
  ⟨d.top.cellAt 0 (by omega), d.top.cellAt 1 (by omega), d.top.cellAt 2 (by omega), d.top.cellAt 3 (by omega)⟩
theorem DsAt.place (d : DsAt TD TI w B g h l L) {k : Nat} (hk : k < plcN l) : w.cell? ⟨h, k, none⟩ = some (.int .i64 (sumAt (k : Int) L)) := by
  rw [d.row.cellAt k (by omega)]
  simp [ints, tab_get L hk]
theorem DsAt.free (d : DsAt TD TI w B g h l L) (k : Nat) : w.frozen? ⟨g, k, none⟩ = false ∧ w.frozen? ⟨h, k, none⟩ = false := ⟨d.top.frozenAt k, d.row.frozenAt k⟩
/-- stored anew: one more node, its weight, and all together -/
theorem DsAt.put1 (d : DsAt TD TI w B g h l L) {M : List Nd} {k : Nat} {x t n : Int} (hk : k < plcN l) (hn : (M.length : Int) = n) (hx : sumAt (k : Int) M = x) (ht : sumC M = t) (ho : ∀ i : Int, i ≠ (k : Int) → sumAt i M = sumAt i L) :
    DsAt TD TI (((w.setCell ⟨g, 1, none⟩ (.int .i64 n)).setCell ⟨h, k, none⟩ (.int .i64 x)).setCell ⟨g, 2, none⟩ (.int .i64 t)) B g h l M ∧ Chg g h w (((w.setCell ⟨g, 1, none⟩ (.int .i64 n)).setCell ⟨h, k, none⟩ (.int .i64 x)).setCell ⟨g, 2, none⟩ (.int .i64 t)) := by
  have a := Ds.setTop d 1 (.int .i64 n)
  have b := a.1.setRow k (.int .i64 x)
  have c := b.1.setTop 2 (.int .i64 t)
  refine ⟨?_, (a.2.trans b.2).trans c.2⟩
  have q := c.1
  have e : (ints (tabW L (plcN l))).set k (.int .i64 x) = ints (tabW M (plcN l)) := by
    rw [← tab_set ho, ints, ints, List.map_set, hx]
  rw [e] at q
  subst hn ht
  exact q
/-- the same, when there are as many nodes as there were -/
theorem DsAt.put0 (d : DsAt TD TI w B g h l L) {M : List Nd} {k : Nat} {x t : Int} (hk : k < plcN l) (hn : M.length = L.length) (hx : sumAt (k : Int) M = x) (ht : sumC M = t) (ho : ∀ i : Int, i ≠ (k : Int) → sumAt i M = sumAt i L) :
    DsAt TD TI ((w.setCell ⟨h, k, none⟩ (.int .i64 x)).setCell ⟨g, 2, none⟩ (.int .i64 t)) B g h l M ∧ Chg g h w ((w.setCell ⟨h, k, none⟩ (.int .i64 x)).setCell ⟨g, 2, none⟩ (.int .i64 t)) := by
  have b := Ds.setRow d k (.int .i64 x)
  have c := b.1.setTop 2 (.int .i64 t)
  refine ⟨?_, b.2.trans c.2⟩
  have q := c.1
  have e : (ints (tabW L (plcN l))).set k (.int .i64 x) = ints (tabW M (plcN l)) := by
    rw [← tab_set ho, ints, ints, List.map_set, hx]
  rw [e] at q
  unfold topW at q
  rw [← hn] at q
  subst ht
  exact q
/-- the weight first, then one node less, then all together -/
theorem DsAt.put2 (d : DsAt TD TI w B g h l L) {M : List Nd} {k : Nat} {x t n : Int} (hk : k < plcN l) (hn : (M.length : Int) = n) (hx : sumAt (k : Int) M = x) (ht : sumC M = t) (ho : ∀ i : Int, i ≠ (k : Int) → sumAt i M = sumAt i L) :
    DsAt TD TI (((w.setCell ⟨h, k, none⟩ (.int .i64 x)).setCell ⟨g, 1, none⟩ (.int .i64 n)).setCell ⟨g, 2, none⟩ (.int .i64 t)) B g h l M ∧ Chg g h w (((w.setCell ⟨h, k, none⟩ (.int .i64 x)).setCell ⟨g, 1, none⟩ (.int .i64 n)).setCell ⟨g, 2, none⟩ (.int .i64 t)) := by
  have a := Ds.setRow d k (.int .i64 x)
  have b := a.1.setTop 1 (.int .i64 n)
  have c := b.1.setTop 2 (.int .i64 t)
  refine ⟨?_, (a.2.trans b.2).trans c.2⟩
  have q := c.1
  have e : (ints (tabW L (plcN l))).set k (.int .i64 x) = ints (tabW M (plcN l)) := by
    rw [← tab_set ho, ints, ints, List.map_set, hx]
  rw [e] at q
  subst hn ht
  exact q
end
end Go.Proofs.YtelekchdbiimiaaGreat
namespace Go.Proofs.YtelekchdbiimiaaGreat
set_option linter.unusedVariables false
open Go.RowKit
/-- a block that is younger than the first world may change as well -/
theorem Chg.over {g h H : Nat} {a b c : World} (p : Chg g h a b) (q : Chg g H b c) (hH : a.heap.size ≤ H) : Chg g h a c :=
  ⟨q.os.trans p.os, q.tape.trans p.tape, q.output.trans p.output, Nat.le_trans p.size q.size, fun k hk h1 h2 => (q.block k (Nat.lt_of_lt_of_le hk p.size) h1 (by omega)).trans (p.block k hk h1 h2)⟩
/-- a block of five cells, and a row of N nodes -/
structure Ps (TD TN : TypeId) (w : World) (B g h N : Nat) (xs ys : List Value) : Prop where
  top : w.ownsRow B TD 5 (.slice (some ⟨g, 0, none⟩) 1 1) 1 xs
  row : w.ownsRow B TN 2 (.slice (some ⟨h, 0, none⟩) N N) N ys
  ne : g ≠ h
section
variable {TD TN : TypeId} {w w' : World} {B g h N : Nat} {xs ys : List Value}
theorem Ps.setTop (d : Ps TD TN w B g h N xs ys) (j : Nat) (u : Value) :
    Ps TD TN (w.setCell ⟨g, j, none⟩ u) B g h N (xs.set j u) ys ∧ Chg g h w (w.setCell ⟨g, j, none⟩ u) := by
  have q := World.ownsRow.stored d.top j u
  exact ⟨⟨q.1, d.row.kept q.2 (.inr (by simp [Value.ownBlock]; exact fun e => d.ne e.symm)), d.ne⟩, Chg.grown_g q.2⟩
theorem Ps.setRow (d : Ps TD TN w B g h N xs ys) (j : Nat) (u : Value) :
    Ps TD TN (w.setCell ⟨h, j, none⟩ u) B g h N xs (ys.set j u) ∧ Chg g h w (w.setCell ⟨h, j, none⟩ u) := by
  have q := World.ownsRow.stored d.row j u
  exact ⟨⟨d.top.kept q.2 (.inr (by simp [Value.ownBlock]; exact d.ne)), q.1, d.ne⟩, Chg.grown_h q.2⟩
theorem Ps.lt (d : Ps TD TN w B g h N xs ys) : B ≤ g ∧ g < w.heap.size ∧ B ≤ h ∧ h < w.heap.size :=
  ⟨(d.top.lt g rfl).1, (d.top.lt g rfl).2, (d.row.lt h rfl).1, (d.row.lt h rfl).2⟩
theorem Ps.below (d : Ps TD TN w B g h N xs ys) (hb : Below w.heap.size w w') : Ps TD TN w' B g h N xs ys :=
  ⟨own_below d.top hb, own_below d.row hb, d.ne⟩
/-- a row of another type is kept -/
theorem Ps.other {e : TypeId} {base size n : Nat} {v : Value} {zs : List Value} (d : Ps TD TN w B g h N xs ys) (o : w.ownsRow base e size v n zs) (c : Chg g h w w') (e1 : e ≠ TD) (e2 : e ≠ TN) : w'.ownsRow base e size v n zs := by
  refine own_chg o c ?_ ?_
  · rcases own_apart o d.top e1 with q | q
    · rw [q]; simp
    · exact q
  · rcases own_apart o d.row e2 with q | q
    · rw [q]; simp
    · exact q
theorem Ps.low {B2 : Nat} (d : Ps TD TN w B g h N xs ys) (h2 : B2 ≤ B) : Ps TD TN w B2 g h N xs ys := ⟨own_low d.top h2, own_low d.row h2, d.ne⟩
end
/-- the cells of a node's slot, stored anew -/
theorem nods_put (S : List Nd) (i : Nat) (x : Nd) : nods (S.set i x) = ((nods S).set (i * 2) (.int .i64 x.1)).set (i * 2 + 1) (.int .i64 x.2) := by
  induction S generalizing i with
  | nil => simp [nods]
  | cons n S ih =>
    cases i with
    | zero => simp [nods]
    | succ i =>
      have e1 : (i + 1) * 2 = i * 2 + 1 + 1 := by omega
      rw [e1]
      simp only [List.set_cons_succ, nods]
      rw [ih]
theorem nods_put1 (S : List Nd) (i : Nat) (c : Int) (a : Int) (h : (tAt S i).1 = a) : nods (S.set i (a, c)) = (nods S).set (i * 2 + 1) (.int .i64 c) := by
  induction S generalizing i with
  | nil => simp [nods]
  | cons n S ih =>
    cases i with
    | zero => have h : n.1 = a := h; simp [nods, h]
    | succ i =>
      have e1 : (i + 1) * 2 + 1 = i * 2 + 1 + 1 + 1 := by omega
      rw [e1]
      simp only [List.set_cons_succ, nods]
      rw [ih i h]
theorem nods_put0 (S : List Nd) (i : Nat) (a : Int) (c : Int) (h : (tAt S i).2 = c) : nods (S.set i (a, c)) = (nods S).set (i * 2) (.int .i64 a) := by
  induction S generalizing i with
  | nil => simp [nods]
  | cons n S ih =>
    cases i with
    | zero => have h : n.2 = c := h; simp [nods, h]
    | succ i =>
      have e1 : (i + 1) * 2 = i * 2 + 1 + 1 := by omega
      rw [e1]
      simp only [List.set_cons_succ, nods]
      rw [ih i h]
def topP (l n t : Int) (b h : Nat) : List Value := [.int .i64 l, .int .i64 n, .int .i64 t, .int .i64 (b : Int), .slice (some ⟨h, 0, none⟩) (2 ^ b) (2 ^ b)]
/-- a table of 2^b slots S, with these numbers beside it -/
def PbM (TD TN : TypeId) (w : World) (B g h : Nat) (l n t : Int) (b : Nat) (S : List Nd) : Prop := Ps TD TN w B g h (2 ^ b) (topP l n t b h) (nods S)
section
variable {TD TN : TypeId} {w w' : World} {B g h b : Nat} {l n t : Int} {S : List Nd}
theorem PbM.cells (d : PbM TD TN w B g h l n t b S) : w.cell? ⟨g, 0, none⟩ = some (.int .i64 l) ∧ w.cell? ⟨g, 1, none⟩ = some (.int .i64 n) ∧ w.cell? ⟨g, 2, none⟩ = some (.int .i64 t) ∧ w.cell? ⟨g, 3, none⟩ = some (.int .i64 (b : Int)) ∧ w.cell? ⟨g, 4, none⟩ = some (.slice (some ⟨h, 0, none⟩) (2 ^ b) (2 ^ b)) :=
  ⟨d.top.cellAt 0 (by omega), d.top.cellAt 1 (by omega), d.top.cellAt 2 (by omega), d.top.cellAt 3 (by omega), d.top.cellAt 4 (by omega)⟩
theorem PbM.len (d : PbM TD TN w B g h l n t b S) : S.length = 2 ^ b := by
  have := d.row.1
  rw [nods_len] at this
  omega
theorem PbM.slot (d : PbM TD TN w B g h l n t b S) {k : Nat} (hk : k < 2 ^ b) : w.cell? ⟨h, k * 2, none⟩ = some (.int .i64 (tAt S k).1) ∧ w.cell? ⟨h, k * 2 + 1, none⟩ = some (.int .i64 (tAt S k).2) := by
  have hl := d.len
  have g := nods_get S k (by omega)
  rw [d.row.cellAt (k * 2) (by omega), d.row.cellAt (k * 2 + 1) (by omega)]
  exact g
theorem PbM.free (d : PbM TD TN w B g h l n t b S) (k : Nat) : w.frozen? ⟨g, k, none⟩ = false ∧ w.frozen? ⟨h, k, none⟩ = false := ⟨d.top.frozenAt k, d.row.frozenAt k⟩
theorem PbM.drew (d : PbM TD TN w B g h l n t b S) : PbM TD TN w.drew B g h l n t b S := Ps.below d (Below.refl _ _).drew
end
end Go.Proofs.YtelekchdbiimiaaGreat
namespace Go.Proofs.YtelekchdbiimiaaGreat
set_option linter.unusedVariables false
open Go.RowKit
/-- behind the address A lie the nodes L -/
def PlAt (w : World) (A : Option Addr) (L : List Pl) : Prop := 0 < L.length → ∃ b o, A = some ⟨b, o, none⟩ ∧ PlIn w b o L
/-- v is a slice of the nodes L, with room for c -/
def PlacedAt (w : World) (v : Value) (L : List Pl) : Prop := ∃ A c, v = .slice A L.length c ∧ L.length ≤ c ∧ c ≤ maxLen ∧ (A = none → c = 0) ∧ PlAt w A L
theorem PlAt.below {w w' : World} {A : Option Addr} {L : List Pl} (h : PlAt w A L) (hb : Below w.heap.size w w') : PlAt w' A L := fun h0 => by
  obtain ⟨b, o, ea, hc⟩ := h h0
  exact ⟨b, o, ea, hc.below hb hc.1⟩
theorem PlacedAt.below {w w' : World} {v : Value} {L : List Pl} (h : PlacedAt w v L) (hb : Below w.heap.size w w') : PlacedAt w' v L := by
  obtain ⟨A, c, e, h1, h2, h3, hc⟩ := h
  exact ⟨A, c, e, h1, h2, h3, hc.below hb⟩
theorem placed_nil (w : World) : PlacedAt w (.slice none 0 0) [] := ⟨none, 0, rfl, by simp, by unfold maxLen; omega, fun _ => rfl, fun h => by simp at h⟩
theorem placed_cells {w : World} {A : Option Addr} {m c : Nat} {L : List Pl} (h : PlacedAt w (.slice A m c) L) : m = L.length ∧ L.length ≤ c ∧ c ≤ maxLen ∧ PlAt w A L := by
  obtain ⟨A', c', e, h1, h2, _, hc⟩ := h
  injection e with e1 e2 e3
  subst e1 e3
  exact ⟨e2, h1, h2, hc⟩
theorem PlAt.adv {w : World} {a : Addr} {L : List Pl} {c k : Nat} (h : PlAt w (some a) L) (hc : L.length ≤ c) : PlAt w (some (advA a c k 3)) (L.drop k) := fun h0 => by
  have hk : k < L.length := by rw [List.length_drop] at h0; omega
  obtain ⟨b, o, e, hin⟩ := h (by omega)
  injection e with e
  subst e
  refine ⟨b, o + k * 3, ?_, hin.drop⟩
  have hne : ¬ c = k := by omega
  unfold advA
  rw [if_neg hne]
  unfold Addr.add
  split
  · rename_i hz; rw [hz]; rfl
  · rfl
theorem PlAt.take {w : World} {A : Option Addr} {L : List Pl} {k : Nat} (h : PlAt w A L) : PlAt w A (L.take k) := fun h0 => by
  have hk : k < L.length ∨ 0 < L.length := by simp at h0; omega
  obtain ⟨b, o, e, hin⟩ := h (by omega)
  exact ⟨b, o, e, hin.take⟩
theorem PlAt.news {w w' : World} {a : Addr} {L : List Pl} (h : PlAt w (some a) L) (hb : Below w.heap.size w w') : ∀ j u, (plas L)[j]? = some u → w'.cell? (a.add j) = some u := fun j u hj => by
  have h0 : 0 < L.length := by
    have := (List.getElem?_eq_some_iff.1 hj).1
    rw [plas_len] at this; omega
  obtain ⟨b, o, e, hin⟩ := h h0
  injection e with e
  subst e
  exact (hin.below hb hin.1).news j u hj
theorem PlAt.first {w w' : World} {a : Addr} {x : Pl} {L : List Pl} (h : PlAt w (some a) (x :: L)) (hb : Below w.heap.size w w') : ∃ b o, a = ⟨b, o, none⟩ ∧ b < w.heap.size ∧ w'.cell? ⟨b, o, none⟩ = some (.int .i64 x.1.1) ∧ w'.cell? ⟨b, o + 1, none⟩ = some (.int .i64 x.1.2) ∧ w'.cell? ⟨b, o + 2, none⟩ = some (.int .i64 x.2) := by
  obtain ⟨b, o, e, hin⟩ := h (by simp)
  injection e with e
  have := (hin.below hb hin.1).2 0 (by simp)
  simp only [Nat.zero_mul, Nat.add_zero, List.getD_cons_zero] at this
  exact ⟨b, o, e, hin.1, this.1, this.2.1, this.2.2⟩
end Go.Proofs.YtelekchdbiimiaaGreat
namespace Go.Proofs.YtelekchdbiimiaaGreat
set_option linter.unusedVariables false
open Go.RowKit
/-- but for the blocks of F, what was there is as it was -/
structure Kp (F : Nat → Prop) (w w' : World) : Prop where
  os : w'.os = w.os
  tape : w'.tape = w.tape
  output : w'.output = w.output
  size : w.heap.size ≤ w'.heap.size
  block : ∀ k, k < w.heap.size → ¬ F k → w'.heap[k]? = w.heap[k]?
theorem Kp.of {F : Nat → Prop} {w w' : World} (hb : Below w.heap.size w w') : Kp F w w' := ⟨hb.os, hb.tape, hb.output, hb.size, fun k hk _ => hb.block k hk⟩
theorem Kp.refl (F : Nat → Prop) (w : World) : Kp F w w := ⟨rfl, rfl, rfl, Nat.le_refl _, fun _ _ _ => rfl⟩
/-- behind one another: the second one's blocks are the first one's, or new -/
theorem Kp.trans {F G : Nat → Prop} {a b c : World} (p : Kp F a b) (q : Kp G b c) (h : ∀ k, k < a.heap.size → G k → F k) : Kp F a c :=
  ⟨q.os.trans p.os, q.tape.trans p.tape, q.output.trans p.output, Nat.le_trans p.size q.size, fun k hk hF => (q.block k (Nat.lt_of_lt_of_le hk p.size) fun g => hF (h k hk g)).trans (p.block k hk hF)⟩
theorem Kp.mono {F G : Nat → Prop} {w w' : World} (p : Kp F w w') (h : ∀ k, k < w.heap.size → F k → G k) : Kp G w w' :=
  ⟨p.os, p.tape, p.output, p.size, fun k hk hG => p.block k hk fun f => hG (h k hk f)⟩
theorem Kp.grown {w w' : World} {row : Option Nat} (g : w.grownBy w' row) : Kp (fun k => some k = row) w w' := ⟨g.os, g.tape, g.output, g.size, fun k hk h => g.block k hk h⟩
theorem Kp.below {F : Nat → Prop} {B : Nat} {w w' : World} (p : Kp F w w') (h : ∀ k, k < w.heap.size → F k → B ≤ k) (hB : B ≤ w.heap.size) : Below B w w' :=
  ⟨p.os, p.tape, p.output, p.size, fun k hk => p.block k (by omega) fun f => by have := h k (by omega) f; omega⟩
theorem Kp.cell {F : Nat → Prop} {w w' : World} (p : Kp F w w') {b o : Nat} (h0 : b < w.heap.size) (h : ¬ F b) : w'.cell? ⟨b, o, none⟩ = w.cell? ⟨b, o, none⟩ := World.cell?_of_block (a := ⟨b, o, none⟩) (p.block b h0 h)
theorem Kp.frozen {F : Nat → Prop} {w w' : World} (p : Kp F w w') {b o : Nat} (h0 : b < w.heap.size) (h : ¬ F b) : w'.frozen? ⟨b, o, none⟩ = w.frozen? ⟨b, o, none⟩ := World.frozen?_of_block (a := ⟨b, o, none⟩) (p.block b h0 h)
theorem Kp.setCell (w : World) (a : Addr) (u : Value) : Kp (fun k => k = a.block) w (w.setCell a u) :=
  ⟨rfl, rfl, rfl, by simp, fun k hk h => Below.heap_setCell _ _ _ _ h⟩
theorem own_kp {F : Nat → Prop} {w w' : World} {base : Nat} {e : TypeId} {size n : Nat} {v : Value} {xs : List Value} (hv : w.ownsRow base e size v n xs) (p : Kp F w w') (h : ∀ g, v.ownBlock = some g → ¬ F g) : w'.ownsRow base e size v n xs := by
  refine ⟨hv.1, ?_⟩
  rcases hv.2 with hn | ⟨k, cap, cur, rfl, hb, hgg, rest⟩
  · exact .inl hn
  · refine .inr ⟨k, cap, cur, rfl, hb, ?_, rest⟩
    rw [p.block k (Array.getElem?_eq_some_iff.1 hgg).1 (h k rfl)]
    exact hgg
/-- a slice of nodes that is read, in a block that is kept -/
theorem NdIn.kp {F : Nat → Prop} {w w' : World} {b o : Nat} {L : List Nd} (h : NdIn w b o L) (p : Kp F w w') (hF : ¬ F b) : NdIn w' b o L := h.block p.size (p.block b h.1 hF)
/-- a slice's row is the one it was, or a new one -/
def At2 (w : World) (v v' : Value) : Prop := ∀ b, v'.ownBlock = some b → v.ownBlock = some b ∨ w.heap.size ≤ b
theorem at_two {w : World} {v v' : Value} (h : At w v v') : At2 w v v' := fun b e => by
  rcases h with q | ⟨k, q, hk⟩
  · exact .inl (q.symm.trans e)
  · rw [q] at e; injection e with e; subst e; exact .inr hk
theorem At2.refl (w : World) (v : Value) : At2 w v v := fun b e => .inl e
theorem At2.trans {w w1 : World} {v v1 v2 : Value} (h : At2 w v v1) (h1 : At2 w1 v1 v2) (hs : w.heap.size ≤ w1.heap.size) : At2 w v v2 := fun b e => by
  rcases h1 b e with q | q
  · exact h b q
  · exact .inr (by omega)
theorem At2.new {w w1 : World} {e : TypeId} {size n : Nat} {v v' : Value} {xs : List Value} (o : w1.ownsRow w.heap.size e size v' n xs) : At2 w v v' := fun b q => .inr (o.lt b q).1
end Go.Proofs.YtelekchdbiimiaaGreat
