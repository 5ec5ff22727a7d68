/- Slices of placed nodes (three cells each), as of nodes: what is only read, what is cut. No program is spoken of here. -/
import Derived.Test.YtafkkhjhdfmhpaaNdSl
namespace Go.Proofs.Ytafkkhjhdfmhpaa
set_option linter.unusedVariables false
open Go.RowKit

/-- behind the address A lie the nodes L -/
def PlAt (w : World) (A : Option Addr) (L : List Pl) : Prop := 0 < L.length → ∃ b o, A = some ⟨b, o, none⟩ ∧ PlIn w b o L
/-- v is a slice of the nodes L, with room for c -/
def PlacedAt (w : World) (v : Value) (L : List Pl) : Prop := ∃ A c, v = .slice A L.length c ∧ L.length ≤ c ∧ c ≤ maxLen ∧ (A = none → c = 0) ∧ PlAt w A L
theorem PlAt.below {w w' : World} {A : Option Addr} {L : List Pl} (h : PlAt w A L) (hb : Below w.heap.size w w') : PlAt w' A L := fun h0 => by
  obtain ⟨b, o, ea, hc⟩ := h h0
  exact ⟨b, o, ea, hc.below hb hc.1⟩
theorem PlacedAt.below {w w' : World} {v : Value} {L : List Pl} (h : PlacedAt w v L) (hb : Below w.heap.size w w') : PlacedAt w' v L := by
  obtain ⟨A, c, e, h1, h2, h3, hc⟩ := h
  exact ⟨A, c, e, h1, h2, h3, hc.below hb⟩
theorem placed_nil (w : World) : PlacedAt w (.slice none 0 0) [] := ⟨none, 0, rfl, by simp, by unfold maxLen; omega, fun _ => rfl, fun h => by simp at h⟩
theorem placed_cells {w : World} {A : Option Addr} {m c : Nat} {L : List Pl} (h : PlacedAt w (.slice A m c) L) : m = L.length ∧ L.length ≤ c ∧ c ≤ maxLen ∧ PlAt w A L := by
  obtain ⟨A', c', e, h1, h2, _, hc⟩ := h
  injection e with e1 e2 e3
  subst e1 e3
  exact ⟨e2, h1, h2, hc⟩
theorem placed_none {w : World} {m c : Nat} {L : List Pl} (h : PlacedAt w (.slice none m c) L) : m = 0 ∧ c = 0 ∧ L = [] := by
  obtain ⟨A', c', e, h1, h2, h3, hc⟩ := h
  injection e with e1 e2 e3
  subst e1 e3
  have := h3 rfl
  exact ⟨by omega, this, List.eq_nil_of_length_eq_zero (by omega)⟩
theorem ownPl_nil (e : TypeId) (w : World) (B : Nat) : OwnPl e w B (.slice none 0 0) [] := World.ownsRow_nil w B e 3
theorem ownPl_nodes {e : TypeId} {w : World} {B : Nat} {v : Value} {L : List Pl} (h : OwnPl e w B v L) : PlacedAt w v L := by
  rcases ownPl_form h with ⟨rfl, rfl⟩ | ⟨g, cap, rfl, hb, hg, hn, hc, hi⟩
  · exact placed_nil w
  · exact ⟨_, cap, rfl, hn, hc, fun e => by simp at e, fun _ => ⟨g, 0, rfl, hi⟩⟩
theorem PlAt.adv {w : World} {a : Addr} {L : List Pl} {c k : Nat} (h : PlAt w (some a) L) (hc : L.length ≤ c) : PlAt w (some (advA a c k 3)) (L.drop k) := fun h0 => by
  have hk : k < L.length := by rw [List.length_drop] at h0; omega
  obtain ⟨b, o, e, hin⟩ := h (by omega)
  injection e with e
  subst e
  refine ⟨b, o + k * 3, ?_, hin.drop⟩
  have hne : ¬ c = k := by omega
  unfold advA
  rw [if_neg hne]
  unfold Addr.add
  split
  · rename_i hz; rw [hz]; rfl
  · rfl
theorem PlAt.take {w : World} {A : Option Addr} {L : List Pl} {k : Nat} (h : PlAt w A L) : PlAt w A (L.take k) := fun h0 => by
  have hk : k < L.length ∨ 0 < L.length := by simp at h0; omega
  obtain ⟨b, o, e, hin⟩ := h (by omega)
  exact ⟨b, o, e, hin.take⟩
theorem PlAt.news {w w' : World} {a : Addr} {L : List Pl} (h : PlAt w (some a) L) (hb : Below w.heap.size w w') : ∀ j u, (plas L)[j]? = some u → w'.cell? (a.add j) = some u := fun j u hj => by
  have h0 : 0 < L.length := by
    have := (List.getElem?_eq_some_iff.1 hj).1
    rw [plas_len] at this; omega
  obtain ⟨b, o, e, hin⟩ := h h0
  injection e with e
  subst e
  exact (hin.below hb hin.1).news j u hj
theorem PlAt.first {w w' : World} {a : Addr} {x : Pl} {L : List Pl} (h : PlAt w (some a) (x :: L)) (hb : Below w.heap.size w w') : ∃ b o, a = ⟨b, o, none⟩ ∧ b < w.heap.size ∧ w'.cell? ⟨b, o, none⟩ = some (.int .i64 x.1.1) ∧ w'.cell? ⟨b, o + 1, none⟩ = some (.int .i64 x.1.2) ∧ w'.cell? ⟨b, o + 2, none⟩ = some (.int .i64 x.2) := by
  obtain ⟨b, o, e, hin⟩ := h (by simp)
  injection e with e
  have := (hin.below hb hin.1).2 0 (by simp)
  simp only [Nat.zero_mul, Nat.add_zero, List.getD_cons_zero] at this
  exact ⟨b, o, e, hin.1, this.1, this.2.1, this.2.2⟩
theorem pl_new3 (w : World) (x y z : Value) (t : TypeId) (g : Nat) (hg : g = w.heap.size) : ∀ j u, [x, y, z][j]? = some u → (w.alloc (.cells #[x, y, z] t)).cell? ((⟨g, 0, none⟩ : Addr).add j) = some u := fun j u hj => by
  subst hg
  match j, hj with
  | 0, hj => simp at hj; subst hj; simp [Addr.add]
  | 1, hj => simp at hj; subst hj; simp [Addr.add]
  | 2, hj => simp at hj; subst hj; simp [Addr.add]
theorem pl_cell3 (x y z : Int) : ∀ u ∈ [Value.int .i64 x, Value.int .i64 y, Value.int .i64 z], u.oneCell' = true := fun u hu => by
  simp at hu; rcases hu with rfl | rfl | rfl <;> rfl
/-- six cells, kept by what only makes memory -/
theorem keep6 {W a b : World} {p q r s t u : Addr} {x y z x' y' z' : Value} (h : a.cell? p = some x ∧ a.cell? q = some y ∧ a.cell? r = some z ∧ a.cell? s = some x' ∧ a.cell? t = some y' ∧ a.cell? u = some z' ∧ Below W.heap.size W a) (hb : Below a.heap.size a b)
    (hp : p.block < W.heap.size) (hq : q.block < W.heap.size) (hr : r.block < W.heap.size) (hs : s.block < W.heap.size) (ht : t.block < W.heap.size) (hu : u.block < W.heap.size) : b.cell? p = some x ∧ b.cell? q = some y ∧ b.cell? r = some z ∧ b.cell? s = some x' ∧ b.cell? t = some y' ∧ b.cell? u = some z' ∧ Below W.heap.size W b := by
  obtain ⟨h1, h2, h3, h4, h5, h6, h7⟩ := h
  have hz := h7.size
  exact ⟨(hb.cell (by omega)).trans h1, (hb.cell (by omega)).trans h2, (hb.cell (by omega)).trans h3, (hb.cell (by omega)).trans h4, (hb.cell (by omega)).trans h5, (hb.cell (by omega)).trans h6, h7.trans (hb.mono hz)⟩
theorem keep3g {W w1 w2 : World} {base size n : Nat} {e : TypeId} {v : Value} {xs : List Value} {p q r : Addr} {x y z : Value} (hc : W.cell? p = some x) (hd : W.cell? q = some y) (hf : W.cell? r = some z) (hown : w1.ownsRow base e size v n xs) (hg : W.grownBy w2 v.ownBlock)
    (hp : p.block < base) (hq : q.block < base) (hr : r.block < base) (hz : base ≤ W.heap.size) : w2.cell? p = some x ∧ w2.cell? q = some y ∧ w2.cell? r = some z :=
  ⟨(grown_cell hg (by omega) fun e => by have := (World.ownsRow.lt hown _ e.symm).1; omega).trans hc, (grown_cell hg (by omega) fun e => by have := (World.ownsRow.lt hown _ e.symm).1; omega).trans hd, (grown_cell hg (by omega) fun e => by have := (World.ownsRow.lt hown _ e.symm).1; omega).trans hf⟩

end Go.Proofs.Ytafkkhjhdfmhpaa
