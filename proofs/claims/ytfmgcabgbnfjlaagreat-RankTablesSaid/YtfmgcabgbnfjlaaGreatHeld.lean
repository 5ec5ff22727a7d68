/- What a region that draws its order holds of some cells and of all that lay, kept by what only makes memory. No program is spoken of here. -/
import Derived.Test.YtfmgcabgbnfjlaaGreatRow
namespace Go.Proofs.YtfmgcabgbnfjlaaGreat
set_option linter.unusedVariables false
open Go.RowKit

theorem held1 {W a b : World} {p : Addr} {x : Value} (h : a.cell? p = some x ∧ Below W.heap.size W a) (hb : Below a.heap.size a b) (hp : p.block < W.heap.size) : b.cell? p = some x ∧ Below W.heap.size W b := by
  obtain ⟨h1, h3⟩ := h
  have hz := h3.size
  exact ⟨(hb.cell (by omega)).trans h1, h3.trans (hb.mono hz)⟩
theorem held1N {W a : World} {p : Addr} {x : Value} (h : a.cell? p = some x ∧ Below W.heap.size W a) (n : Nat) : (a.drewN n).cell? p = some x ∧ Below W.heap.size W (a.drewN n) := ⟨h.1, drewN_below h.2 n⟩
theorem held1B {W a : World} {p : Addr} {x : Value} (h : a.cell? p = some x ∧ Below W.heap.size W a) : Below W.heap.size W a := h.2
theorem held2 {W a b : World} {p q : Addr} {x y : Value} (h : a.cell? p = some x ∧ a.cell? q = some y ∧ Below W.heap.size W a) (hb : Below a.heap.size a b) (hp : p.block < W.heap.size) (hq : q.block < W.heap.size) : b.cell? p = some x ∧ b.cell? q = some y ∧ Below W.heap.size W b :=
  ⟨(held1 ⟨h.1, h.2.2⟩ hb hp).1, held1 h.2 hb hq⟩
theorem held2N {W a : World} {p q : Addr} {x y : Value} (h : a.cell? p = some x ∧ a.cell? q = some y ∧ Below W.heap.size W a) (n : Nat) : (a.drewN n).cell? p = some x ∧ (a.drewN n).cell? q = some y ∧ Below W.heap.size W (a.drewN n) := ⟨h.1, held1N h.2 n⟩
theorem held2B {W a : World} {p q : Addr} {x y : Value} (h : a.cell? p = some x ∧ a.cell? q = some y ∧ Below W.heap.size W a) : Below W.heap.size W a := h.2.2
theorem held3 {W a b : World} {p q r : Addr} {x y z : Value} (h : a.cell? p = some x ∧ a.cell? q = some y ∧ a.cell? r = some z ∧ Below W.heap.size W a) (hb : Below a.heap.size a b) (hp : p.block < W.heap.size) (hq : q.block < W.heap.size) (hr : r.block < W.heap.size) : b.cell? p = some x ∧ b.cell? q = some y ∧ b.cell? r = some z ∧ Below W.heap.size W b :=
  ⟨(held1 ⟨h.1, h.2.2.2⟩ hb hp).1, held2 h.2 hb hq hr⟩
theorem held3N {W a : World} {p q r : Addr} {x y z : Value} (h : a.cell? p = some x ∧ a.cell? q = some y ∧ a.cell? r = some z ∧ Below W.heap.size W a) (n : Nat) : (a.drewN n).cell? p = some x ∧ (a.drewN n).cell? q = some y ∧ (a.drewN n).cell? r = some z ∧ Below W.heap.size W (a.drewN n) := ⟨h.1, held2N h.2 n⟩
theorem held3B {W a : World} {p q r : Addr} {x y z : Value} (h : a.cell? p = some x ∧ a.cell? q = some y ∧ a.cell? r = some z ∧ Below W.heap.size W a) : Below W.heap.size W a := h.2.2.2
theorem held4 {W a b : World} {p q r s : Addr} {x y z u : Value} (h : a.cell? p = some x ∧ a.cell? q = some y ∧ a.cell? r = some z ∧ a.cell? s = some u ∧ Below W.heap.size W a) (hb : Below a.heap.size a b) (hp : p.block < W.heap.size) (hq : q.block < W.heap.size) (hr : r.block < W.heap.size) (hs : s.block < W.heap.size) :
    b.cell? p = some x ∧ b.cell? q = some y ∧ b.cell? r = some z ∧ b.cell? s = some u ∧ Below W.heap.size W b :=
  ⟨(held1 ⟨h.1, h.2.2.2.2⟩ hb hp).1, held3 h.2 hb hq hr hs⟩
theorem held4N {W a : World} {p q r s : Addr} {x y z u : Value} (h : a.cell? p = some x ∧ a.cell? q = some y ∧ a.cell? r = some z ∧ a.cell? s = some u ∧ Below W.heap.size W a) (n : Nat) : (a.drewN n).cell? p = some x ∧ (a.drewN n).cell? q = some y ∧ (a.drewN n).cell? r = some z ∧ (a.drewN n).cell? s = some u ∧ Below W.heap.size W (a.drewN n) := ⟨h.1, held3N h.2 n⟩
theorem held4B {W a : World} {p q r s : Addr} {x y z u : Value} (h : a.cell? p = some x ∧ a.cell? q = some y ∧ a.cell? r = some z ∧ a.cell? s = some u ∧ Below W.heap.size W a) : Below W.heap.size W a := h.2.2.2.2
theorem ret_n {a b : Int} (h : a = b) : Ending.returned (.int .i64 a) = .returned (.int .i64 b) := by rw [h]

end Go.Proofs.YtfmgcabgbnfjlaaGreat
