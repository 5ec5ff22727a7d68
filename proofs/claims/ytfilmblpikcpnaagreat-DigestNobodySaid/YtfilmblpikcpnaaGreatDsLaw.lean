/- What the statements of layer dense call: a call of the store and of its list (do), whether the store is its list (like), and the chapter's example (alive). -/
import Derived.Test.YtfilmblpikcpnaaGreatDs3
import Derived.Test.YtfilmblpikcpnaaGreatDsRef2
namespace Go.Proofs.YtfilmblpikcpnaaGreat
set_option linter.unusedVariables false
set_option maxRecDepth 100000
open Go.RowKit

theorem call_box (w : World) (TO : TypeId) (a b c : Value) : Below w.heap.size w (w.alloc (.cells #[a, b, c] TO)) := (Below.refl _ _).alloc (Nat.le_refl _) _
theorem keep_two {W a b : World} {p q : Addr} {x y : Value} (h : a.cell? p = some x ∧ a.cell? q = some y ∧ Below W.heap.size W a) (hb : Below a.heap.size a b) (hp : p.block < W.heap.size) (hq : q.block < W.heap.size) : b.cell? p = some x ∧ b.cell? q = some y ∧ Below W.heap.size W b := by
  obtain ⟨h1, h2, h3⟩ := h
  have hz := h3.size
  exact ⟨(hb.cell (by omega)).trans h1, (hb.cell (by omega)).trans h2, h3.trans (hb.mono hz)⟩
theorem keep_twoN {W a : World} {p q : Addr} {x y : Value} (h : a.cell? p = some x ∧ a.cell? q = some y ∧ Below W.heap.size W a) (n : Nat) : (a.drewN n).cell? p = some x ∧ (a.drewN n).cell? q = some y ∧ Below W.heap.size W (a.drewN n) :=
  ⟨h.1, h.2.1, drewN_below h.2.2 n⟩
theorem below_of {W a : World} {p q : Addr} {x y : Value} (h : a.cell? p = some x ∧ a.cell? q = some y ∧ Below W.heap.size W a) : Below W.heap.size W a := h.2.2
theorem lit2b (w : World) (t : TypeId) (a b c d : Int) : NodesAt (w.alloc (.cells #[.int .i64 a, .int .i64 b, .int .i64 c, .int .i64 d] t)) (.slice (some ⟨w.heap.size, 0, none⟩) 2 2) [(a, b), (c, d)] :=
  ⟨_, 2, rfl, by simp, by unfold maxLen; omega, fun e => by simp at e, fun _ => ⟨w.heap.size, 0, rfl, by simp, fun k hk => by
    match k, hk with
    | 0, _ => simp
    | 1, _ => simp⟩⟩
theorem ex_a : addS 3 [] 9 2 = [(9, 2)] ∧ addE 3 [] 9 2 = 0 := by decide
theorem ex_b : addS 3 [(9, 2)] 1 5 = [(1, 5), (9, 2)] ∧ addE 3 [(9, 2)] 1 5 = 0 := by decide
theorem ex_c : addS 3 [(1, 5), (9, 2)] 9 1 = [(1, 5), (9, 3)] ∧ addE 3 [(1, 5), (9, 2)] 9 1 = 0 := by decide
theorem ex_d : remW [(1, 5), (9, 3)] 9 = [(1, 5)] ∧ sumAt 9 [(1, 5), (9, 3)] = 3 := by decide
theorem ex_r0 : RollC 3 [] := roll_nil (by decide)
theorem ex_r1 : RollC 3 [(9, 2)] := by have := roll_addS (id := 9) (c := 2) ex_r0; rwa [ex_a.1] at this
theorem ex_r2 : RollC 3 [(1, 5), (9, 2)] := by have := roll_addS (id := 1) (c := 5) ex_r1; rwa [ex_b.1] at this
theorem ex_r3 : RollC 3 [(1, 5), (9, 3)] := by have := roll_addS (id := 9) (c := 1) ex_r2; rwa [ex_c.1] at this
end Go.Proofs.YtfilmblpikcpnaaGreat
