/- What a call leaves as it was: all blocks but some; rows of the call's own that lie elsewhere are kept. No program is spoken of here. -/
import Derived.Test.YtkhacpapkalkiaaGreatMmy
namespace Go.Proofs.YtkhacpapkalkiaaGreat
set_option linter.unusedVariables false
open Go.RowKit

/-- but for the blocks of F, what was there is as it was -/
structure Kp (F : Nat → Prop) (w w' : World) : Prop where
  os : w'.os = w.os
  tape : w'.tape = w.tape
  output : w'.output = w.output
  size : w.heap.size ≤ w'.heap.size
  block : ∀ k, k < w.heap.size → ¬ F k → w'.heap[k]? = w.heap[k]?
theorem Kp.of {F : Nat → Prop} {w w' : World} (hb : Below w.heap.size w w') : Kp F w w' := ⟨hb.os, hb.tape, hb.output, hb.size, fun k hk _ => hb.block k hk⟩
theorem Kp.refl (F : Nat → Prop) (w : World) : Kp F w w := ⟨rfl, rfl, rfl, Nat.le_refl _, fun _ _ _ => rfl⟩
/-- behind one another: the second one's blocks are the first one's, or new -/
theorem Kp.trans {F G : Nat → Prop} {a b c : World} (p : Kp F a b) (q : Kp G b c) (h : ∀ k, k < a.heap.size → G k → F k) : Kp F a c :=
  ⟨q.os.trans p.os, q.tape.trans p.tape, q.output.trans p.output, Nat.le_trans p.size q.size, fun k hk hF => (q.block k (Nat.lt_of_lt_of_le hk p.size) fun g => hF (h k hk g)).trans (p.block k hk hF)⟩
theorem Kp.mono {F G : Nat → Prop} {w w' : World} (p : Kp F w w') (h : ∀ k, k < w.heap.size → F k → G k) : Kp G w w' :=
  ⟨p.os, p.tape, p.output, p.size, fun k hk hG => p.block k hk fun f => hG (h k hk f)⟩
theorem Kp.grown {w w' : World} {row : Option Nat} (g : w.grownBy w' row) : Kp (fun k => some k = row) w w' := ⟨g.os, g.tape, g.output, g.size, fun k hk h => g.block k hk h⟩
theorem Kp.below {F : Nat → Prop} {B : Nat} {w w' : World} (p : Kp F w w') (h : ∀ k, k < w.heap.size → F k → B ≤ k) (hB : B ≤ w.heap.size) : Below B w w' :=
  ⟨p.os, p.tape, p.output, p.size, fun k hk => p.block k (by omega) fun f => by have := h k (by omega) f; omega⟩
theorem Kp.cell {F : Nat → Prop} {w w' : World} (p : Kp F w w') {b o : Nat} (h0 : b < w.heap.size) (h : ¬ F b) : w'.cell? ⟨b, o, none⟩ = w.cell? ⟨b, o, none⟩ := World.cell?_of_block (a := ⟨b, o, none⟩) (p.block b h0 h)
theorem Kp.frozen {F : Nat → Prop} {w w' : World} (p : Kp F w w') {b o : Nat} (h0 : b < w.heap.size) (h : ¬ F b) : w'.frozen? ⟨b, o, none⟩ = w.frozen? ⟨b, o, none⟩ := World.frozen?_of_block (a := ⟨b, o, none⟩) (p.block b h0 h)
theorem Kp.setCell (w : World) (a : Addr) (u : Value) : Kp (fun k => k = a.block) w (w.setCell a u) :=
  ⟨rfl, rfl, rfl, by simp, fun k hk h => Below.heap_setCell _ _ _ _ h⟩
theorem own_kp {F : Nat → Prop} {w w' : World} {base : Nat} {e : TypeId} {size n : Nat} {v : Value} {xs : List Value} (hv : w.ownsRow base e size v n xs) (p : Kp F w w') (h : ∀ g, v.ownBlock = some g → ¬ F g) : w'.ownsRow base e size v n xs := by
  refine ⟨hv.1, ?_⟩
  rcases hv.2 with hn | ⟨k, cap, cur, rfl, hb, hgg, rest⟩
  · exact .inl hn
  · refine .inr ⟨k, cap, cur, rfl, hb, ?_, rest⟩
    rw [p.block k (Array.getElem?_eq_some_iff.1 hgg).1 (h k rfl)]
    exact hgg
/-- a slice of nodes that is read, in a block that is kept -/
theorem NdIn.kp {F : Nat → Prop} {w w' : World} {b o : Nat} {L : List Nd} (h : NdIn w b o L) (p : Kp F w w') (hF : ¬ F b) : NdIn w' b o L := h.block p.size (p.block b h.1 hF)

/-- a slice's row is the one it was, or a new one -/
def At2 (w : World) (v v' : Value) : Prop := ∀ b, v'.ownBlock = some b → v.ownBlock = some b ∨ w.heap.size ≤ b
theorem at_two {w : World} {v v' : Value} (h : At w v v') : At2 w v v' := fun b e => by
  rcases h with q | ⟨k, q, hk⟩
  · exact .inl (q.symm.trans e)
  · rw [q] at e; injection e with e; subst e; exact .inr hk
theorem At2.refl (w : World) (v : Value) : At2 w v v := fun b e => .inl e
theorem At2.trans {w w1 : World} {v v1 v2 : Value} (h : At2 w v v1) (h1 : At2 w1 v1 v2) (hs : w.heap.size ≤ w1.heap.size) : At2 w v v2 := fun b e => by
  rcases h1 b e with q | q
  · exact h b q
  · exact .inr (by omega)
theorem At2.new {w w1 : World} {e : TypeId} {size n : Nat} {v v' : Value} {xs : List Value} (o : w1.ownsRow w.heap.size e size v' n xs) : At2 w v v' := fun b q => .inr (o.lt b q).1

end Go.Proofs.YtkhacpapkalkiaaGreat
