/- Slices of nodes, cut; what regions that draw their order keep. No program is spoken of here. -/
import Derived.Test.YtafkkhjhdfmhpaaNdMem
namespace Go.Proofs.Ytafkkhjhdfmhpaa
set_option linter.unusedVariables false
open Go.RowKit

/-- where s[k:] lies: at the very end of the room it stays where it was -/
def advA (a : Addr) (c k s : Nat) : Addr := if c = k then a else a.add (k * s)
theorem NdAt.adv {w : World} {a : Addr} {L : List Nd} {c k : Nat} (h : NdAt w (some a) L) (hc : L.length ≤ c) : NdAt w (some (advA a c k 2)) (L.drop k) := fun h0 => by
  have hk : k < L.length := by rw [List.length_drop] at h0; omega
  obtain ⟨b, o, e, hin⟩ := h (by omega)
  injection e with e
  subst e
  refine ⟨b, o + k * 2, ?_, hin.drop⟩
  have hne : ¬ c = k := by omega
  unfold advA
  rw [if_neg hne]
  unfold Addr.add
  split
  · rename_i hz; rw [hz]; rfl
  · rfl
theorem NdAt.take {w : World} {A : Option Addr} {L : List Nd} {k : Nat} (h : NdAt w A L) : NdAt w A (L.take k) := fun h0 => by
  have hk : k < L.length ∨ 0 < L.length := by simp at h0; omega
  obtain ⟨b, o, e, hin⟩ := h (by omega)
  exact ⟨b, o, e, hin.take⟩
theorem NdAt.news {w w' : World} {a : Addr} {L : List Nd} (h : NdAt w (some a) L) (hb : Below w.heap.size w w') : ∀ j u, (nods L)[j]? = some u → w'.cell? (a.add j) = some u := fun j u hj => by
  have h0 : 0 < L.length := by
    have := (List.getElem?_eq_some_iff.1 hj).1
    rw [nods_len] at this; omega
  obtain ⟨b, o, e, hin⟩ := h h0
  injection e with e
  subst e
  exact (hin.below hb hin.1).news j u hj
theorem NdAt.first {w w' : World} {a : Addr} {x : Nd} {L : List Nd} (h : NdAt w (some a) (x :: L)) (hb : Below w.heap.size w w') : ∃ b o, a = ⟨b, o, none⟩ ∧ b < w.heap.size ∧ w'.cell? ⟨b, o, none⟩ = some (.int .i64 x.1) ∧ w'.cell? ⟨b, o + 1, none⟩ = some (.int .i64 x.2) := by
  obtain ⟨b, o, e, hin⟩ := h (by simp)
  injection e with e
  have := (hin.below hb hin.1).2 0 (by simp)
  simp only [Nat.zero_mul, Nat.add_zero, List.getD_cons_zero] at this
  exact ⟨b, o, e, hin.1, this.1, this.2⟩
theorem add_zero' (a : Addr) : a.add 0 = a := by simp [Addr.add]
section
variable {P : Program}
theorem sl_from {t e : TypeId} {i : TypeInfo} (ht : P.underlying t = some (.slice e)) (hi : P.info? e = some i) {s : Nat} (hs : i.size = s) (a : Addr) (n c k : Nat) (hk : k ≤ n) (w : World) :
    (Instr.slice t (.slice (some a) n c) (some (.int .i64 (k : Int))) none none).run P w = .ok (.slice (some (advA a c k s)) (n - k) (c - k)) w := by
  have he : P.elem t = e := by unfold Program.elem; rw [ht]
  have ht' : P.underlying t = some (.slice (P.elem t)) := by rw [he]; exact ht
  rw [run_slice_l w t (some a) n c ht' .i64 (k : Int) (by omega) (by omega), he]
  have hz : (sizeOf e).run P w = .ok s w := by
    have hc : P.cellsOf e = s := by simp [Program.cellsOf, hi, hs]
    simp [run_sizeOf, hi, hc]
  rw [hz]
  simp only [Result.andThen_ok, sliced, Int.toNat_natCast, advA, Option.map]
  split <;> rfl
theorem sl_from_none {t e : TypeId} {i : TypeInfo} (ht : P.underlying t = some (.slice e)) (hi : P.info? e = some i) {s : Nat} (hs : i.size = s) (w : World) :
    (Instr.slice t (.slice none 0 0) (some (.int .i64 0)) none none).run P w = .ok (.slice none 0 0) w := by
  have he : P.elem t = e := by unfold Program.elem; rw [ht]
  have ht' : P.underlying t = some (.slice (P.elem t)) := by rw [he]; exact ht
  rw [run_slice_l w t none 0 0 ht' .i64 0 (by omega) (by omega), he]
  have hz : (sizeOf e).run P w = .ok s w := by
    have hc : P.cellsOf e = s := by simp [Program.cellsOf, hi, hs]
    simp [run_sizeOf, hi, hc]
  rw [hz]
  simp [Result.andThen_ok, sliced]
theorem sl_one {t e : TypeId} {i : TypeInfo} (ht : P.underlying t = some (.slice e)) (hi : P.info? e = some i) {s : Nat} (hs : i.size = s) (a : Addr) (n c : Nat) (hk : 1 ≤ n) (w : World) :
    (Instr.slice t (.slice (some a) n c) (some (.int .i64 1)) none none).run P w = .ok (.slice (some (advA a c 1 s)) (n - 1) (c - 1)) w := sl_from ht hi hs a n c 1 hk w
theorem sl_to {t e : TypeId} {i : TypeInfo} (ht : P.underlying t = some (.slice e)) (hi : P.info? e = some i) {s : Nat} (hs : i.size = s) (A : Option Addr) (n c k : Nat) (hk : k ≤ c) (w : World) :
    (Instr.slice t (.slice A n c) none (some (.int .i64 (k : Int))) none).run P w = .ok (.slice A k c) w := by
  have he : P.elem t = e := by unfold Program.elem; rw [ht]
  have ht' : P.underlying t = some (.slice (P.elem t)) := by rw [he]; exact ht
  rw [run_slice_h w t A n c ht' .i64 (k : Int) (by omega) (by omega), he]
  have hz : (sizeOf e).run P w = .ok s w := by
    have hc : P.cellsOf e = s := by simp [Program.cellsOf, hi, hs]
    simp [run_sizeOf, hi, hc]
  rw [hz]
  simp only [Result.andThen_ok, sliced, Int.toNat_natCast, Nat.zero_mul, Nat.sub_zero]
  cases A with
  | none => simp
  | some a => simp [add_zero']
end
/-- four cells, kept by what only makes memory -/
theorem keep4 {W a b : World} {p q r s : Addr} {x y z u : Value} (h : a.cell? p = some x ∧ a.cell? q = some y ∧ a.cell? r = some z ∧ a.cell? s = some u ∧ Below W.heap.size W a) (hb : Below a.heap.size a b)
    (hp : p.block < W.heap.size) (hq : q.block < W.heap.size) (hr : r.block < W.heap.size) (hs : s.block < W.heap.size) : b.cell? p = some x ∧ b.cell? q = some y ∧ b.cell? r = some z ∧ b.cell? s = some u ∧ Below W.heap.size W b := by
  obtain ⟨h1, h2, h3, h4, h5⟩ := h
  have hz := h5.size
  exact ⟨(hb.cell (by omega)).trans h1, (hb.cell (by omega)).trans h2, (hb.cell (by omega)).trans h3, (hb.cell (by omega)).trans h4, h5.trans (hb.mono hz)⟩
/-- two cells of older blocks, kept by an append to a row of the call's own -/
theorem keep2g {W w1 w2 : World} {base size n : Nat} {e : TypeId} {v : Value} {xs : List Value} {p q : Addr} {x y : Value} (hc : W.cell? p = some x) (hd : W.cell? q = some y) (hown : w1.ownsRow base e size v n xs) (hg : W.grownBy w2 v.ownBlock)
    (hp : p.block < base) (hq : q.block < base) (hz : base ≤ W.heap.size) : w2.cell? p = some x ∧ w2.cell? q = some y :=
  ⟨(grown_cell hg (by omega) fun e => by have := (World.ownsRow.lt hown _ e.symm).1; omega).trans hc, (grown_cell hg (by omega) fun e => by have := (World.ownsRow.lt hown _ e.symm).1; omega).trans hd⟩

end Go.Proofs.Ytafkkhjhdfmhpaa
