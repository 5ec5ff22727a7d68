/- Slices of whole numbers that are only read: what it means that one reads as a list, and that this is kept while new memory is made. No program is spoken of here. -/
import Derived.WalkKit
import Derived.Test.YtkhacpapkalkiaaGreatPln
namespace Go.Proofs.YtkhacpapkalkiaaGreat
set_option linter.unusedVariables false
open Go.RowKit

/-- the slice value v reads, in the world w, as the list l of int -/
def Seg (w : World) (v : Value) (l : List Int) : Prop :=
  ∃ A c, v = .slice A l.length c ∧ (0 < l.length → ∃ b o, A = some ⟨b, o, none⟩ ∧ b < w.heap.size ∧ ∀ k, k < l.length → w.cell? ⟨b, o + k, none⟩ = some (.int .i64 (dg l k)))

theorem seg_nil (w : World) : Seg w (.slice none 0 0) [] := ⟨none, 0, rfl, fun h => absurd h (by simp)⟩
theorem seg_below {w w' : World} {v : Value} {l : List Int} (h : Seg w v l) (hb : Below w.heap.size w w') : Seg w' v l := by
  obtain ⟨A, c, e, k⟩ := h
  refine ⟨A, c, e, fun h0 => ?_⟩
  obtain ⟨b, o, ea, hlt, hc⟩ := k h0
  exact ⟨b, o, ea, Nat.lt_of_lt_of_le hlt hb.size, fun i hi => (hb.cell (p := ⟨b, o + i, none⟩) hlt).trans (hc i hi)⟩
theorem seg_drew {w : World} {v : Value} {l : List Int} (h : Seg w v l) : Seg w.drew v l := h
theorem seg_alloc {w : World} {v : Value} {l : List Int} (h : Seg w v l) (o : Obj) : Seg (w.alloc o) v l :=
  seg_below h ((Below.refl _ _).alloc (Nat.le_refl _) o)
theorem seg_own {w : World} {base : Nat} {e : TypeId} {v : Value} {l : List Int} (h : w.ownsRow base e 1 v l.length (l.map (Value.int .i64))) : Seg w v l := by
  have hf := h
  rcases h.2 with ⟨rfl, h0⟩ | ⟨g, cap, cur, rfl, _, _⟩
  · have : l = [] := List.eq_nil_of_length_eq_zero h0
    subst this; exact seg_nil w
  · refine ⟨_, cap, rfl, fun h0 => ⟨g, 0, rfl, (World.ownsRow.lt hf g rfl).2, fun k hk => ?_⟩⟩
    have hc := World.ownsRow.cells hf (g := g) rfl k (.int .i64 (dg l k)) (by simp [dg, List.getElem?_map, List.getD_eq_getElem?_getD, List.getElem?_eq_getElem hk])
    have ha : (⟨g, 0, none⟩ : Addr).add k = ⟨g, 0 + k, none⟩ := by unfold Addr.add; split <;> simp_all
    rw [← ha]; exact hc
theorem seg_at {w : World} {A : Option Addr} {n c : Nat} {l : List Int} (h : Seg w (.slice A n c) l) {i : Nat} (hi : i < l.length) :
    ∃ b o, A = some ⟨b, o, none⟩ ∧ b < w.heap.size ∧ ∀ k, k < l.length → w.cell? ⟨b, o + k, none⟩ = some (.int .i64 (dg l k)) := by
  obtain ⟨A', c', e, k⟩ := h
  injection e with e1 e2 e3
  obtain ⟨b, o, hA, hlt, hc⟩ := k (by omega)
  exact ⟨b, o, e1.trans hA, hlt, hc⟩
theorem seg_len {w : World} {A : Option Addr} {n c : Nat} {l : List Int} (h : Seg w (.slice A n c) l) : n = l.length := by
  obtain ⟨A', c', e, _⟩ := h
  injection e
/-- one more number at the end of a row of the call's own: the law's words made short -/
theorem map_app (l : List Int) (x : Int) : l.map (Value.int .i64) ++ [Value.int .i64 x] = (l ++ [x]).map (Value.int .i64) := by simp

theorem own_app {w : World} {base : Nat} {e : TypeId} {v : Value} {l : List Int} {x : Int} (h : w.ownsRow base e 1 v (l.length + 1) (l.map (Value.int .i64) ++ [Value.int .i64 x])) :
    w.ownsRow base e 1 v (l ++ [x]).length ((l ++ [x]).map (Value.int .i64)) := by
  rw [List.length_append, List.length_singleton, ← map_app]; exact h
theorem cell_new (w : World) (x : Value) (t : TypeId) : ∀ j u, [x][j]? = some u → (w.alloc (.cells #[x] t)).cell? ((⟨w.heap.size, 0, none⟩ : Addr).add j) = some u := fun j u hj => by
  match j, hj with
  | 0, hj => simp at hj; subst hj; simp [Addr.add]
theorem int_cell (x : Int) : ∀ u ∈ [Value.int .i64 x], u.oneCell' = true := fun u hu => by simp at hu; subst hu; rfl

/-- the value of a walk's end -/
theorem ret_i {k : IntKind} {a b : Int} (h : a = b) : Ending.returned (.int k a) = .returned (.int k b) := by rw [h]
theorem ret_v {a b : Value} (h : a = b) : Ending.returned a = .returned b := by rw [h]

end Go.Proofs.YtkhacpapkalkiaaGreat
