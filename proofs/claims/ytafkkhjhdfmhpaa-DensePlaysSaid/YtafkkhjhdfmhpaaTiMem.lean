/- Slices of whole numbers that a call owns, and such that it only reads. No program is spoken of here. -/
import Derived.Test.YtafkkhjhdfmhpaaRow
import Derived.Maps.AppendAt
import Derived.Deep.AppendLies
namespace Go.Proofs.Ytafkkhjhdfmhpaa
set_option linter.unusedVariables false
open Go.RowKit

def ints (T : List Int) : List Value := T.map (Value.int .i64)
theorem ints_len (T : List Int) : (ints T).length = T.length := by simp [ints]
theorem ints_app (S T : List Int) : ints (S ++ T) = ints S ++ ints T := by simp [ints]
/-- the slice v is a row of the call's own that holds the numbers T -/
def OwnI (e : TypeId) (w : World) (B : Nat) (v : Value) (T : List Int) : Prop := w.ownsRow B e 1 v T.length (ints T)
theorem ownI_nil (e : TypeId) (w : World) (B : Nat) : OwnI e w B (.slice none 0 0) [] := World.ownsRow_nil w B e 1
theorem ownI_form {e : TypeId} {w : World} {B : Nat} {v : Value} {T : List Int} (h : OwnI e w B v T) :
    (v = .slice none 0 0 ∧ T = []) ∨ ∃ g cap, v = .slice (some ⟨g, 0, none⟩) T.length cap ∧ B ≤ g ∧ g < w.heap.size ∧ T.length ≤ cap ∧ cap ≤ maxLen := by
  have hf := h
  rcases h.2 with ⟨hv, h0⟩ | ⟨g, cap, cur, hv, hb, hg, hn, hc, _⟩
  · exact .inl ⟨hv, List.eq_nil_of_length_eq_zero h0⟩
  · exact .inr ⟨g, cap, hv, hb, (hf.lt g (by rw [hv]; rfl)).2, hn, hc⟩
theorem own_slice {e : TypeId} {w : World} {B size n : Nat} {v : Value} {xs : List Value} (h : w.ownsRow B e size v n xs) : ∃ A m c, v = .slice A m c := by
  rcases h.2 with ⟨hv, h0⟩ | ⟨g, cap, cur, hv, _⟩
  · exact ⟨none, 0, 0, hv⟩
  · exact ⟨_, n, cap, hv⟩
theorem ownI_cell {e : TypeId} {w : World} {B g cap : Nat} {T : List Int} (h : OwnI e w B (.slice (some ⟨g, 0, none⟩) T.length cap) T) (k : Nat) (hk : k < T.length) : w.cell? ⟨g, k, none⟩ = some (.int .i64 (T.getD k 0)) := by
  have := World.ownsRow.cellAt h k (by omega)
  rw [this]
  simp [ints, List.getD_eq_getElem?_getD, List.getElem?_eq_getElem hk]
theorem ownI_cut {e : TypeId} {w : World} {B g cap : Nat} {S P : List Int} (h : OwnI e w B (.slice (some ⟨g, 0, none⟩) (S ++ P).length cap) (S ++ P)) :
    OwnI e w B (.slice (some ⟨g, 0, none⟩) S.length cap) S := by
  refine ⟨by simp [ints], ?_⟩
  rcases h.2 with ⟨h', _⟩ | ⟨g', cap', cur, h', hb, hg, hn, hc, hs, ht⟩
  · simp at h'
  · simp only [Value.slice.injEq, Option.some.injEq, Addr.mk.injEq, and_true, true_and] at h'
    obtain ⟨rfl, rfl⟩ := h'
    refine .inr ⟨g, cap, cur, rfl, hb, hg, by simp at hn; omega, hc, hs, ?_⟩
    have h1 := congrArg (List.take S.length) ht
    rw [List.take_take, ints_app] at h1
    rw [List.take_append_of_le_length (by simp [ints])] at h1
    have e1 : min S.length ((S ++ P).length * 1) = S.length * 1 := by simp
    rw [e1] at h1
    rw [h1]
    exact List.take_of_length_le (by simp [ints])
/-- behind a call the slice lies where it lay, or in a new block -/
def At (w : World) (v v' : Value) : Prop := v'.ownBlock = v.ownBlock ∨ ∃ k, v'.ownBlock = some k ∧ w.heap.size ≤ k
theorem At.refl (w : World) (v : Value) : At w v v := .inl rfl
theorem At.trans {w w1 : World} {v v1 v2 : Value} (h : At w v v1) (h1 : At w1 v1 v2) (hs : w.heap.size ≤ w1.heap.size) : At w v v2 := by
  rcases h1 with e | ⟨k, e, hk⟩
  · rcases h with f | ⟨k, f, hk⟩
    · exact .inl (e.trans f)
    · exact .inr ⟨k, e.trans f, hk⟩
  · exact .inr ⟨k, e, by omega⟩
theorem grown_trans {w w1 w2 : World} {v v1 : Value} (h : w.grownBy w1 v.ownBlock) (h1 : w1.grownBy w2 v1.ownBlock) (ha : At w v v1) : w.grownBy w2 v.ownBlock :=
  ⟨h1.os.trans h.os, h1.tape.trans h.tape, h1.output.trans h.output, Nat.le_trans h.size h1.size, fun k hk hne => by
    rw [h1.block k (Nat.lt_of_lt_of_le hk h.size) ?_, h.block k hk hne]
    rcases ha with e | ⟨j, e, hj⟩
    · rw [e]; exact hne
    · rw [e]; intro g; injection g; omega⟩
theorem grown_below {w w1 : World} {row : Option Nat} (h : Below w.heap.size w w1) : w.grownBy w1 row := ⟨h.os, h.tape, h.output, h.size, fun k hk _ => h.block k hk⟩
theorem below_grown {B : Nat} {w w1 : World} {v : Value} (h : w.grownBy w1 v.ownBlock) (hb : ∀ g, v.ownBlock = some g → B ≤ g) (hB : B ≤ w.heap.size) : Below B w w1 :=
  ⟨h.os, h.tape, h.output, h.size, fun k hk => h.block k (by omega) (fun e => by have := hb k e.symm; omega)⟩
/-- a slice that is only read: it holds the numbers T -/
def IntsAt (w : World) (v : Value) (T : List Int) : Prop := ∃ A c, v = .slice A T.length c ∧ Cells w A T.length (fun k => .int .i64 (T.getD k 0))
theorem IntsAt.below {w w' : World} {v : Value} {T : List Int} (h : IntsAt w v T) (hb : Below w.heap.size w w') : IntsAt w' v T := by
  obtain ⟨A, c, e, hc⟩ := h
  exact ⟨A, c, e, hc.below hb⟩
theorem ints_nil (w : World) : IntsAt w (.slice none 0 0) [] := ⟨none, 0, rfl, fun h => by simp at h⟩
theorem ownI_ints {e : TypeId} {w : World} {B : Nat} {v : Value} {T : List Int} (h : OwnI e w B v T) : IntsAt w v T := by
  rcases ownI_form h with ⟨rfl, rfl⟩ | ⟨g, cap, rfl, hb, hg, hn, hc⟩
  · exact ints_nil w
  · exact ⟨_, cap, rfl, fun h0 => ⟨g, 0, rfl, hg, fun k hk => by rw [Nat.zero_add]; exact ownI_cell h k hk⟩⟩

theorem ownI_snoc {e : TypeId} {w : World} {B : Nat} {v : Value} {T : List Int} {x : Int} {n : Nat} (hn : n = T.length) (h : w.ownsRow B e 1 v (n + 1) (ints T ++ [.int .i64 x])) : OwnI e w B v (T ++ [x]) := by
  subst hn
  unfold OwnI
  rw [ints_app, List.length_append]
  exact h
theorem new_cell (w : World) (x : Value) (t : TypeId) (g : Nat) (hg : g = w.heap.size) : (w.alloc (.cells #[x] t)).cell? ⟨g, 0, none⟩ = some x := by subst hg; simp
theorem old_blk {w : World} {o : Obj} {k : Nat} (hk : k < w.heap.size) : (w.alloc o).heap[k]? = w.heap[k]? := ((Below.refl w.heap.size w).alloc (Nat.le_refl _) o).block k hk
theorem old_cell {w : World} {o : Obj} {k : Nat} (hk : k < w.heap.size) : (w.alloc o).cell? ⟨k, 0, none⟩ = w.cell? ⟨k, 0, none⟩ := World.cell?_of_block (a := ⟨k, 0, none⟩) (old_blk hk)
theorem ints_cells {w : World} {A : Option Addr} {m c : Nat} {T : List Int} (h : IntsAt w (.slice A m c) T) : m = T.length ∧ Cells w A T.length (fun k => .int .i64 (T.getD k 0)) := by
  obtain ⟨A', c', e, hc⟩ := h
  injection e with e1 e2 e3
  subst e1
  exact ⟨e2, hc⟩
theorem drop_at {T : List Int} {k : Nat} (h : k < T.length) : T.drop k = T.getD k 0 :: T.drop (k + 1) := by
  rw [List.drop_eq_getElem_cons h]; simp [List.getD_eq_getElem?_getD, List.getElem?_eq_getElem h]
theorem take_at {T : List Int} {k : Nat} (h : k < T.length) : T.take (k + 1) = T.take k ++ [T.getD k 0] := by
  rw [List.take_succ_eq_append_getElem h]; simp [List.getD_eq_getElem?_getD, List.getElem?_eq_getElem h]
theorem getD_mem {T : List Int} {k : Nat} (h : k < T.length) : T.getD k 0 ∈ T := by
  rw [List.getD_eq_getElem?_getD, List.getElem?_eq_getElem h]; exact List.getElem_mem h
theorem one_int (x : Int) : ∀ u ∈ [Value.int .i64 x], u.oneCell' = true := fun u hu => by
  simp at hu; subst hu; rfl

end Go.Proofs.Ytafkkhjhdfmhpaa
