/- Slices of runs of values that a call owns, and such that it only reads; two rows of the call's own that grow by turns beside a box of two cells. No program is spoken of here. -/
import Derived.Test.YtjmglihdndknjaaTiMem
import Derived.Test.YtjmglihdndknjaaTiNum3
import Derived.Laws.Rows
import Derived.OneCell
namespace Go.Proofs.Ytjmglihdndknjaa
set_option linter.unusedVariables false
open Go.RowKit

def pairs : List Rn → List Value
  | [] => []
  | r :: L => .int .i64 r.1 :: .int .i64 r.2 :: pairs L
theorem pairs_len (L : List Rn) : (pairs L).length = L.length * 2 := by
  induction L with
  | nil => rfl
  | cons r L ih => simp [pairs, ih]; omega
theorem pairs_app (L M : List Rn) : pairs (L ++ M) = pairs L ++ pairs M := by
  induction L with
  | nil => simp [pairs]
  | cons r L ih => simp [pairs, ih]
def rz : Rn := (0, 0)
theorem pairs_get : ∀ (L : List Rn) (k : Nat), k < L.length → (pairs L)[k * 2]? = some (.int .i64 (L.getD k rz).1) ∧ (pairs L)[k * 2 + 1]? = some (.int .i64 (L.getD k rz).2) := by
  intro L
  induction L with
  | nil => intro k h; simp at h
  | cons r L ih =>
    intro k h
    cases k with
    | zero => simp [pairs]
    | succ k =>
      have := ih k (by simp at h; omega)
      have e1 : (k + 1) * 2 = k * 2 + 1 + 1 := by omega
      rw [e1]
      simp only [pairs, List.getElem?_cons_succ, List.getD_cons_succ]
      exact this
def OwnP (e : TypeId) (w : World) (B : Nat) (v : Value) (L : List Rn) : Prop := w.ownsRow B e 2 v L.length (pairs L)
theorem ownP_nil (e : TypeId) (w : World) (B : Nat) : OwnP e w B (.slice none 0 0) [] := World.ownsRow_nil w B e 2
theorem ownP_snoc {e : TypeId} {w : World} {B : Nat} {v : Value} {L : List Rn} {x y : Int} (h : w.ownsRow B e 2 v (L.length + 1) (pairs L ++ [.int .i64 x, .int .i64 y])) : OwnP e w B v (L ++ [(x, y)]) := by
  unfold OwnP
  rw [pairs_app, List.length_append]
  exact h
theorem pairs_one (L : List Rn) : ∀ u ∈ pairs L, u.oneCell' = true := by
  induction L with
  | nil => intro u h; simp [pairs] at h
  | cons r L ih =>
    intro u h
    simp only [pairs, List.mem_cons] at h
    rcases h with rfl | rfl | h
    · rfl
    · rfl
    · exact ih u h
theorem ownP_join {e : TypeId} {w : World} {B : Nat} {v : Value} {L M : List Rn} {x y : Int} (h : w.ownsRow B e 2 v (L.length + 1 + M.length) (pairs L ++ .int .i64 x :: .int .i64 y :: pairs M)) : OwnP e w B v (L ++ [(x, y)] ++ M) := by
  unfold OwnP
  rw [pairs_app, pairs_app, List.length_append, List.length_append, List.append_assoc]
  exact h
/-- a slice of runs that is only read -/
def RunsAt (w : World) (v : Value) (L : List Rn) : Prop := ∃ A c, v = .slice A L.length c ∧ (0 < L.length → ∃ b o, A = some ⟨b, o, none⟩ ∧ b < w.heap.size ∧ ∀ k, k < L.length → w.cell? ⟨b, o + k * 2, none⟩ = some (.int .i64 (L.getD k rz).1) ∧ w.cell? ⟨b, o + k * 2 + 1, none⟩ = some (.int .i64 (L.getD k rz).2))
theorem RunsAt.below {w w' : World} {v : Value} {L : List Rn} (h : RunsAt w v L) (hb : Below w.heap.size w w') : RunsAt w' v L := by
  obtain ⟨A, c, e, hc⟩ := h
  refine ⟨A, c, e, fun h0 => ?_⟩
  obtain ⟨b, o, ea, hlt, hk⟩ := hc h0
  exact ⟨b, o, ea, Nat.lt_of_lt_of_le hlt hb.size, fun k hk' => ⟨(hb.cell (p := ⟨b, o + k * 2, none⟩) hlt).trans (hk k hk').1, (hb.cell (p := ⟨b, o + k * 2 + 1, none⟩) hlt).trans (hk k hk').2⟩⟩
theorem runs_cells {w : World} {A : Option Addr} {m c : Nat} {L : List Rn} (h : RunsAt w (.slice A m c) L) : m = L.length ∧ (0 < L.length → ∃ b o, A = some ⟨b, o, none⟩ ∧ b < w.heap.size ∧ ∀ k, k < L.length → w.cell? ⟨b, o + k * 2, none⟩ = some (.int .i64 (L.getD k rz).1) ∧ w.cell? ⟨b, o + k * 2 + 1, none⟩ = some (.int .i64 (L.getD k rz).2)) := by
  obtain ⟨A', c', e, hc⟩ := h
  injection e with e1 e2 e3
  subst e1
  exact ⟨e2, hc⟩
theorem ownP_runs {e : TypeId} {w : World} {B : Nat} {v : Value} {L : List Rn} (h : OwnP e w B v L) : RunsAt w v L := by
  have hf := h
  rcases h.2 with ⟨hv, h0⟩ | ⟨g, cap, cur, hv, hb, hg, hn, hc, _⟩
  · exact ⟨none, 0, by rw [hv, h0], fun h => by omega⟩
  · subst hv
    refine ⟨_, cap, rfl, fun h0 => ⟨g, 0, rfl, (hf.lt g rfl).2, fun k hk => ?_⟩⟩
    have a := World.ownsRow.cellAt hf (k * 2) (by omega)
    have b := World.ownsRow.cellAt hf (k * 2 + 1) (by omega)
    have c := pairs_get L k hk
    rw [Nat.zero_add, a, b]
    exact c
theorem getDr_mem {L : List Rn} {k : Nat} (h : k < L.length) : L.getD k rz ∈ L := by
  rw [List.getD_eq_getElem?_getD, List.getElem?_eq_getElem h]; exact List.getElem_mem h
theorem take_atr {T : List Rn} {k : Nat} (h : k < T.length) : T.take (k + 1) = T.take k ++ [T.getD k rz] := by
  rw [List.take_succ_eq_append_getElem h]; simp [List.getD_eq_getElem?_getD, List.getElem?_eq_getElem h]
theorem gap_at {S : List Rn} (h : S.Pairwise Gap) {k : Nat} (hk : k < S.length) : ∀ p ∈ S.take k, Gap p (S.getD k rz) := by
  have e := List.take_append_drop k S
  have d : S.drop k = S.getD k rz :: S.drop (k + 1) := by
    rw [List.drop_eq_getElem_cons hk]; simp [List.getD_eq_getElem?_getD, List.getElem?_eq_getElem hk]
  rw [d] at e
  rw [← e] at h
  exact fun p hp => (List.pairwise_append.1 h).2.2 p hp _ (by simp)

/-- two rows of the call's own, and a box -/
structure WithAt (e : TypeId) (N : Nat) (w0 w : World) (va vb : Value) (x : Rn) (A B : List Rn) : Prop where
  a : OwnP e w (N + 1) va A
  b : OwnP e w (N + 1) vb B
  ne : va.ownBlock = none ∨ va.ownBlock ≠ vb.ownBlock
  box : w.heap[N]? = some (.cells #[.int .i64 x.1, .int .i64 x.2] e (0, 0))
  below : Below N w0 w
  room : N + 1 ≤ w.heap.size
theorem WithAt.drew {e : TypeId} {N : Nat} {w0 w : World} {va vb : Value} {x : Rn} {A B : List Rn} (h : WithAt e N w0 w va vb x A B) (q : Nat) : WithAt e N w0 (w.drewN q) va vb x A B :=
  ⟨h.a, h.b, h.ne, h.box, drewN_below h.below q, h.room⟩
theorem WithAt.cells {e : TypeId} {N : Nat} {w0 w : World} {va vb : Value} {x : Rn} {A B : List Rn} (h : WithAt e N w0 w va vb x A B) :
    w.cell? ⟨N, 0, none⟩ = some (.int .i64 x.1) ∧ w.cell? ⟨N, 1, none⟩ = some (.int .i64 x.2) ∧ w.frozen? ⟨N, 0, none⟩ = false ∧ w.frozen? ⟨N, 1, none⟩ = false := by
  have := h.box
  refine ⟨?_, ?_, ?_, ?_⟩ <;> simp [World.cell?, World.frozen?, this]
theorem WithAt.far {e : TypeId} {N : Nat} {w0 w : World} {va vb : Value} {x : Rn} {A B : List Rn} (h : WithAt e N w0 w va vb x A B) : va.ownBlock ≠ some N ∧ vb.ownBlock ≠ some N :=
  ⟨fun g => by have := (World.ownsRow.lt h.a N g).1; omega, fun g => by have := (World.ownsRow.lt h.b N g).1; omega⟩
theorem WithAt.set0 {e : TypeId} {N : Nat} {w0 w : World} {va vb : Value} {x : Rn} {A B : List Rn} (h : WithAt e N w0 w va vb x A B) (y : Int) : WithAt e N w0 (w.setCell ⟨N, 0, none⟩ (.int .i64 y)) va vb (y, x.2) A B :=
  ⟨ownsRow_setCell_other h.a h.far.1 _, ownsRow_setCell_other h.b h.far.2 _, h.ne, by rw [heap_setCell_same _ _ _ _ _ _ h.box]; rfl, h.below.setCell (Nat.le_refl _) _, by simpa using h.room⟩
theorem WithAt.set1 {e : TypeId} {N : Nat} {w0 w : World} {va vb : Value} {x : Rn} {A B : List Rn} (h : WithAt e N w0 w va vb x A B) (y : Int) : WithAt e N w0 (w.setCell ⟨N, 1, none⟩ (.int .i64 y)) va vb (x.1, y) A B :=
  ⟨ownsRow_setCell_other h.a h.far.1 _, ownsRow_setCell_other h.b h.far.2 _, h.ne, by rw [heap_setCell_same _ _ _ _ _ _ h.box]; rfl, h.below.setCell (Nat.le_refl _) _, by simpa using h.room⟩
theorem WithAt.start (e : TypeId) (w : World) (x y : Int) : WithAt e w.heap.size w (w.alloc (.cells #[.int .i64 x, .int .i64 y] e)) (.slice none 0 0) (.slice none 0 0) (x, y) [] [] :=
  ⟨ownP_nil .., ownP_nil .., .inl rfl, heap_alloc_new w _, (Below.refl _ _).alloc (Nat.le_refl _) _, by simp⟩
theorem WithAt.growA {e : TypeId} {N : Nat} {w0 w w2 : World} {va vb v' : Value} {x : Rn} {A B A' : List Rn} {o : Obj} (h : WithAt e N w0 w va vb x A B) (hown : OwnP e w2 (N + 1) v' A') (hg : (w.alloc o).grownBy w2 va.ownBlock) (hat : v'.ownBlock = va.ownBlock ∨ v'.ownBlock = some (w.heap.size + 1)) :
    WithAt e N w0 w2 v' vb x A' B := by
  have hr := h.room
  have g0 : w.grownBy w2 va.ownBlock := (World.grownBy_alloc w o _).trans hg
  have hb : vb.ownBlock = none ∨ vb.ownBlock ≠ va.ownBlock := by
    rcases h.ne with q | q
    · cases hv : vb.ownBlock with
      | none => exact .inl rfl
      | some k => exact .inr (by rw [q]; simp)
    · exact .inr (Ne.symm q)
  refine ⟨hown, World.ownsRow.kept h.b g0 hb, ?_, ?_, ?_, by have := g0.size; omega⟩
  · rcases hat with q | q
    · rw [q]; exact h.ne
    · right
      rw [q]
      intro g
      have := (World.ownsRow.lt h.b _ g.symm).2
      omega
  · rw [g0.block N (by omega) (Ne.symm h.far.1)]; exact h.box
  · exact h.below.trans ⟨g0.os, g0.tape, g0.output, g0.size, fun k hk => g0.block k (by omega) (fun q => by have := (World.ownsRow.lt h.a k q.symm).1; omega)⟩
theorem WithAt.growB {e : TypeId} {N : Nat} {w0 w w2 : World} {va vb v' : Value} {x : Rn} {A B B' : List Rn} {o : Obj} (h : WithAt e N w0 w va vb x A B) (hown : OwnP e w2 (N + 1) v' B') (hg : (w.alloc o).grownBy w2 vb.ownBlock) (hat : v'.ownBlock = vb.ownBlock ∨ v'.ownBlock = some (w.heap.size + 1)) :
    WithAt e N w0 w2 va v' x A B' := by
  have hr := h.room
  have g0 : w.grownBy w2 vb.ownBlock := (World.grownBy_alloc w o _).trans hg
  refine ⟨World.ownsRow.kept h.a g0 h.ne, hown, ?_, ?_, ?_, by have := g0.size; omega⟩
  · rcases hat with q | q
    · rw [q]; exact h.ne
    · cases hv : va.ownBlock with
      | none => exact .inl rfl
      | some k =>
        right
        rw [q]
        intro g
        injection g with g
        have := (World.ownsRow.lt h.a k hv).2
        omega
  · rw [g0.block N (by omega) (Ne.symm h.far.2)]; exact h.box
  · exact h.below.trans ⟨g0.os, g0.tape, g0.output, g0.size, fun k hk => g0.block k (by omega) (fun q => by have := (World.ownsRow.lt h.b k q.symm).1; omega)⟩

end Go.Proofs.Ytjmglihdndknjaa
