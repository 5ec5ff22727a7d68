/- Slices of nodes with their weights, and of such with one number more: rows of the call's own, and slices that are only read. No program is spoken of here. -/
import Derived.Test.YtafkkhjhdfmhpaaRow
import Derived.Test.YtafkkhjhdfmhpaaNdNum
import Derived.Maps.AppendAt
import Derived.Deep.AppendLies
namespace Go.Proofs.Ytafkkhjhdfmhpaa
set_option linter.unusedVariables false
open Go.RowKit

/-! ### nodes: two cells each -/
def nods : List Nd → List Value
  | [] => []
  | r :: L => .int .i64 r.1 :: .int .i64 r.2 :: nods L
theorem nods_len (L : List Nd) : (nods L).length = L.length * 2 := by
  induction L with
  | nil => rfl
  | cons r L ih => simp [nods, ih]; omega
theorem nods_app (L M : List Nd) : nods (L ++ M) = nods L ++ nods M := by
  induction L with
  | nil => simp [nods]
  | cons r L ih => simp [nods, ih]
theorem nods_get : ∀ (L : List Nd) (k : Nat), k < L.length → (nods L)[k * 2]? = some (.int .i64 (L.getD k nz).1) ∧ (nods L)[k * 2 + 1]? = some (.int .i64 (L.getD k nz).2) := by
  intro L
  induction L with
  | nil => intro k h; simp at h
  | cons r L ih =>
    intro k h
    cases k with
    | zero => simp [nods]
    | succ k =>
      have := ih k (by simp at h; omega)
      have e1 : (k + 1) * 2 = k * 2 + 1 + 1 := by omega
      rw [e1]
      simp only [nods, List.getElem?_cons_succ, List.getD_cons_succ]
      exact this
theorem nods_one (L : List Nd) : ∀ u ∈ nods L, u.oneCell' = true := by
  induction L with
  | nil => intro u h; simp [nods] at h
  | cons r L ih =>
    intro u h
    simp only [nods, List.mem_cons] at h
    rcases h with rfl | rfl | h
    · rfl
    · rfl
    · exact ih u h
theorem nods_at {L : List Nd} : ∀ j u, (nods L)[j]? = some u → ∃ k, k < L.length ∧ ((j = k * 2 ∧ u = .int .i64 (L.getD k nz).1) ∨ (j = k * 2 + 1 ∧ u = .int .i64 (L.getD k nz).2)) := by
  intro j u h
  have hl := (List.getElem?_eq_some_iff.1 h).1
  rw [nods_len] at hl
  have g := nods_get L (j / 2) (by omega)
  refine ⟨j / 2, by omega, ?_⟩
  rcases Nat.mod_two_eq_zero_or_one j with e | e
  · left
    have e2 : j / 2 * 2 = j := by omega
    rw [e2] at g
    rw [g.1] at h
    injection h with h
    exact ⟨e2.symm, h.symm⟩
  · right
    have e2 : j / 2 * 2 + 1 = j := by omega
    rw [e2] at g
    rw [g.2] at h
    injection h with h
    exact ⟨e2.symm, h.symm⟩

/-- the cells from o on in block b hold the nodes L -/
def NdIn (w : World) (b o : Nat) (L : List Nd) : Prop := b < w.heap.size ∧ ∀ k, k < L.length → w.cell? ⟨b, o + k * 2, none⟩ = some (.int .i64 (L.getD k nz).1) ∧ w.cell? ⟨b, o + k * 2 + 1, none⟩ = some (.int .i64 (L.getD k nz).2)
theorem NdIn.block {w w' : World} {b o : Nat} {L : List Nd} (h : NdIn w b o L) (hs : w.heap.size ≤ w'.heap.size) (hb : w'.heap[b]? = w.heap[b]?) : NdIn w' b o L :=
  ⟨Nat.lt_of_lt_of_le h.1 hs, fun k hk => ⟨(World.cell?_of_block (a := ⟨b, o + k * 2, none⟩) hb).trans (h.2 k hk).1, (World.cell?_of_block (a := ⟨b, o + k * 2 + 1, none⟩) hb).trans (h.2 k hk).2⟩⟩
theorem NdIn.below {B : Nat} {w w' : World} {b o : Nat} {L : List Nd} (h : NdIn w b o L) (hb : Below B w w') (hB : b < B) : NdIn w' b o L := h.block hb.size (hb.block b hB)
theorem NdIn.take {w : World} {b o k : Nat} {L : List Nd} (h : NdIn w b o L) : NdIn w b o (L.take k) := by
  refine ⟨h.1, fun j hj => ?_⟩
  have hj' : j < k ∧ j < L.length := by rw [List.length_take] at hj; omega
  have := h.2 j (by omega)
  have e : (L.take k).getD j nz = L.getD j nz := by
    rw [List.getD_eq_getElem?_getD, List.getD_eq_getElem?_getD, List.getElem?_take_of_lt (by omega)]
  rw [e]; exact this
theorem NdIn.drop {w : World} {b o k : Nat} {L : List Nd} (h : NdIn w b o L) : NdIn w b (o + k * 2) (L.drop k) := by
  refine ⟨h.1, fun j hj => ?_⟩
  have hj' : j < L.length - k := by simpa using hj
  have := h.2 (k + j) (by omega)
  have e : (L.drop k).getD j nz = L.getD (k + j) nz := by
    rw [List.getD_eq_getElem?_getD, List.getD_eq_getElem?_getD, List.getElem?_drop]
  rw [e]
  have e1 : o + k * 2 + j * 2 = o + (k + j) * 2 := by omega
  rw [e1]; exact this
theorem NdIn.news {w : World} {b o : Nat} {L : List Nd} (h : NdIn w b o L) : ∀ j u, (nods L)[j]? = some u → w.cell? ((⟨b, o, none⟩ : Addr).add j) = some u := by
  intro j u hj
  have ea : (⟨b, o, none⟩ : Addr).add j = ⟨b, o + j, none⟩ := by
    unfold Addr.add; split
    · rename_i h; subst h; rfl
    · rfl
  obtain ⟨k, hk, (⟨e1, e2⟩ | ⟨e1, e2⟩)⟩ := nods_at j u hj
  · rw [ea, e1, e2]; exact (h.2 k hk).1
  · rw [ea, e1, e2, ← Nat.add_assoc]; exact (h.2 k hk).2
/-- behind the address A lie the nodes L -/
def NdAt (w : World) (A : Option Addr) (L : List Nd) : Prop := 0 < L.length → ∃ b o, A = some ⟨b, o, none⟩ ∧ NdIn w b o L
/-- v is a slice of the nodes L, with room for c -/
def NodesAt (w : World) (v : Value) (L : List Nd) : Prop := ∃ A c, v = .slice A L.length c ∧ L.length ≤ c ∧ c ≤ maxLen ∧ (A = none → c = 0) ∧ NdAt w A L
theorem NdAt.below {w w' : World} {A : Option Addr} {L : List Nd} (h : NdAt w A L) (hb : Below w.heap.size w w') : NdAt w' A L := fun h0 => by
  obtain ⟨b, o, ea, hc⟩ := h h0
  exact ⟨b, o, ea, hc.below hb hc.1⟩
theorem NodesAt.below {w w' : World} {v : Value} {L : List Nd} (h : NodesAt w v L) (hb : Below w.heap.size w w') : NodesAt w' v L := by
  obtain ⟨A, c, e, h1, h2, h3, hc⟩ := h
  exact ⟨A, c, e, h1, h2, h3, hc.below hb⟩
theorem nodes_nil (w : World) : NodesAt w (.slice none 0 0) [] := ⟨none, 0, rfl, by simp, by unfold maxLen; omega, fun _ => rfl, fun h => by simp at h⟩
theorem nodes_cells {w : World} {A : Option Addr} {m c : Nat} {L : List Nd} (h : NodesAt w (.slice A m c) L) : m = L.length ∧ L.length ≤ c ∧ c ≤ maxLen ∧ NdAt w A L := by
  obtain ⟨A', c', e, h1, h2, _, hc⟩ := h
  injection e with e1 e2 e3
  subst e1 e3
  exact ⟨e2, h1, h2, hc⟩
theorem nodes_none {w : World} {m c : Nat} {L : List Nd} (h : NodesAt w (.slice none m c) L) : m = 0 ∧ c = 0 ∧ L = [] := by
  obtain ⟨A', c', e, h1, h2, h3, hc⟩ := h
  injection e with e1 e2 e3
  subst e1 e3
  have := h3 rfl
  exact ⟨by omega, this, List.eq_nil_of_length_eq_zero (by omega)⟩
/-- the slice v is a row of the call's own that holds the nodes L -/
def OwnNd (e : TypeId) (w : World) (B : Nat) (v : Value) (L : List Nd) : Prop := w.ownsRow B e 2 v L.length (nods L)
theorem ownNd_nil (e : TypeId) (w : World) (B : Nat) : OwnNd e w B (.slice none 0 0) [] := World.ownsRow_nil w B e 2
theorem ownNd_snoc {e : TypeId} {w : World} {B : Nat} {v : Value} {L : List Nd} {x y : Int} (h : w.ownsRow B e 2 v (L.length + 1) (nods L ++ [.int .i64 x, .int .i64 y])) : OwnNd e w B v (L ++ [(x, y)]) := by
  unfold OwnNd
  rw [nods_app, List.length_append]
  exact h
theorem ownNd_app {e : TypeId} {w : World} {B : Nat} {v : Value} {L M : List Nd} (h : w.ownsRow B e 2 v (L.length + M.length) (nods L ++ nods M)) : OwnNd e w B v (L ++ M) := by
  unfold OwnNd
  rw [nods_app, List.length_append]
  exact h
theorem ownNd_form {e : TypeId} {w : World} {B : Nat} {v : Value} {L : List Nd} (h : OwnNd e w B v L) :
    (v = .slice none 0 0 ∧ L = []) ∨ ∃ g cap, v = .slice (some ⟨g, 0, none⟩) L.length cap ∧ B ≤ g ∧ g < w.heap.size ∧ L.length ≤ cap ∧ cap ≤ maxLen ∧ NdIn w g 0 L := by
  have hf := h
  rcases h.2 with ⟨hv, h0⟩ | ⟨g, cap, cur, hv, hb, hg, hn, hc, _⟩
  · exact .inl ⟨hv, List.eq_nil_of_length_eq_zero h0⟩
  · subst hv
    refine .inr ⟨g, cap, rfl, hb, (hf.lt g rfl).2, hn, hc, (hf.lt g rfl).2, fun k hk => ?_⟩
    have a := World.ownsRow.cellAt hf (k * 2) (by omega)
    have b := World.ownsRow.cellAt hf (k * 2 + 1) (by omega)
    have c := nods_get L k hk
    rw [Nat.zero_add, a, b]
    exact c
theorem ownNd_nodes {e : TypeId} {w : World} {B : Nat} {v : Value} {L : List Nd} (h : OwnNd e w B v L) : NodesAt w v L := by
  rcases ownNd_form h with ⟨rfl, rfl⟩ | ⟨g, cap, rfl, hb, hg, hn, hc, hi⟩
  · exact nodes_nil w
  · exact ⟨_, cap, rfl, hn, hc, fun e => by simp at e, fun _ => ⟨g, 0, rfl, hi⟩⟩
theorem ownNd_slice {e : TypeId} {w : World} {B size n : Nat} {v : Value} {xs : List Value} (h : w.ownsRow B e size v n xs) : ∃ A m c, v = .slice A m c := by
  rcases h.2 with ⟨hv, h0⟩ | ⟨g, cap, cur, hv, _⟩
  · exact ⟨none, 0, 0, hv⟩
  · exact ⟨_, n, cap, hv⟩
/-- the same row, cut -/
theorem own_cut {e : TypeId} {w : World} {B g size n k cap : Nat} {xs : List Value} (h : w.ownsRow B e size (.slice (some ⟨g, 0, none⟩) n cap) n xs) (hk : k ≤ n) :
    w.ownsRow B e size (.slice (some ⟨g, 0, none⟩) k cap) k (xs.take (k * size)) := by
  have hl := h.1
  refine ⟨by rw [List.length_take, hl]; have := Nat.mul_le_mul_right size hk; omega, ?_⟩
  rcases h.2 with ⟨h', _⟩ | ⟨g', cap', cur, h', hb, hg, hn, hc, hs, ht⟩
  · simp at h'
  · simp only [Value.slice.injEq, Option.some.injEq, Addr.mk.injEq, and_true, true_and] at h'
    obtain ⟨rfl, rfl⟩ := h'
    refine .inr ⟨g, cap, cur, rfl, hb, hg, by omega, hc, hs, ?_⟩
    have h1 := congrArg (List.take (k * size)) ht
    rw [List.take_take] at h1
    have e1 : min (k * size) (n * size) = k * size := by have := Nat.mul_le_mul_right size hk; omega
    rw [e1] at h1
    exact h1
theorem nods_take (L : List Nd) (k : Nat) : (nods L).take (k * 2) = nods (L.take k) := by
  have e := List.take_append_drop k L
  rcases Nat.lt_or_ge L.length k with h | h
  · rw [List.take_of_length_le (by rw [nods_len]; omega), List.take_of_length_le (by omega)]
  · conv => lhs; rw [← e, nods_app]
    have hl : (nods (L.take k)).length = k * 2 := by rw [nods_len]; simp; omega
    rw [List.take_append_of_le_length (by omega), List.take_of_length_le (by omega)]
def NBds (L : List Nd) : Prop := ∀ n ∈ L, (-9223372036854775808 ≤ n.1 ∧ n.1 ≤ 9223372036854775807) ∧ (-9223372036854775808 ≤ n.2 ∧ n.2 ≤ 9223372036854775807)
theorem nbds_at {L : List Nd} (h : NBds L) {k : Nat} (hk : k < L.length) : (-9223372036854775808 ≤ (L.getD k nz).1 ∧ (L.getD k nz).1 ≤ 9223372036854775807) ∧ (-9223372036854775808 ≤ (L.getD k nz).2 ∧ (L.getD k nz).2 ≤ 9223372036854775807) := h _ (nd_mem hk)
theorem nbds_app {L M : List Nd} (h : NBds L) (g : NBds M) : NBds (L ++ M) := fun n hn => by
  rcases List.mem_append.1 hn with hn | hn
  · exact h n hn
  · exact g n hn
theorem nbds_perm {L M : List Nd} (h : M.Perm L) (g : NBds L) : NBds M := fun n hn => g n (h.mem_iff.1 hn)
theorem nbds_take {L : List Nd} {k : Nat} (h : NBds L) : NBds (L.take k) := fun n hn => h n (List.mem_of_mem_take hn)
theorem nbds_drop {L : List Nd} {k : Nat} (h : NBds L) : NBds (L.drop k) := fun n hn => h n (List.mem_of_mem_drop hn)

/-! ### placed nodes: three cells each -/
abbrev Pl := Nd × Int
def plz : Pl := ((0, 0), 0)
def plas : List Pl → List Value
  | [] => []
  | r :: L => .int .i64 r.1.1 :: .int .i64 r.1.2 :: .int .i64 r.2 :: plas L
theorem plas_len (L : List Pl) : (plas L).length = L.length * 3 := by
  induction L with
  | nil => rfl
  | cons r L ih => simp [plas, ih]; omega
theorem plas_app (L M : List Pl) : plas (L ++ M) = plas L ++ plas M := by
  induction L with
  | nil => simp [plas]
  | cons r L ih => simp [plas, ih]
theorem plas_get : ∀ (L : List Pl) (k : Nat), k < L.length → (plas L)[k * 3]? = some (.int .i64 (L.getD k plz).1.1) ∧ (plas L)[k * 3 + 1]? = some (.int .i64 (L.getD k plz).1.2) ∧ (plas L)[k * 3 + 2]? = some (.int .i64 (L.getD k plz).2) := by
  intro L
  induction L with
  | nil => intro k h; simp at h
  | cons r L ih =>
    intro k h
    cases k with
    | zero => simp [plas]
    | succ k =>
      have := ih k (by simp at h; omega)
      have e1 : (k + 1) * 3 = k * 3 + 1 + 1 + 1 := by omega
      rw [e1]
      simp only [plas, List.getElem?_cons_succ, List.getD_cons_succ]
      exact this
theorem plas_one (L : List Pl) : ∀ u ∈ plas L, u.oneCell' = true := by
  induction L with
  | nil => intro u h; simp [plas] at h
  | cons r L ih =>
    intro u h
    simp only [plas, List.mem_cons] at h
    rcases h with rfl | rfl | rfl | h
    · rfl
    · rfl
    · rfl
    · exact ih u h
theorem plas_at {L : List Pl} : ∀ j u, (plas L)[j]? = some u → ∃ k, k < L.length ∧ ((j = k * 3 ∧ u = .int .i64 (L.getD k plz).1.1) ∨ (j = k * 3 + 1 ∧ u = .int .i64 (L.getD k plz).1.2) ∨ (j = k * 3 + 2 ∧ u = .int .i64 (L.getD k plz).2)) := by
  intro j u h
  have hl := (List.getElem?_eq_some_iff.1 h).1
  rw [plas_len] at hl
  have g := plas_get L (j / 3) (by omega)
  refine ⟨j / 3, by omega, ?_⟩
  rcases (show j % 3 = 0 ∨ j % 3 = 1 ∨ j % 3 = 2 by omega) with e | e | e
  · left
    have e2 : j / 3 * 3 = j := by omega
    rw [e2] at g
    rw [g.1] at h
    injection h with h
    exact ⟨e2.symm, h.symm⟩
  · right; left
    have e2 : j / 3 * 3 + 1 = j := by omega
    rw [e2] at g
    rw [g.2.1] at h
    injection h with h
    exact ⟨e2.symm, h.symm⟩
  · right; right
    have e2 : j / 3 * 3 + 2 = j := by omega
    rw [e2] at g
    rw [g.2.2] at h
    injection h with h
    exact ⟨e2.symm, h.symm⟩
def PlIn (w : World) (b o : Nat) (L : List Pl) : Prop := b < w.heap.size ∧ ∀ k, k < L.length → w.cell? ⟨b, o + k * 3, none⟩ = some (.int .i64 (L.getD k plz).1.1) ∧ w.cell? ⟨b, o + k * 3 + 1, none⟩ = some (.int .i64 (L.getD k plz).1.2) ∧ w.cell? ⟨b, o + k * 3 + 2, none⟩ = some (.int .i64 (L.getD k plz).2)
theorem PlIn.block {w w' : World} {b o : Nat} {L : List Pl} (h : PlIn w b o L) (hs : w.heap.size ≤ w'.heap.size) (hb : w'.heap[b]? = w.heap[b]?) : PlIn w' b o L :=
  ⟨Nat.lt_of_lt_of_le h.1 hs, fun k hk => ⟨(World.cell?_of_block (a := ⟨b, o + k * 3, none⟩) hb).trans (h.2 k hk).1, (World.cell?_of_block (a := ⟨b, o + k * 3 + 1, none⟩) hb).trans (h.2 k hk).2.1, (World.cell?_of_block (a := ⟨b, o + k * 3 + 2, none⟩) hb).trans (h.2 k hk).2.2⟩⟩
theorem PlIn.below {B : Nat} {w w' : World} {b o : Nat} {L : List Pl} (h : PlIn w b o L) (hb : Below B w w') (hB : b < B) : PlIn w' b o L := h.block hb.size (hb.block b hB)
theorem PlIn.take {w : World} {b o k : Nat} {L : List Pl} (h : PlIn w b o L) : PlIn w b o (L.take k) := by
  refine ⟨h.1, fun j hj => ?_⟩
  have hj' : j < k ∧ j < L.length := by rw [List.length_take] at hj; omega
  have := h.2 j (by omega)
  have e : (L.take k).getD j plz = L.getD j plz := by
    rw [List.getD_eq_getElem?_getD, List.getD_eq_getElem?_getD, List.getElem?_take_of_lt (by omega)]
  rw [e]; exact this
theorem PlIn.drop {w : World} {b o k : Nat} {L : List Pl} (h : PlIn w b o L) : PlIn w b (o + k * 3) (L.drop k) := by
  refine ⟨h.1, fun j hj => ?_⟩
  have hj' : j < L.length - k := by simpa using hj
  have := h.2 (k + j) (by omega)
  have e : (L.drop k).getD j plz = L.getD (k + j) plz := by
    rw [List.getD_eq_getElem?_getD, List.getD_eq_getElem?_getD, List.getElem?_drop]
  rw [e]
  have e1 : o + k * 3 + j * 3 = o + (k + j) * 3 := by omega
  rw [e1]; exact this
theorem PlIn.news {w : World} {b o : Nat} {L : List Pl} (h : PlIn w b o L) : ∀ j u, (plas L)[j]? = some u → w.cell? ((⟨b, o, none⟩ : Addr).add j) = some u := by
  intro j u hj
  have ea : (⟨b, o, none⟩ : Addr).add j = ⟨b, o + j, none⟩ := by
    unfold Addr.add; split
    · rename_i h; subst h; rfl
    · rfl
  obtain ⟨k, hk, (⟨e1, e2⟩ | ⟨e1, e2⟩ | ⟨e1, e2⟩)⟩ := plas_at j u hj
  · rw [ea, e1, e2]; exact (h.2 k hk).1
  · rw [ea, e1, e2, ← Nat.add_assoc]; exact (h.2 k hk).2.1
  · rw [ea, e1, e2, ← Nat.add_assoc]; exact (h.2 k hk).2.2
def OwnPl (e : TypeId) (w : World) (B : Nat) (v : Value) (L : List Pl) : Prop := w.ownsRow B e 3 v L.length (plas L)
theorem ownPl_snoc {e : TypeId} {w : World} {B : Nat} {v : Value} {L : List Pl} {x y z : Int} (h : w.ownsRow B e 3 v (L.length + 1) (plas L ++ [.int .i64 x, .int .i64 y, .int .i64 z])) : OwnPl e w B v (L ++ [((x, y), z)]) := by
  unfold OwnPl
  rw [plas_app, List.length_append]
  exact h
theorem ownPl_app {e : TypeId} {w : World} {B : Nat} {v : Value} {L M : List Pl} (h : w.ownsRow B e 3 v (L.length + M.length) (plas L ++ plas M)) : OwnPl e w B v (L ++ M) := by
  unfold OwnPl
  rw [plas_app, List.length_append]
  exact h
theorem ownPl_form {e : TypeId} {w : World} {B : Nat} {v : Value} {L : List Pl} (h : OwnPl e w B v L) :
    (v = .slice none 0 0 ∧ L = []) ∨ ∃ g cap, v = .slice (some ⟨g, 0, none⟩) L.length cap ∧ B ≤ g ∧ g < w.heap.size ∧ L.length ≤ cap ∧ cap ≤ maxLen ∧ PlIn w g 0 L := by
  have hf := h
  rcases h.2 with ⟨hv, h0⟩ | ⟨g, cap, cur, hv, hb, hg, hn, hc, _⟩
  · exact .inl ⟨hv, List.eq_nil_of_length_eq_zero h0⟩
  · subst hv
    refine .inr ⟨g, cap, rfl, hb, (hf.lt g rfl).2, hn, hc, (hf.lt g rfl).2, fun k hk => ?_⟩
    have a := World.ownsRow.cellAt hf (k * 3) (by omega)
    have b := World.ownsRow.cellAt hf (k * 3 + 1) (by omega)
    have b2 := World.ownsRow.cellAt hf (k * 3 + 2) (by omega)
    have c := plas_get L k hk
    rw [Nat.zero_add, a, b, b2]
    exact c
theorem pl_take {L : List Pl} {k : Nat} (h : k < L.length) : L.take (k + 1) = L.take k ++ [L.getD k plz] := by
  rw [List.take_succ_eq_append_getElem h]; simp [List.getD_eq_getElem?_getD, List.getElem?_eq_getElem h]
theorem pl_drop {L : List Pl} {k : Nat} (h : k < L.length) : L.drop k = L.getD k plz :: L.drop (k + 1) := by
  rw [List.drop_eq_getElem_cons h]; simp [List.getD_eq_getElem?_getD, List.getElem?_eq_getElem h]

end Go.Proofs.Ytafkkhjhdfmhpaa
