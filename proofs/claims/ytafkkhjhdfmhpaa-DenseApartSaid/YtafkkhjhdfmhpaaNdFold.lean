/- Folding a list in order, step by step: what a round leaves of the row of the call's own; what a call of Fold leaves. No program is spoken of here. -/
import Derived.Test.YtafkkhjhdfmhpaaNdSl
namespace Go.Proofs.Ytafkkhjhdfmhpaa
set_option linter.unusedVariables false
open Go.RowKit

theorem sumC_last {P : List Nd} {y : Nd} (h : NonNeg (P ++ [y])) : y.2 ≤ sumC (P ++ [y]) := by
  rw [sumC_app]
  have := sumC_nonneg (L := P) fun n hn => h n (by simp [hn])
  simp [sumC]; omega
/-- there is room for one more weight -/
theorem fold_room {L S P : List Nd} {y : Nd} {k : Nat} (hs : Srt idA L S) (hk : k < S.length) (ht : TotC L) (hF : foldN (S.take k) = P ++ [y]) : 1 ≤ y.2 ∧ 0 ≤ (S.getD k nz).2 ∧ y.2 + (S.getD k nz).2 ≤ 72057594037927935 := by
  have htS : TotC S := (totC_perm hs.perm).2 ht
  have inv := fold_inv k S (by omega) hs.ord htS.1
  rw [hF] at inv
  have hx := htS.1 _ (nd_mem hk)
  have hy := sumC_last (P := P) (y := y) fun n hn => by have := inv.good.pos n hn; omega
  have e := List.take_append_drop (k + 1) S
  have h2 := htS.2
  rw [← e, sumC_app, nd_take hk, sumC_app] at h2
  have := sumC_nonneg (L := S.drop (k + 1)) fun n hn => htS.1 n (List.mem_of_mem_drop hn)
  have := inv.sum
  simp only [sumC] at h2
  exact ⟨inv.good.pos y (by simp), hx, by omega⟩
theorem fold_len {L S : List Nd} {k : Nat} (hs : Srt idA L S) (hk : k ≤ S.length) (ht : TotC L) : (foldN (S.take k)).length ≤ k := by
  have htS : TotC S := (totC_perm hs.perm).2 ht
  have := (fold_inv k S hk hs.ord htS.1).len
  rw [List.length_take] at this; omega
theorem fold_next {S : List Nd} {k : Nat} (hk : k < S.length) : foldN (S.take (k + 1)) = addN (foldN (S.take k)) (S.getD k nz) := by rw [nd_take hk, foldN_snoc]
theorem ids_next {S : List Nd} {k : Nat} (hk : k < S.length) (h : ∀ n ∈ S.take k, 1 ≤ n.1) (h1 : 1 ≤ (S.getD k nz).1) : ∀ n ∈ S.take (k + 1), 1 ≤ n.1 := by
  intro n hn
  rw [nd_take hk] at hn
  rcases List.mem_append.1 hn with hn | hn
  · exact h n hn
  · simp only [List.mem_singleton] at hn; subst hn; exact h1
theorem ids_stop {L S : List Nd} {k : Nat} (hs : Srt idA L S) (hk : k < S.length) (h1 : (S.getD k nz).1 < 1) : foldB L = false :=
  foldC_no fun q => by have := q.2 _ (hs.mem.1 (nd_mem hk)); omega
/-- one more put in -/
theorem ins_next {ah : Nd → Nd → Bool} (R : Ahd ah) {L S : List Nd} {k j : Nat} (hk : k < L.length) (hj : j ≤ S.length) (hs : Srt ah (L.take k) S) (hq : ∀ q ∈ S.drop j, ah (L.getD k nz) q = true) (hl : ∀ i, j = i + 1 → ah (L.getD k nz) (S.getD i nz) = false) :
    Srt ah (L.take (k + 1)) (S.take j ++ L.getD k nz :: S.drop j) := by
  rw [nd_take hk]
  refine srt_ins R (by rw [List.take_append_drop]; exact hs) hq fun p hp => ?_
  cases j with
  | zero => simp at hp
  | succ i =>
    rw [nd_take (by omega)] at hp
    simp only [List.getLast?_append, List.getLast?_singleton, Option.some_or, Option.some.injEq] at hp
    subst hp
    exact hl i rfl
theorem ins_back {ah : Nd → Nd → Bool} {S : List Nd} {i : Nat} {x : Nd} (hi : i < S.length) (hq : ∀ q ∈ S.drop (i + 1), ah x q = true) (h : ah x (S.getD i nz) = true) : ∀ q ∈ S.drop i, ah x q = true := by
  intro q hm
  rw [nd_drop hi] at hm
  rcases List.mem_cons.1 hm with rfl | hm
  · exact h
  · exact hq q hm
theorem ins_len {S : List Nd} {j k : Nat} {x : Nd} (hs : S.length = k) (hj : j ≤ k) : (S.take j ++ x :: S.drop j).length = k + 1 := by
  rw [List.length_append, List.length_take, List.length_cons, List.length_drop]; omega
/-- what a call of Fold leaves -/
def FoldPost (L : List Nd) (w : World) (e : Ending) (w' : World) : Prop :=
  (foldB L = false ∧ e = .returned (.tuple #[.slice none 0 0, .bool false]) ∧ Below w.heap.size w w') ∨
  (foldB L = true ∧ ∃ F A c, e = .returned (.tuple #[.slice A (List.length F) c, .bool true]) ∧ FoldOf L F ∧ NodesAt w' (.slice A F.length c) F ∧ Below w.heap.size w w')
theorem fold_none {L : List Nd} {w w' : World} (h : foldB L = false) (hb : Below w.heap.size w w') : FoldPost L w (.returned (.tuple #[.slice none 0 0, .bool false])) w' := .inl ⟨h, rfl, hb⟩
theorem fold_is_no {L : List Nd} {w w' : World} {e : Ending} (h : foldB L = false) (q : FoldPost L w e w') : e = .returned (.tuple #[.slice none 0 0, .bool false]) ∧ Below w.heap.size w w' := by
  rcases q with ⟨_, a⟩ | ⟨g, _⟩
  · exact a
  · rw [h] at g; simp at g
theorem fold_is_yes {L : List Nd} {w w' : World} {e : Ending} (h : foldB L = true) (q : FoldPost L w e w') : ∃ F A c, e = .returned (.tuple #[.slice A (List.length F) c, .bool true]) ∧ FoldOf L F ∧ NodesAt w' (.slice A F.length c) F ∧ Below w.heap.size w w' := by
  rcases q with ⟨g, _⟩ | ⟨_, a⟩
  · rw [h] at g; simp at g
  · exact a
theorem fold_tot {L : List Nd} (h : totB L = false) : foldB L = false := foldC_no fun q => by have := totC_iff.2 q.1; rw [h] at this; simp at this
theorem fold_done {L S : List Nd} {T : TypeId} {B : Nat} {v : Value} {w w' : World} (hs : Srt idA L S) (ht : totB L = true) (hi : ∀ n ∈ S.take S.length, 1 ≤ n.1) (hown : OwnNd T w' B v (foldN (S.take S.length))) (hb : Below w.heap.size w w') :
    FoldPost L w (.returned (.tuple #[v, .bool true])) w' := by
  rw [List.take_of_length_le (Nat.le_refl _)] at hi hown
  have hn := ownNd_nodes hown
  have hf := hn
  obtain ⟨A, c, rfl, _⟩ := hn
  exact .inr ⟨foldC_iff.2 ⟨totC_iff.1 ht, fun n hn => hi n (hs.mem.2 hn)⟩, _, A, c, rfl, ⟨S, hs, rfl⟩, hf, hb⟩
theorem own_low {e : TypeId} {w : World} {B B2 size n : Nat} {v : Value} {xs : List Value} (h : w.ownsRow B e size v n xs) (hB : B2 ≤ B) : w.ownsRow B2 e size v n xs := by
  refine ⟨h.1, ?_⟩
  rcases h.2 with hn | ⟨g, cap, cur, rfl, hb, rest⟩
  · exact .inl hn
  · exact .inr ⟨g, cap, cur, rfl, by omega, rest⟩
/-- what a call of Fold leaves: the list is a row of its own -/
def FoldOwn (T : TypeId) (L : List Nd) (w : World) (e : Ending) (w' : World) : Prop :=
  (foldB L = false ∧ e = .returned (.tuple #[.slice none 0 0, .bool false]) ∧ Below w.heap.size w w') ∨
  (foldB L = true ∧ ∃ F A c, e = .returned (.tuple #[.slice A (List.length F) c, .bool true]) ∧ FoldOf L F ∧ OwnNd T w' w.heap.size (.slice A F.length c) F ∧ Below w.heap.size w w')
theorem FoldOwn.post {T : TypeId} {L : List Nd} {w w' : World} {e : Ending} (h : FoldOwn T L w e w') : FoldPost L w e w' := by
  rcases h with h | ⟨a, F, A, c, b, f, o, hb⟩
  · exact .inl h
  · exact .inr ⟨a, F, A, c, b, f, ownNd_nodes o, hb⟩
theorem foldO_none {T : TypeId} {L : List Nd} {w w' : World} (h : foldB L = false) (hb : Below w.heap.size w w') : FoldOwn T L w (.returned (.tuple #[.slice none 0 0, .bool false])) w' := .inl ⟨h, rfl, hb⟩
theorem foldO_done {L S : List Nd} {T : TypeId} {B : Nat} {v : Value} {w w' : World} (hs : Srt idA L S) (ht : totB L = true) (hi : ∀ n ∈ S.take S.length, 1 ≤ n.1) (hown : OwnNd T w' B v (foldN (S.take S.length))) (hB : w.heap.size ≤ B) (hb : Below w.heap.size w w') :
    FoldOwn T L w (.returned (.tuple #[v, .bool true])) w' := by
  rw [List.take_of_length_le (Nat.le_refl _)] at hi hown
  have hf := own_low hown hB
  obtain ⟨A, c, rfl, _⟩ := ownNd_nodes hown
  exact .inr ⟨foldC_iff.2 ⟨totC_iff.1 ht, fun n hn => hi n (hs.mem.2 hn)⟩, _, A, c, rfl, ⟨S, hs, rfl⟩, hf, hb⟩
theorem foldO_is_yes {T : TypeId} {L : List Nd} {w w' : World} {e : Ending} (h : foldB L = true) (q : FoldOwn T L w e w') : ∃ F A c, e = .returned (.tuple #[.slice A (List.length F) c, .bool true]) ∧ FoldOf L F ∧ OwnNd T w' w.heap.size (.slice A F.length c) F ∧ Below w.heap.size w w' := by
  rcases q with ⟨g, _⟩ | ⟨_, a⟩
  · rw [h] at g; simp at g
  · exact a
theorem nods_set (P : List Nd) (y : Nd) (z : Int) : (nods (P ++ [y])).set (P.length * 2 + 1) (.int .i64 z) = nods (P ++ [(y.1, z)]) := by
  rw [nods_app, nods_app, List.set_append_right _ _ (by rw [nods_len]; omega), nods_len]
  have e : P.length * 2 + 1 - P.length * 2 = 1 := by omega
  rw [e]
  rfl
/-- the last weight, stored anew -/
theorem own_add {T : TypeId} {w : World} {B g cap n : Nat} {P : List Nd} {y : Nd} (h : w.ownsRow B T 2 (.slice (some ⟨g, 0, none⟩) n cap) n (nods (P ++ [y]))) (hn : n = P.length + 1) (z : Int) :
    OwnNd T (w.setCell ⟨g, P.length * 2 + 1, none⟩ (.int .i64 z)) B (.slice (some ⟨g, 0, none⟩) n cap) (P ++ [(y.1, z)]) ∧ w.grownBy (w.setCell ⟨g, P.length * 2 + 1, none⟩ (.int .i64 z)) (some g) := by
  have q := World.ownsRow.stored h (P.length * 2 + 1) (.int .i64 z)
  refine ⟨?_, q.2⟩
  have a := q.1
  rw [nods_set] at a
  unfold OwnNd
  have e : (P ++ [(y.1, z)]).length = n := by simp [hn]
  rw [e]
  exact a

end Go.Proofs.Ytafkkhjhdfmhpaa
