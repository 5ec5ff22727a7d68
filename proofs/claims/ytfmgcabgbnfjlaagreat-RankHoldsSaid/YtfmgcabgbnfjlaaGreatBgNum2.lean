/- Plain facts on a value put into a rising list, read from its first one on; two readings of what is told. No program is spoken of here. -/
import Derived.Test.YtfmgcabgbnfjlaaGreatBgNum
namespace Go.Proofs.YtfmgcabgbnfjlaaGreat
set_option linter.unusedVariables false

theorem ins_all : ∀ (L : List Nd) (x c : Int), (∀ n ∈ L, n.1 < x) → insW L x c = L ++ [(x, c)] := by
  intro L
  induction L with
  | nil => intro x c _; rfl
  | cons n L ih =>
    intro x c h
    have := h n (by simp)
    unfold insW
    rw [if_neg (by omega), if_neg (by omega), ih x c fun m hm => h m (by simp [hm])]; rfl
theorem ins_same : ∀ (P : List Nd) (n : Nd) (x c : Int), (∀ m ∈ P, m.1 < x) → n.1 = x → insW (P ++ [n]) x c = P ++ [(n.1, n.2 + c)] := by
  intro P
  induction P with
  | nil => intro n x c _ h; simp [insW, h]
  | cons m P ih =>
    intro n x c h e
    have := h m (by simp)
    rw [List.cons_append, insW, if_neg (by omega), if_neg (by omega), ih n x c (fun q hq => h q (by simp [hq])) e]; rfl
theorem ins_ahead : ∀ (P : List Nd) (n : Nd) (x c : Int), (∀ m ∈ P, m.1 < x) → x < n.1 → insW (P ++ [n]) x c = P ++ [(x, c)] ++ [n] := by
  intro P
  induction P with
  | nil => intro n x c _ h; simp [insW, h]
  | cons m P ih =>
    intro n x c h e
    have := h m (by simp)
    rw [List.cons_append, insW, if_neg (by omega), if_neg (by omega), ih n x c (fun q hq => h q (by simp [hq])) e]; rfl
theorem ins_done : ∀ (P : List Nd) (n : Nd) (x c : Int), (∃ m ∈ P, x ≤ m.1) → insW (P ++ [n]) x c = insW P x c ++ [n] := by
  intro P
  induction P with
  | nil => intro n x c ⟨m, h, _⟩; simp at h
  | cons m P ih =>
    intro n x c ⟨q, hq, e⟩
    rw [List.cons_append, insW, insW]
    by_cases h1 : x < m.1
    · rw [if_pos h1, if_pos h1]; rfl
    · rw [if_neg h1, if_neg h1]
      by_cases h2 : m.1 = x
      · rw [if_pos h2, if_pos h2]; rfl
      · rw [if_neg h2, if_neg h2, ih n x c]; rfl
        rcases List.mem_cons.1 hq with rfl | hq
        · omega
        · exact ⟨q, hq, e⟩
/-- what the walk over the list has put out -/
def PutI (L : List Nd) (x c : Int) (k : Nat) (d : Bool) (R : List Nd) : Prop := (d = false ∧ R = L.take k ∧ ∀ n ∈ L.take k, n.1 < x) ∨ (d = true ∧ R = insW (L.take k) x c ∧ ∃ n ∈ L.take k, x ≤ n.1)
theorem putI_zero (L : List Nd) (x c : Int) : PutI L x c 0 false [] := .inl ⟨rfl, rfl, fun n h => by simp at h⟩
theorem PutI.len {L R : List Nd} {x c : Int} {k : Nat} {d : Bool} (h : PutI L x c k d R) : R.length ≤ k + 1 := by
  rcases h with ⟨_, rfl, _⟩ | ⟨_, rfl, _⟩
  · rw [List.length_take]; omega
  · have := insW_le (L.take k) x c; rw [List.length_take] at this; omega
/-- a value that is the one -/
theorem PutI.same {L R : List Nd} {x c : Int} {k : Nat} {d : Bool} (g : Good L) (hk : k < L.length) (h : PutI L x c k d R) (e : (L.getD k nz).1 = x) : PutI L x c (k + 1) true (R ++ [((L.getD k nz).1, (L.getD k nz).2 + c)]) := by
  rcases h with ⟨_, rfl, h⟩ | ⟨_, _, n, hn, hx⟩
  · exact .inr ⟨rfl, by rw [nd_take hk, ins_same _ _ _ _ h e], L.getD k nz, by rw [nd_take hk]; exact List.mem_append_right _ (List.mem_singleton.2 rfl), by omega⟩
  · exfalso
    obtain ⟨j, hj, e2⟩ := List.mem_iff_getElem.1 hn
    rw [List.length_take] at hj
    have a := good_get g (i := j) (j := k) (by omega) hk
    have b : L.getD j nz = n := by
      rw [← e2, List.getElem_take, List.getD_eq_getElem?_getD, List.getElem?_eq_getElem (by omega)]; rfl
    rw [b] at a
    omega
theorem PutI.ahead {L R : List Nd} {x c : Int} {k : Nat} (hk : k < L.length) (h : PutI L x c k false R) (e : x < (L.getD k nz).1) : PutI L x c (k + 1) true (R ++ [(x, c)] ++ [L.getD k nz]) := by
  rcases h with ⟨_, rfl, h⟩ | ⟨q, _⟩
  · exact .inr ⟨rfl, by rw [nd_take hk, ins_ahead _ _ _ _ h e], L.getD k nz, by rw [nd_take hk]; exact List.mem_append_right _ (List.mem_singleton.2 rfl), by omega⟩
  · cases q
theorem PutI.done {L R : List Nd} {x c : Int} {k : Nat} (hk : k < L.length) (h : PutI L x c k true R) : PutI L x c (k + 1) true (R ++ [L.getD k nz]) := by
  rcases h with ⟨q, _⟩ | ⟨_, rfl, n, hn, hx⟩
  · cases q
  · exact .inr ⟨rfl, by rw [nd_take hk, ins_done _ _ _ _ ⟨n, hn, hx⟩], n, by rw [nd_take hk]; simp [hn], hx⟩
theorem PutI.before {L R : List Nd} {x c : Int} {k : Nat} {d : Bool} (g : Good L) (hk : k < L.length) (h : PutI L x c k d R) (e : (L.getD k nz).1 < x) : d = false ∧ PutI L x c (k + 1) false (R ++ [L.getD k nz]) := by
  rcases h with ⟨rfl, rfl, h⟩ | ⟨_, _, n, hn, hx⟩
  · refine ⟨rfl, .inl ⟨rfl, by rw [nd_take hk], fun n hn => ?_⟩⟩
    rw [nd_take hk] at hn
    rcases List.mem_append.1 hn with hn | hn
    · exact h n hn
    · simp at hn; rw [hn]; exact e
  · exfalso
    obtain ⟨j, hj, e2⟩ := List.mem_iff_getElem.1 hn
    rw [List.length_take] at hj
    have a := good_get g (i := j) (j := k) (by omega) hk
    have b : L.getD j nz = n := by
      rw [← e2, List.getElem_take, List.getD_eq_getElem?_getD, List.getElem?_eq_getElem (by omega)]; rfl
    rw [b] at a
    omega
theorem PutI.fin {L R : List Nd} {x c : Int} {k : Nat} {d : Bool} (hk : L.length ≤ k) (h : PutI L x c k d R) : if d then R = insW L x c else R ++ [(x, c)] = insW L x c := by
  rw [PutI, List.take_of_length_le hk] at h
  rcases h with ⟨rfl, rfl, h⟩ | ⟨rfl, rfl, _⟩
  · exact (ins_all _ x c h).symm
  · rfl

end Go.Proofs.YtfmgcabgbnfjlaaGreat
