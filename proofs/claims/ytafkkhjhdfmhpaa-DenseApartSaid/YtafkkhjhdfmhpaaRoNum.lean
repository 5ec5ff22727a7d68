/- Plain facts on rolls: what it means that a list of nodes is a roll of a universe; two lists of nodes held against each other. No program is spoken of here. -/
import Derived.Test.YtafkkhjhdfmhpaaTwNum
import Derived.Test.YtafkkhjhdfmhpaaNdNum
namespace Go.Proofs.Ytafkkhjhdfmhpaa
set_option linter.unusedVariables false

theorem right_one (l : Int) : rightB l 1 = uniB l := by
  have h : logN 1 = 0 := (dep_is (id := 1) (k := 0) ⟨by decide, by decide⟩ (by omega)).1
  unfold rightB uniB RightC
  exact decide_eq_decide.2 (by rw [h]; omega)
/-- the Id that stands ahead of place k; 0 at the first -/
def lastN (L : List Nd) : Nat → Int
  | 0 => 0
  | k + 1 => (L.getD k nz).1
def RollC (l : Int) (L : List Nd) : Prop := uniB l = true ∧ L.Pairwise (fun a b => a.1 < b.1) ∧ (∀ n ∈ L, rightB l n.1 = true ∧ 1 ≤ n.2) ∧ TotC L
instance (l : Int) (L : List Nd) : Decidable (RollC l L) := inferInstanceAs (Decidable (_ ∧ _ ∧ _ ∧ _))
def rollB (l : Int) (L : List Nd) : Bool := decide (RollC l L)
theorem roll_yes {l : Int} {L : List Nd} (h : RollC l L) : rollB l L = true := decide_eq_true h
theorem roll_no {l : Int} {L : List Nd} (h : ¬ RollC l L) : rollB l L = false := decide_eq_false h
theorem roll_iff {l : Int} {L : List Nd} : rollB l L = true ↔ RollC l L := by simp [rollB]
/-- so far it is one -/
structure RInv (l : Int) (L : List Nd) (k : Nat) : Prop where
  ids : (L.take k).Pairwise (fun a b => a.1 < b.1)
  each : ∀ n ∈ L.take k, rightB l n.1 = true ∧ 1 ≤ n.2
  last : ∀ n ∈ L.take k, n.1 ≤ lastN L k
theorem rinv_zero (l : Int) (L : List Nd) : RInv l L 0 := ⟨List.Pairwise.nil, fun n h => by simp at h, fun n h => by simp at h⟩
theorem right_pos {l id : Int} (h : rightB l id = true) : 1 ≤ id := by
  have := of_decide_eq_true h
  exact this.2.2.1
theorem rinv_step {l : Int} {L : List Nd} {k : Nat} (hk : k < L.length) (h : RInv l L k) (h0 : lastN L k < (L.getD k nz).1) (h1 : 1 ≤ (L.getD k nz).2) (h2 : rightB l (L.getD k nz).1 = true) : RInv l L (k + 1) := by
  refine ⟨?_, fun n hn => ?_, fun n hn => ?_⟩
  · rw [nd_take hk]
    refine List.pairwise_append.2 ⟨h.ids, List.pairwise_singleton _ _, fun p hp q hq => ?_⟩
    have := h.last p hp
    simp only [List.mem_singleton] at hq
    subst hq
    omega
  · rw [nd_take hk] at hn
    rcases List.mem_append.1 hn with hn | hn
    · exact h.each n hn
    · simp only [List.mem_singleton] at hn; subst hn; exact ⟨h2, h1⟩
  · rw [nd_take hk] at hn
    show n.1 ≤ (L.getD k nz).1
    rcases List.mem_append.1 hn with hn | hn
    · have := h.last n hn; omega
    · simp only [List.mem_singleton] at hn; subst hn; omega
theorem rinv_stop {l : Int} {L : List Nd} {k : Nat} (hk : k < L.length) (h : (L.getD k nz).1 ≤ lastN L k ∨ (L.getD k nz).2 < 1 ∨ rightB l (L.getD k nz).1 = false) : ¬ RollC l L := by
  rintro ⟨_, h1, h2, _⟩
  have hm := h2 _ (nd_mem hk)
  rcases h with h | h | h
  · cases k with
    | zero => have := right_pos hm.1; simp only [lastN] at h; omega
    | succ j =>
      have e := List.take_append_drop (j + 1) L
      rw [← e] at h1
      have := (List.pairwise_append.1 h1).2.2 (L.getD j nz) (by rw [nd_take (by omega)]; simp) (L.getD (j + 1) nz) (by rw [nd_drop hk]; simp)
      simp only [lastN] at h; omega
  · omega
  · rw [hm.1] at h; simp at h
theorem rinv_end {l : Int} {L : List Nd} (h : RInv l L L.length) (hu : uniB l = true) (ht : totB L = true) : RollC l L := by
  obtain ⟨a, b, _⟩ := h
  rw [List.take_of_length_le (Nat.le_refl _)] at a b
  exact ⟨hu, a, b, totC_iff.1 ht⟩
theorem roll_ends {l : Int} {L : List Nd} (h : RInv l L L.length) (a b : Bool) (ha : a = totB L) (hb : b = uniB l) : rollB l L = (a && b) := by
  subst ha hb
  cases ht : totB L
  · exact roll_no fun q => by have := totC_iff.2 q.2.2.2; rw [ht] at this; simp at this
  · cases hu : uniB l
    · exact roll_no fun q => by have := q.1; rw [hu] at this; simp at this
    · exact roll_yes (rinv_end h hu ht)
/-- a folded list of nodes is a roll -/
theorem good_roll {l : Int} {F : List Nd} (h : Good F) (ht : TotC F) : RollC l F ↔ (uniB l = true ∧ ∀ n ∈ F, rightB l n.1 = true) :=
  ⟨fun q => ⟨q.1, fun n hn => (q.2.2.1 n hn).1⟩, fun q => ⟨q.1, h.ids, fun n hn => ⟨q.2 n hn, h.pos n hn⟩, ht⟩⟩

/-! ### two lists -/
def sameB (L M : List Nd) : Bool := decide (L = M)
theorem same_self (L : List Nd) : sameB L L = true := decide_eq_true rfl
theorem same_yes {L M : List Nd} (h : L = M) : sameB L M = true := decide_eq_true h
theorem same_no {L M : List Nd} (h : ¬ L = M) : sameB L M = false := decide_eq_false h
theorem same_len {L M : List Nd} (h : ¬ L.length = M.length) : sameB L M = false := same_no fun q => h (by rw [q])
theorem same_at {L M : List Nd} {k : Nat} (h : ¬ L.getD k nz = M.getD k nz) : sameB L M = false := same_no fun q => h (by rw [q])
theorem same_step {L M : List Nd} {k : Nat} (hL : k < L.length) (hM : k < M.length) (h : L.take k = M.take k) (e : L.getD k nz = M.getD k nz) : L.take (k + 1) = M.take (k + 1) := by
  rw [nd_take hL, nd_take hM, h, e]
theorem same_end {L M : List Nd} (hl : L.length = M.length) (h : L.take L.length = M.take L.length) : sameB L M = true := by
  rw [List.take_of_length_le (Nat.le_refl _)] at h
  rw [hl, List.take_of_length_le (Nat.le_refl _)] at h
  exact same_yes h

end Go.Proofs.Ytafkkhjhdfmhpaa
