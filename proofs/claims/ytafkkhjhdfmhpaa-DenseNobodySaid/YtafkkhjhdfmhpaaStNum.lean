/- Plain facts on stores of nodes: a list by rising Ids into which a weight is put, and out of which a node is taken; what each call tells; the same as a table with a place for each node. No program is spoken of here. -/
import Derived.Test.YtafkkhjhdfmhpaaRoNum
namespace Go.Proofs.Ytafkkhjhdfmhpaa
set_option linter.unusedVariables false

/-! ### one more weight at a node -/
def insW : List Nd → Int → Int → List Nd
  | [], id, c => [(id, c)]
  | n :: L, id, c => if id < n.1 then (id, c) :: n :: L else if n.1 = id then (n.1, n.2 + c) :: L else n :: insW L id c
theorem insW_mem {L : List Nd} {id c : Int} {m : Nd} (h : m ∈ insW L id c) : m.1 = id ∨ ∃ n ∈ L, n.1 = m.1 := by
  induction L with
  | nil => simp [insW] at h; subst h; exact .inl rfl
  | cons n L ih =>
    unfold insW at h
    split at h
    · rcases List.mem_cons.1 h with rfl | h
      · exact .inl rfl
      · exact .inr ⟨m, h, rfl⟩
    · split at h
      · rcases List.mem_cons.1 h with rfl | h
        · exact .inr ⟨n, by simp, rfl⟩
        · exact .inr ⟨m, by simp [h], rfl⟩
      · rcases List.mem_cons.1 h with rfl | h
        · exact .inr ⟨m, by simp, rfl⟩
        · rcases ih h with e | ⟨q, hq, e⟩
          · exact .inl e
          · exact .inr ⟨q, by simp [hq], e⟩
theorem insW_good {L : List Nd} {id c : Int} (h : Good L) (hc : 1 ≤ c) : Good (insW L id c) := by
  induction L with
  | nil => exact ⟨List.pairwise_singleton _ _, fun n hn => by simp [insW] at hn; subst hn; exact hc⟩
  | cons n L ih =>
    obtain ⟨h1, h2⟩ := List.pairwise_cons.1 h.ids
    have g : Good L := ⟨h2, fun m hm => h.pos m (by simp [hm])⟩
    have hn := h.pos n (by simp)
    unfold insW
    split
    · rename_i q
      refine ⟨List.pairwise_cons.2 ⟨fun m hm => ?_, h.ids⟩, fun m hm => ?_⟩
      · rcases List.mem_cons.1 hm with rfl | hm
        · exact q
        · have := h1 m hm; show id < m.1; omega
      · rcases List.mem_cons.1 hm with rfl | hm
        · exact hc
        · exact h.pos m hm
    · split
      · refine ⟨List.pairwise_cons.2 ⟨h1, h2⟩, fun m hm => ?_⟩
        rcases List.mem_cons.1 hm with rfl | hm
        · show 1 ≤ n.2 + c; omega
        · exact g.pos m hm
      · refine ⟨List.pairwise_cons.2 ⟨fun m hm => ?_, (ih g).ids⟩, fun m hm => ?_⟩
        · rcases insW_mem hm with e | ⟨q, hq, e⟩
          · omega
          · have := h1 q hq; omega
        · rcases List.mem_cons.1 hm with rfl | hm
          · exact hn
          · exact (ih g).pos m hm
theorem insW_sum (i : Int) (L : List Nd) (id c : Int) : sumAt i (insW L id c) = sumAt i L + (if id = i then c else 0) := by
  induction L with
  | nil => simp [insW, sumAt]
  | cons n L ih =>
    unfold insW
    split
    · simp only [sumAt]; omega
    · split
      · rename_i q
        simp only [sumAt, q]
        split <;> omega
      · simp only [sumAt, ih]; omega
theorem insW_tot (L : List Nd) (id c : Int) : sumC (insW L id c) = sumC L + c := by
  induction L with
  | nil => simp [insW, sumC]
  | cons n L ih =>
    unfold insW
    split
    · simp only [sumC]; omega
    · split
      · simp only [sumC]; omega
      · simp only [sumC, ih]; omega
theorem nd_tail {n : Nd} {L : List Nd} (h : Good (n :: L)) : Good L := ⟨(List.pairwise_cons.1 h.ids).2, fun m hm => h.pos m (by simp [hm])⟩
theorem good_none {L : List Nd} {id : Int} (h : ∀ n ∈ L, id < n.1) : sumAt id L = 0 := sumAt_none fun n hn => by have := h n hn; omega
theorem insW_len {L : List Nd} {id c : Int} (h : Good L) : (insW L id c).length = if sumAt id L = 0 then L.length + 1 else L.length := by
  induction L with
  | nil => simp [insW, sumAt]
  | cons n L ih =>
    have g := nd_tail h
    have p := h.pos n (by simp)
    have q0 := (List.pairwise_cons.1 h.ids).1
    unfold insW
    split
    · rename_i q
      rw [if_pos (by rw [sumAt, if_neg (by omega), good_none fun m hm => by have := q0 m hm; omega]; rfl)]; rfl
    · split
      · rename_i q
        have := good_sum_pos g (id := id)
        rw [if_neg (by rw [sumAt, if_pos q]; omega)]; rfl
      · rename_i q
        rw [sumAt, if_neg q, List.length_cons, ih g, List.length_cons]
        have e : (0 : Int) + sumAt id L = sumAt id L := by omega
        rw [e]; split <;> rfl
def addW (L : List Nd) (id c : Int) : List Nd := if c = 0 then L else insW L id c
theorem addW_sum (i : Int) (L : List Nd) (id c : Int) : sumAt i (addW L id c) = sumAt i L + (if id = i then c else 0) := by
  unfold addW
  split
  · rename_i h; subst h; simp
  · exact insW_sum i L id c
theorem addW_good {L : List Nd} {id c : Int} (h : Good L) (hc : 0 ≤ c) : Good (addW L id c) := by
  unfold addW
  split
  · exact h
  · exact insW_good h (by omega)
theorem addW_tot (L : List Nd) (id c : Int) : sumC (addW L id c) = sumC L + c := by
  unfold addW
  split
  · omega
  · exact insW_tot L id c
theorem addW_mem {L : List Nd} {id c : Int} {m : Nd} (h : m ∈ addW L id c) : m.1 = id ∨ ∃ n ∈ L, n.1 = m.1 := by
  unfold addW at h
  split at h
  · exact .inr ⟨m, h, rfl⟩
  · exact insW_mem h
theorem addW_len {L : List Nd} {id c : Int} (h : Good L) (hc : 0 ≤ c) : ((addW L id c).length : Int) = (L.length : Int) + (if sumAt id L = 0 ∧ 0 < c then 1 else 0) := by
  unfold addW
  split
  · rename_i e; subst e; simp
  · rw [insW_len h]
    by_cases q : sumAt id L = 0
    · rw [if_pos q, if_pos ⟨q, by omega⟩]; simp
    · rw [if_neg q, if_neg (fun g => q g.1)]; simp
theorem good_nonneg {L : List Nd} (h : Good L) : NonNeg L := fun n hn => by have := h.pos n hn; omega
/-- the list with one more, folded -/
theorem fold_addW {L F : List Nd} {id c : Int} (h : Good L) (hc : 0 ≤ c) (f : FoldOf (L ++ [(id, c)]) F) : F = addW L id c := by
  have hN : NonNeg (L ++ [(id, c)]) := fun n hn => by
    rcases List.mem_append.1 hn with hn | hn
    · exact good_nonneg h n hn
    · simp at hn; subst hn; exact hc
  have i := f.inv hN
  refine good_uniq F _ i.good (addW_good h hc) fun j => ?_
  rw [i.at_, sumAt_app, addW_sum]
  simp [sumAt]

/-! ### a node taken away -/
def remW (L : List Nd) (id : Int) : List Nd := L.filter fun n => !(n.1 == id)
theorem rem_mem {L : List Nd} {id : Int} {m : Nd} (h : m ∈ remW L id) : m ∈ L := (List.mem_filter.1 h).1
theorem rem_good {L : List Nd} {id : Int} (h : Good L) : Good (remW L id) := ⟨h.ids.sublist List.filter_sublist, fun n hn => h.pos n (rem_mem hn)⟩
theorem rem_cons (n : Nd) (L : List Nd) (id : Int) : remW (n :: L) id = if n.1 = id then remW L id else n :: remW L id := by
  unfold remW
  by_cases q : n.1 = id
  · rw [if_pos q, List.filter_cons_of_neg (by simp [q])]
  · rw [if_neg q, List.filter_cons_of_pos (by simp [q])]
theorem rem_sum (i : Int) (L : List Nd) (id : Int) : sumAt i (remW L id) = if id = i then 0 else sumAt i L := by
  induction L with
  | nil => simp [remW, sumAt]
  | cons n L ih =>
    rw [rem_cons]
    by_cases q : n.1 = id
    · rw [if_pos q, ih, sumAt, q]
      by_cases e : id = i
      · simp [e]
      · simp [e]
    · rw [if_neg q, sumAt, ih, sumAt]
      by_cases e : id = i
      · rw [if_pos e, if_pos e, if_neg (by omega)]; rfl
      · simp [e]
theorem rem_tot (L : List Nd) (id : Int) : sumC (remW L id) = sumC L - sumAt id L := by
  induction L with
  | nil => simp [remW, sumC, sumAt]
  | cons n L ih =>
    rw [rem_cons]
    by_cases q : n.1 = id
    · rw [if_pos q, ih, sumC, sumAt, if_pos q]; omega
    · rw [if_neg q, sumC, ih, sumC, sumAt, if_neg q]; omega
theorem rem_none {L : List Nd} {id : Int} (h : ∀ n ∈ L, n.1 ≠ id) : remW L id = L := by
  unfold remW
  rw [List.filter_eq_self]
  intro n hn
  simp [h n hn]
theorem rem_len {L : List Nd} {id : Int} (h : Good L) : ((remW L id).length : Int) = (L.length : Int) - (if sumAt id L = 0 then 0 else 1) := by
  induction L with
  | nil => simp [remW, sumAt]
  | cons n L ih =>
    have g := nd_tail h
    have p := h.pos n (by simp)
    have q0 := (List.pairwise_cons.1 h.ids).1
    rw [rem_cons]
    by_cases q : n.1 = id
    · have := good_sum_pos g (id := id)
      rw [if_pos q, rem_none fun m hm => by have := q0 m hm; omega, sumAt, if_pos q, if_neg (by omega), List.length_cons]; omega
    · rw [if_neg q, List.length_cons, sumAt, if_neg q, List.length_cons]
      have := ih g
      have e : (0 : Int) + sumAt id L = sumAt id L := by omega
      rw [e]; omega
theorem rem_zero {L : List Nd} {id : Int} (h : Good L) (h0 : sumAt id L = 0) : remW L id = L := by
  refine good_uniq _ _ (rem_good h) h fun i => ?_
  rw [rem_sum]
  split
  · rename_i e; subst e; exact h0.symm
  · rfl
theorem rem_step {L : List Nd} {k : Nat} {id : Int} (hk : k < L.length) : remW (L.take (k + 1)) id = if (L.getD k nz).1 = id then remW (L.take k) id else remW (L.take k) id ++ [L.getD k nz] := by
  rw [nd_take hk]
  unfold remW
  rw [List.filter_append]
  generalize L.getD k nz = r
  by_cases q : r.1 = id
  · rw [if_pos q, List.filter_cons_of_neg (by simp [q])]; simp
  · rw [if_neg q, List.filter_cons_of_pos (by simp [q])]; simp
theorem rem_le (L : List Nd) (id : Int) : (remW L id).length ≤ L.length := List.length_filter_le _ _
/-- of a list in order a node's weight is the sum of all at it -/
theorem find_sum {L : List Nd} (h : Good L) (id : Int) : findN L id = sumAt id L := by
  induction L with
  | nil => rfl
  | cons n L ih =>
    have q0 := (List.pairwise_cons.1 h.ids).1
    rw [findN, sumAt]
    by_cases q : n.1 = id
    · rw [if_pos q, if_pos q, sumAt_none fun m hm => by have := q0 m hm; omega]; omega
    · rw [if_neg q, if_neg q, ih (nd_tail h)]; omega
theorem sum_le {L : List Nd} (h : NonNeg L) (id : Int) : 0 ≤ sumAt id L ∧ sumAt id L ≤ sumC L := by
  induction L with
  | nil => simp [sumAt, sumC]
  | cons n L ih =>
    have := ih fun m hm => h m (by simp [hm])
    have := h n (by simp)
    simp only [sumAt, sumC]
    split <;> omega

/-! ### stores -/
theorem len_aux : ∀ (f k x : Nat), k < f → 2 ^ k ≤ x → k + 1 ≤ Lib.bitLenAux f x := by
  intro f
  induction f with
  | zero => intro k x h; omega
  | succ f ih =>
    intro k x h hx
    have h0 : 0 < 2 ^ k := Nat.two_pow_pos k
    unfold Lib.bitLenAux
    rw [if_neg (by omega)]
    cases k with
    | zero => omega
    | succ k =>
      have := ih k (x / 2) (by omega) (by rw [Nat.le_div_iff_mul_le (by omega)]; rw [Nat.pow_succ] at hx; exact hx)
      omega
theorem right_max {l id : Int} (h : rightB l id = true) : id ≤ 9223372036854775807 := by
  have hc : RightC l id := of_decide_eq_true h
  obtain ⟨a, b, c, d⟩ := hc
  rcases Int.lt_or_le 9223372036854775807 id with q | q
  · exfalso
    have e := (log_yes c).1
    have := len_aux 64 63 id.toNat (by omega) (by omega)
    have e2 : Lib.bitLen id.toNat = Lib.bitLenAux 64 id.toNat := rfl
    omega
  · exact q
theorem roll_good {l : Int} {L : List Nd} (h : RollC l L) : Good L := ⟨h.2.1, fun n hn => (h.2.2.1 n hn).2⟩
theorem roll_nil {l : Int} (h : uniB l = true) : RollC l [] := ⟨h, List.Pairwise.nil, fun n h => by simp at h, fun n h => by simp at h, by simp [sumC]⟩
theorem roll_add {l : Int} {L : List Nd} {id c : Int} (h : RollC l L) (hid : rightB l id = true) (hc : 0 ≤ c) (ht : sumC L + c ≤ 72057594037927935) : RollC l (addW L id c) := by
  have g := addW_good (id := id) (roll_good h) hc
  refine ⟨h.1, g.ids, fun n hn => ⟨?_, g.pos n hn⟩, good_nonneg g, by rw [addW_tot]; exact ht⟩
  rcases addW_mem hn with e | ⟨m, hm, e⟩
  · rw [e]; exact hid
  · rw [← e]; exact (h.2.2.1 m hm).1
theorem roll_rem {l : Int} {L : List Nd} {id : Int} (h : RollC l L) : RollC l (remW L id) := by
  have g := rem_good (id := id) (roll_good h)
  have := (sum_le h.2.2.2.1 id).1
  have := h.2.2.2.2
  exact ⟨h.1, g.ids, fun n hn => h.2.2.1 n (rem_mem hn), good_nonneg g, by rw [rem_tot]; omega⟩
theorem sumC_mem {L : List Nd} (h : NonNeg L) {n : Nd} (hn : n ∈ L) : n.2 ≤ sumC L := by
  induction L with
  | nil => simp at hn
  | cons m L ih =>
    have h0 := sumC_nonneg (L := L) fun x hx => h x (by simp [hx])
    have h1 := h m (by simp)
    rcases List.mem_cons.1 hn with rfl | hn
    · simp only [sumC]; omega
    · have := ih (fun x hx => h x (by simp [hx])) hn
      simp only [sumC]; omega
/-- what Add tells -/
def AddC (l : Int) (L : List Nd) (id c : Int) : Prop := rightB l id = true ∧ 0 ≤ c ∧ sumC L + c ≤ 72057594037927935
instance (l : Int) (L : List Nd) (id c : Int) : Decidable (AddC l L id c) := inferInstanceAs (Decidable (_ ∧ _))
def addE (l : Int) (L : List Nd) (id c : Int) : Int := if rightB l id = false ∨ c < 0 then 2 else if 72057594037927935 < sumC L + c then 5 else 0
def addS (l : Int) (L : List Nd) (id c : Int) : List Nd := if rightB l id = false ∨ c < 0 then L else if 72057594037927935 < sumC L + c then L else addW L id c
theorem add_arg {l : Int} {L : List Nd} {id c : Int} (h : rightB l id = false ∨ c < 0) : addE l L id c = 2 ∧ addS l L id c = L := ⟨if_pos h, if_pos h⟩
theorem add_full {l : Int} {L : List Nd} {id c : Int} (h1 : rightB l id = true) (h2 : ¬ c < 0) (h : 72057594037927935 < sumC L + c) : addE l L id c = 5 ∧ addS l L id c = L := by
  have q : ¬ (rightB l id = false ∨ c < 0) := by rintro (g | g); rw [h1] at g; simp at g; exact h2 g
  exact ⟨by rw [addE, if_neg q, if_pos h], by rw [addS, if_neg q, if_pos h]⟩
theorem add_ok {l : Int} {L : List Nd} {id c : Int} (h1 : rightB l id = true) (h2 : ¬ c < 0) (h : ¬ 72057594037927935 < sumC L + c) : addE l L id c = 0 ∧ addS l L id c = addW L id c := by
  have q : ¬ (rightB l id = false ∨ c < 0) := by rintro (g | g); rw [h1] at g; simp at g; exact h2 g
  exact ⟨by rw [addE, if_neg q, if_neg h], by rw [addS, if_neg q, if_neg h]⟩
theorem roll_addS {l : Int} {L : List Nd} {id c : Int} (h : RollC l L) : RollC l (addS l L id c) := by
  by_cases h1 : rightB l id = false ∨ c < 0
  · rw [(add_arg h1).2]; exact h
  · have a : rightB l id = true := by cases q : rightB l id <;> simp [q] at h1 ⊢
    have b : ¬ c < 0 := fun g => h1 (.inr g)
    by_cases h2 : 72057594037927935 < sumC L + c
    · rw [(add_full a b h2).2]; exact h
    · rw [(add_ok a b h2).2]; exact roll_add h a (by omega) (by omega)
theorem addS_len {l : Int} {L : List Nd} {id c : Int} (h : RollC l L) : (addS l L id c).length ≤ L.length + 1 := by
  by_cases h1 : rightB l id = false ∨ c < 0
  · rw [(add_arg h1).2]; omega
  · have a : rightB l id = true := by cases q : rightB l id <;> simp [q] at h1 ⊢
    have b : ¬ c < 0 := fun g => h1 (.inr g)
    by_cases h2 : 72057594037927935 < sumC L + c
    · rw [(add_full a b h2).2]; omega
    · rw [(add_ok a b h2).2]
      have := addW_len (id := id) (roll_good h) (show 0 ≤ c by omega)
      split at this <;> omega
/-- a call: Add, Take, or Get -/
def doW (l : Int) (L : List Nd) (k id c : Int) : List Nd := if k = 0 then addS l L id c else if k = 1 then remW L id else L
def doN (l : Int) (L : List Nd) (k id c : Int) : Int := if k = 0 then addE l L id c else findN L id
theorem do_zero {l : Int} {L : List Nd} {k id c : Int} (h : k = 0) : doW l L k id c = addS l L id c ∧ doN l L k id c = addE l L id c := ⟨if_pos h, if_pos h⟩
theorem do_one {l : Int} {L : List Nd} {k id c : Int} (h0 : ¬ k = 0) (h : k = 1) : doW l L k id c = remW L id ∧ doN l L k id c = findN L id := ⟨by rw [doW, if_neg h0, if_pos h], if_neg h0⟩
theorem do_else {l : Int} {L : List Nd} {k id c : Int} (h0 : ¬ k = 0) (h : ¬ k = 1) : doW l L k id c = L ∧ doN l L k id c = findN L id := ⟨by rw [doW, if_neg h0, if_neg h], if_neg h0⟩
theorem roll_do {l : Int} {L : List Nd} {k id c : Int} (h : RollC l L) : RollC l (doW l L k id c) := by
  by_cases h0 : k = 0
  · rw [(do_zero h0).1]; exact roll_addS h
  · by_cases h1 : k = 1
    · rw [(do_one h0 h1).1]; exact roll_rem h
    · rw [(do_else h0 h1).1]; exact h
theorem do_len {l : Int} {L : List Nd} {k id c : Int} (h : RollC l L) : (doW l L k id c).length ≤ L.length + 1 := by
  by_cases h0 : k = 0
  · rw [(do_zero h0).1]; exact addS_len h
  · by_cases h1 : k = 1
    · rw [(do_one h0 h1).1]; have := rem_le L id; omega
    · rw [(do_else h0 h1).1]; omega

/-! ### a place for each node -/
def plcN (l : Int) : Nat := 2 * 2 ^ l.toNat
theorem plc_bd {l : Int} (h : l ≤ 16) : 2 ≤ plcN l ∧ plcN l ≤ 131072 := by
  unfold plcN
  have h1 : 2 ^ l.toNat ≤ 2 ^ 16 := Nat.pow_le_pow_right (by omega) (by omega)
  have h2 : 0 < 2 ^ l.toNat := Nat.two_pow_pos _
  have e : 2 ^ 16 = 65536 := by decide
  omega
theorem right_plc {l id : Int} (h : rightB l id = true) : 1 ≤ id ∧ id < (plcN l : Int) := by
  have hc : RightC l id := of_decide_eq_true h
  obtain ⟨k, j, e, e2, hkj, h0, hd, _⟩ := right_dep hc (right_max h)
  refine ⟨hc.2.2.1, ?_⟩
  have h2 := hd.2
  have h3 : (2 : Int) ^ k ≤ 2 ^ l.toNat := two_le _ _ (by omega)
  have e3 : ((plcN l : Nat) : Int) = 2 * 2 ^ l.toNat := by unfold plcN; push_cast; rfl
  rw [e3]; omega
def tabW (L : List Nd) (N : Nat) : List Int := (List.range N).map fun k : Nat => sumAt (k : Int) L
theorem tab_len (L : List Nd) (N : Nat) : (tabW L N).length = N := by simp [tabW]
theorem tab_get (L : List Nd) {N k : Nat} (h : k < N) : (tabW L N)[k]? = some (sumAt (k : Int) L) := by simp [tabW, h]
theorem tab_nil (N : Nat) : tabW [] N = List.replicate N 0 := by
  refine List.ext_getElem (by simp [tabW]) fun i h1 h2 => ?_
  simp [tabW, sumAt]
theorem tab_set {L M : List Nd} {N k : Nat} (h : ∀ i : Int, i ≠ (k : Int) → sumAt i M = sumAt i L) : (tabW L N).set k (sumAt (k : Int) M) = tabW M N := by
  refine List.ext_getElem (by simp [tabW]) fun i h1 h2 => ?_
  rw [List.getElem_set]
  simp only [tabW, List.getElem_map, List.getElem_range]
  split
  · rename_i e; subst e; rfl
  · rename_i e; exact (h i (by omega)).symm
/-- what is found at the first k places -/
def snapN (L : List Nd) : Nat → List Nd
  | 0 => []
  | k + 1 => if 0 < sumAt (k : Int) L then snapN L k ++ [((k : Int), sumAt (k : Int) L)] else snapN L k
theorem snap_yes {L : List Nd} {k : Nat} (h : 0 < sumAt (k : Int) L) : snapN L (k + 1) = snapN L k ++ [((k : Int), sumAt (k : Int) L)] := if_pos h
theorem snap_no {L : List Nd} {k : Nat} (h : ¬ 0 < sumAt (k : Int) L) : snapN L (k + 1) = snapN L k := if_neg h
theorem snap_ids (L : List Nd) (k : Nat) : ∀ n ∈ snapN L k, 0 ≤ n.1 ∧ n.1 < (k : Int) := by
  induction k with
  | zero => intro n h; simp [snapN] at h
  | succ k ih =>
    intro n h
    unfold snapN at h
    split at h
    · rcases List.mem_append.1 h with h | h
      · have := ih n h; omega
      · simp at h; subst h; show 0 ≤ (k : Int) ∧ (k : Int) < _; omega
    · have := ih n h; omega
theorem snap_good (L : List Nd) (k : Nat) : Good (snapN L k) := by
  induction k with
  | zero => exact good_nil
  | succ k ih =>
    unfold snapN
    split
    · rename_i q
      refine ⟨List.pairwise_append.2 ⟨ih.ids, List.pairwise_singleton _ _, fun a ha b hb => ?_⟩, fun n hn => ?_⟩
      · simp at hb; subst hb; exact (snap_ids L k a ha).2
      · rcases List.mem_append.1 hn with hn | hn
        · exact ih.pos n hn
        · simp at hn; subst hn; exact q
    · exact ih
theorem snap_len (L : List Nd) (k : Nat) : (snapN L k).length ≤ k := by
  induction k with
  | zero => simp [snapN]
  | succ k ih =>
    unfold snapN
    split
    · rw [List.length_append]; simp; omega
    · omega
theorem snap_sum {L : List Nd} (hL : NonNeg L) (k : Nat) (i : Int) : sumAt i (snapN L k) = if 0 ≤ i ∧ i < (k : Int) then sumAt i L else 0 := by
  induction k with
  | zero => rw [if_neg (by omega)]; rfl
  | succ k ih =>
    unfold snapN
    have := (sum_le hL (k : Int)).1
    split
    · rw [sumAt_app, ih]
      simp only [sumAt]
      by_cases e : (k : Int) = i
      · subst e; rw [if_neg (by omega), if_pos rfl, if_pos (by omega)]; omega
      · rw [if_neg e]
        by_cases q : 0 ≤ i ∧ i < (k : Int)
        · rw [if_pos q, if_pos (by omega)]; omega
        · rw [if_neg q, if_neg (by omega)]; rfl
    · rw [ih]
      by_cases e : (k : Int) = i
      · subst e; rw [if_neg (by omega), if_pos (by omega)]; omega
      · by_cases q : 0 ≤ i ∧ i < (k : Int)
        · rw [if_pos q, if_pos (by omega)]
        · rw [if_neg q, if_neg (by omega)]
theorem snap_all {L : List Nd} {N : Nat} (h : Good L) (hid : ∀ n ∈ L, 0 ≤ n.1 ∧ n.1 < (N : Int)) : snapN L N = L := by
  refine good_uniq _ _ (snap_good L N) h fun i => ?_
  rw [snap_sum (good_nonneg h)]
  split
  · rfl
  · rename_i q
    symm
    refine sumAt_none fun n hn e => ?_
    have := hid n hn
    omega
theorem nbds_roll {l : Int} {L : List Nd} (h : RollC l L) : ∀ n ∈ L, (-9223372036854775808 ≤ n.1 ∧ n.1 ≤ 9223372036854775807) ∧ (-9223372036854775808 ≤ n.2 ∧ n.2 ≤ 9223372036854775807) := by
  intro n hn
  have h1 := h.2.2.1 n hn
  have h2 := right_pos h1.1
  have h3 := right_max h1.1
  have h4 := sumC_mem h.2.2.2.1 hn
  have h5 := h.2.2.2.2
  omega

end Go.Proofs.Ytafkkhjhdfmhpaa
