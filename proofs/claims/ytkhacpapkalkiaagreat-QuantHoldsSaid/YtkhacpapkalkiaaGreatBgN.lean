/- Texts laid together: BgNum, BgNum2. -/
import Derived.Test.YtkhacpapkalkiaaGreatPln
/- Plain facts on bags: lists of values by rising values with their weights above 0; what each call tells of them. No program is spoken of here. -/
namespace Go.Proofs.YtkhacpapkalkiaaGreat
set_option linter.unusedVariables false

/-- the weights of all values from x to y -/
def betN : List Nd → Int → Int → Int
  | [], _, _ => 0
  | n :: L, x, y => (if x ≤ n.1 ∧ n.1 ≤ y then n.2 else 0) + betN L x y
/-- the least value whose rank isn't below r -/
def kthN : List Nd → Int → Int
  | [], _ => 0
  | n :: L, r => if r ≤ n.2 then n.1 else kthN L (r - n.2)
def ltN (L : List Nd) (x : Int) : Nat := L.countP fun n => decide (n.1 < x)
def leN (L : List Nd) (x : Int) : Nat := L.countP fun n => decide (n.1 ≤ x)
structure BagC (l : Int) (L : List Nd) : Prop where
  uni : 1 ≤ l ∧ l ≤ 48
  good : Good L
  val : ∀ n ∈ L, ValC l n.1
  tot : sumC L ≤ 72057594037927935
theorem bag_nil {l : Int} (h : 1 ≤ l ∧ l ≤ 48) : BagC l [] := ⟨h, good_nil, fun n h => by simp at h, by simp [sumC]⟩
/-- what Add tells, and leaves -/
def bagE (l : Int) (L : List Nd) (x c : Int) : Int := if leafB l x = false then 3 else if c < 1 then 4 else if 72057594037927935 < sumC L + c then 5 else 0
def bagS (l : Int) (L : List Nd) (x c : Int) : List Nd := if bagE l L x c = 0 then insW L x c else L
theorem leafB_iff {l x : Int} : leafB l x = true ↔ ValC l x := by
  constructor
  · intro h
    by_cases q : ValC l x
    · exact q
    · rw [(leaf_no q).2] at h; simp at h
  · intro h; exact (leaf_yes h).2
theorem bag_range {l : Int} {L : List Nd} {x c : Int} (h : leafB l x = false) : bagE l L x c = 3 ∧ bagS l L x c = L := by
  have e : bagE l L x c = 3 := if_pos h
  exact ⟨e, by unfold bagS; rw [e]; rfl⟩
theorem bag_zero {l : Int} {L : List Nd} {x c : Int} (h : leafB l x = true) (h1 : c < 1) : bagE l L x c = 4 ∧ bagS l L x c = L := by
  have e : bagE l L x c = 4 := by unfold bagE; rw [if_neg (by simp [h]), if_pos h1]
  exact ⟨e, by unfold bagS; rw [e]; rfl⟩
theorem bag_full {l : Int} {L : List Nd} {x c : Int} (h : leafB l x = true) (h1 : ¬ c < 1) (h2 : 72057594037927935 < sumC L + c) : bagE l L x c = 5 ∧ bagS l L x c = L := by
  have e : bagE l L x c = 5 := by unfold bagE; rw [if_neg (by simp [h]), if_neg h1, if_pos h2]
  exact ⟨e, by unfold bagS; rw [e]; rfl⟩
theorem bag_ok {l : Int} {L : List Nd} {x c : Int} (h : leafB l x = true) (h1 : ¬ c < 1) (h2 : ¬ 72057594037927935 < sumC L + c) : bagE l L x c = 0 ∧ bagS l L x c = insW L x c := by
  have e : bagE l L x c = 0 := by unfold bagE; rw [if_neg (by simp [h]), if_neg h1, if_neg h2]
  exact ⟨e, by unfold bagS; rw [e]; rfl⟩
theorem insW_le (L : List Nd) (x c : Int) : (insW L x c).length ≤ L.length + 1 := by
  induction L with
  | nil => simp [insW]
  | cons n L ih => unfold insW; split; simp; split; simp; simp; omega
theorem BagC.ins {l : Int} {L : List Nd} {x c : Int} (h : BagC l L) (hx : ValC l x) (hc : ¬ c < 1) (ht : ¬ 72057594037927935 < sumC L + c) : BagC l (insW L x c) :=
  ⟨h.uni, insW_good h.good (by omega), fun n hn => by
    rcases insW_mem hn with e | ⟨m, hm, e⟩
    · rw [e]; exact hx
    · rw [← e]; exact h.val m hm, by rw [insW_tot]; omega⟩
theorem bag_cases {l : Int} (L : List Nd) (x c : Int) : (leafB l x = false) ∨ (leafB l x = true ∧ c < 1) ∨ (leafB l x = true ∧ ¬ c < 1 ∧ 72057594037927935 < sumC L + c) ∨ (leafB l x = true ∧ ¬ c < 1 ∧ ¬ 72057594037927935 < sumC L + c) := by
  cases leafB l x
  · exact .inl rfl
  · by_cases h1 : c < 1
    · exact .inr (.inl ⟨rfl, h1⟩)
    · by_cases h2 : 72057594037927935 < sumC L + c
      · exact .inr (.inr (.inl ⟨rfl, h1, h2⟩))
      · exact .inr (.inr (.inr ⟨rfl, h1, h2⟩))
theorem BagC.add {l : Int} {L : List Nd} (h : BagC l L) (x c : Int) : BagC l (bagS l L x c) := by
  rcases bag_cases (l := l) L x c with q | ⟨q, q1⟩ | ⟨q, q1, q2⟩ | ⟨q, q1, q2⟩
  · rw [(bag_range q).2]; exact h
  · rw [(bag_zero q q1).2]; exact h
  · rw [(bag_full q q1 q2).2]; exact h
  · rw [(bag_ok q q1 q2).2]; exact h.ins (leafB_iff.1 q) q1 q2
theorem bagS_le (l : Int) (L : List Nd) (x c : Int) : (bagS l L x c).length ≤ L.length + 1 := by
  unfold bagS; split
  · exact insW_le ..
  · omega
theorem valC_bd {l x : Int} (h : ValC l x) : 0 ≤ x ∧ x ≤ 281474976710655 := by
  obtain ⟨h1, h2⟩ := h
  have h3 : (2 : Int) ^ l.toNat ≤ 2 ^ 48 := two_le _ _ (by omega)
  have e : (2 : Int) ^ 48 = 281474976710656 := by decide
  omega
theorem BagC.bds {l : Int} {L : List Nd} (h : BagC l L) : ∀ n ∈ L, (0 ≤ n.1 ∧ n.1 ≤ 281474976710655) ∧ (1 ≤ n.2 ∧ n.2 ≤ 72057594037927935) := fun n hn => by
  have a := valC_bd (h.val n hn)
  have b := h.good.pos n hn
  have c := sumC_mem (good_nonneg h.good) hn
  have d := h.tot
  exact ⟨a, b, by omega⟩
theorem BagC.tot0 {l : Int} {L : List Nd} (h : BagC l L) : 0 ≤ sumC L ∧ sumC L ≤ 72057594037927935 := ⟨sumC_nonneg (good_nonneg h.good), h.tot⟩

/-! ### places -/
theorem good_get {L : List Nd} (h : Good L) {i j : Nat} (hij : i < j) (hj : j < L.length) : (L.getD i nz).1 < (L.getD j nz).1 := by
  have := List.pairwise_iff_getElem.1 h.ids i j (by omega) hj hij
  rw [List.getD_eq_getElem?_getD, List.getD_eq_getElem?_getD, List.getElem?_eq_getElem (by omega), List.getElem?_eq_getElem hj]
  exact this
theorem lt_split : ∀ (L : List Nd) (x : Int), Good L → (∀ n ∈ L.take (ltN L x), n.1 < x) ∧ (∀ n ∈ L.drop (ltN L x), x ≤ n.1) := by
  intro L x
  induction L with
  | nil => intro _; simp
  | cons n L ih =>
    intro h
    have i := ih (nd_tail h)
    have q0 := (List.pairwise_cons.1 h.ids).1
    by_cases q : n.1 < x
    · have e : ltN (n :: L) x = ltN L x + 1 := by unfold ltN; rw [List.countP_cons_of_pos (by simpa using q)]
      rw [e]
      refine ⟨fun m hm => ?_, fun m hm => i.2 m (by simpa using hm)⟩
      rw [List.take_succ_cons] at hm
      rcases List.mem_cons.1 hm with rfl | hm
      · exact q
      · exact i.1 m hm
    · have e : ltN (n :: L) x = 0 := by
        unfold ltN
        rw [List.countP_eq_zero]
        intro m hm
        rcases List.mem_cons.1 hm with rfl | hm
        · simpa using q
        · have := q0 m hm; simp; omega
      rw [e]
      refine ⟨fun m hm => by simp at hm, fun m hm => ?_⟩
      rw [List.drop_zero] at hm
      rcases List.mem_cons.1 hm with rfl | hm
      · omega
      · have := q0 m hm; omega
theorem lt_le (L : List Nd) (x : Int) : ltN L x ≤ L.length := List.countP_le_length
theorem le_le (L : List Nd) (x : Int) : leN L x ≤ L.length := List.countP_le_length
theorem le_lt (L : List Nd) (x : Int) : leN L x = ltN L (x + 1) := by
  unfold leN ltN
  refine List.countP_congr fun n _ => ?_
  simp; omega
theorem mem_take_get {L : List Nd} {k m : Nat} (h : k < m) (hk : k < L.length) : L.getD k nz ∈ L.take m := by
  have e : (L.take m).getD k nz = L.getD k nz := by
    rw [List.getD_eq_getElem?_getD, List.getD_eq_getElem?_getD, List.getElem?_take_of_lt h]
  rw [← e]
  exact nd_mem (by rw [List.length_take]; omega)
theorem mem_drop_get {L : List Nd} {k m : Nat} (h : m ≤ k) (hk : k < L.length) : L.getD k nz ∈ L.drop m := by
  have e : (L.drop m).getD (k - m) nz = L.getD k nz := by
    rw [List.getD_eq_getElem?_getD, List.getD_eq_getElem?_getD, List.getElem?_drop, show m + (k - m) = k by omega]
  rw [← e]
  exact nd_mem (by rw [List.length_drop]; omega)
/-- which places are below x -/
theorem lt_at {L : List Nd} (h : Good L) (x : Int) {k : Nat} (hk : k < L.length) : decide ((L.getD k nz).1 ≥ x) = decide (ltN L x ≤ k) := by
  have s := lt_split L x h
  by_cases q : ltN L x ≤ k
  · have := s.2 _ (mem_drop_get q hk)
    simp only [decide_eq_decide]; omega
  · have := s.1 _ (mem_take_get (by omega) hk)
    simp only [decide_eq_decide]; omega
theorem le_at {L : List Nd} (h : Good L) (x : Int) {k : Nat} (hk : k < L.length) : decide ((L.getD k nz).1 > x) = decide (leN L x ≤ k) := by
  rw [le_lt, ← lt_at h (x + 1) hk]
  simp only [decide_eq_decide]; omega
/-- a value that is there gets more; another one is put in where it belongs -/
theorem ins_there : ∀ {L : List Nd} {x c : Int}, Good L → ltN L x < L.length → (L.getD (ltN L x) nz).1 = x → insW L x c = L.set (ltN L x) (x, (L.getD (ltN L x) nz).2 + c) := by
  intro L
  induction L with
  | nil => intro x c _ h; simp at h
  | cons n L ih =>
    intro x c h hl he
    by_cases q : n.1 < x
    · have e : ltN (n :: L) x = ltN L x + 1 := by unfold ltN; rw [List.countP_cons_of_pos (by simpa using q)]
      rw [e] at hl he ⊢
      rw [List.getD_cons_succ] at he ⊢
      unfold insW
      rw [if_neg (by omega), if_neg (by omega), ih (nd_tail h) (by simpa using hl) he]; rfl
    · have s := lt_split (n :: L) x h
      have e : ltN (n :: L) x = 0 := by
        rcases Nat.eq_zero_or_pos (ltN (n :: L) x) with e | e
        · exact e
        · have := s.1 n (by
            have : n = (n :: L).getD 0 nz := rfl
            rw [this]; exact mem_take_get e (by simp))
          omega
      rw [e] at he ⊢
      simp only [List.getD_cons_zero] at he ⊢
      unfold insW
      rw [if_neg (by omega), if_pos he, he]; rfl
theorem ins_new : ∀ {L : List Nd} {x c : Int}, Good L → (ltN L x < L.length → (L.getD (ltN L x) nz).1 ≠ x) → insW L x c = L.take (ltN L x) ++ (x, c) :: L.drop (ltN L x) := by
  intro L
  induction L with
  | nil => intro x c _ _; rfl
  | cons n L ih =>
    intro x c h hne
    by_cases q : n.1 < x
    · have e : ltN (n :: L) x = ltN L x + 1 := by unfold ltN; rw [List.countP_cons_of_pos (by simpa using q)]
      rw [e] at hne ⊢
      rw [List.getD_cons_succ] at hne
      unfold insW
      rw [if_neg (by omega), if_neg (by omega), ih (nd_tail h) (fun g => hne (by simpa using g))]; rfl
    · have s := lt_split (n :: L) x h
      have e : ltN (n :: L) x = 0 := by
        rcases Nat.eq_zero_or_pos (ltN (n :: L) x) with e | e
        · exact e
        · have := s.1 n (by
            have : n = (n :: L).getD 0 nz := rfl
            rw [this]; exact mem_take_get e (by simp))
          omega
      rw [e] at hne ⊢
      have := hne (by simp)
      simp only [List.getD_cons_zero] at this
      unfold insW
      rw [if_pos (by omega)]; rfl

/-! ### what lies between -/
theorem bet_app (L M : List Nd) (x y : Int) : betN (L ++ M) x y = betN L x y + betN M x y := by
  induction L with
  | nil => simp [betN]
  | cons n L ih => simp [betN, ih]; omega
theorem bet_all {L : List Nd} {x y : Int} (h : ∀ n ∈ L, x ≤ n.1 ∧ n.1 ≤ y) : betN L x y = sumC L := by
  induction L with
  | nil => rfl
  | cons n L ih => rw [betN, sumC, if_pos (h n (by simp)), ih fun m hm => h m (by simp [hm])]
theorem bet_none {L : List Nd} {x y : Int} (h : ∀ n ∈ L, ¬ (x ≤ n.1 ∧ n.1 ≤ y)) : betN L x y = 0 := by
  induction L with
  | nil => rfl
  | cons n L ih => rw [betN, if_neg (h n (by simp)), ih fun m hm => h m (by simp [hm])]; rfl
theorem bet_rev {L : List Nd} {x y : Int} (h : y < x) : betN L x y = 0 := bet_none fun n _ => by omega
theorem take_take_drop (L : List Nd) {a b : Nat} (h : a ≤ b) : L = L.take a ++ ((L.take b).drop a ++ L.drop b) := by
  have e : L.take a ++ (L.take b).drop a = L.take b := by
    have := List.take_append_drop a (L.take b)
    rw [List.take_take, Nat.min_eq_left h] at this
    exact this
  rw [← List.append_assoc, e, List.take_append_drop]
theorem lt_mono {L : List Nd} {x y : Int} (h : x ≤ y) : ltN L x ≤ ltN L y := by
  unfold ltN
  refine List.countP_mono_left fun n _ q => ?_
  simp at q ⊢; omega
theorem bet_cut {L : List Nd} (h : Good L) {x y : Int} (hxy : x ≤ y) : betN L x y = sumC ((L.take (leN L y)).drop (ltN L x)) := by
  have hm : ltN L x ≤ leN L y := by rw [le_lt]; exact lt_mono (by omega)
  have sx := lt_split L x h
  have sy := lt_split L (y + 1) h
  rw [← le_lt] at sy
  conv => lhs; rw [take_take_drop L hm]
  rw [bet_app, bet_app, bet_none (L := L.take (ltN L x)) fun n hn => by have := sx.1 n hn; omega, bet_none (L := L.drop (leN L y)) fun n hn => by have := sy.2 n hn; omega, bet_all fun n hn => ?_]
  · omega
  · have a := sy.1 n (List.mem_of_mem_drop hn)
    have b := sx.2 n (by
      rw [List.drop_take] at hn
      exact List.mem_of_mem_take hn)
    omega
theorem rank_cut {L : List Nd} (h : Good L) (x : Int) (h0 : ∀ n ∈ L, 0 ≤ n.1) : betN L 0 x = sumC (L.take (leN L x)) := by
  have sy := lt_split L (x + 1) h
  rw [← le_lt] at sy
  conv => lhs; rw [← List.take_append_drop (leN L x) L]
  rw [bet_app, bet_none (L := L.drop (leN L x)) fun n hn => by have := sy.2 n hn; omega, bet_all fun n hn => ⟨h0 n (List.mem_of_mem_take hn), by have := sy.1 n hn; omega⟩]
  omega
theorem bet_ins (L : List Nd) (v c x y : Int) : betN (insW L v c) x y = betN L x y + (if x ≤ v ∧ v ≤ y then c else 0) := by
  induction L with
  | nil => simp [insW, betN]
  | cons n L ih =>
    unfold insW
    split
    · simp only [betN]; omega
    · split
      · rename_i q
        simp only [betN, q]
        split <;> omega
      · simp only [betN, ih]; omega
theorem bet_bd {L : List Nd} (h : NonNeg L) (x y : Int) : 0 ≤ betN L x y ∧ betN L x y ≤ sumC L := by
  induction L with
  | nil => simp [betN, sumC]
  | cons n L ih =>
    have := ih fun m hm => h m (by simp [hm])
    have := h n (by simp)
    simp only [betN, sumC]
    split <;> omega
theorem bet_mono {L : List Nd} (h : NonNeg L) {x y z : Int} (hy : y ≤ z) : betN L x y ≤ betN L x z := by
  induction L with
  | nil => simp [betN]
  | cons n L ih =>
    have := ih fun m hm => h m (by simp [hm])
    have := h n (by simp)
    simp only [betN]
    split <;> split <;> omega
theorem bet_sub {L : List Nd} (h0 : ∀ n ∈ L, 0 ≤ n.1) {x y : Int} (h : x ≤ y) : betN L x y = betN L 0 y - betN L 0 (x - 1) := by
  induction L with
  | nil => simp [betN]
  | cons n L ih =>
    have := ih fun m hm => h0 m (by simp [hm])
    have := h0 n (by simp)
    simp only [betN]
    split <;> split <;> split <;> omega

/-! ### the least value of a rank -/
theorem kth_at : ∀ (L : List Nd) (k : Nat) (r : Int), NonNeg L → k < L.length → sumC (L.take k) < r → r ≤ sumC (L.take (k + 1)) → kthN L r = (L.getD k nz).1 := by
  intro L
  induction L with
  | nil => intro k r _ h; simp at h
  | cons n L ih =>
    intro k r hN hk h1 h2
    cases k with
    | zero =>
      simp [sumC] at h1 h2
      rw [kthN, if_pos (by omega)]; rfl
    | succ k =>
      simp only [List.take_succ_cons, sumC] at h1 h2
      have h3 : 0 ≤ sumC (L.take k) := sumC_nonneg fun m hm => hN m (by simp [List.mem_of_mem_take hm])
      rw [kthN, if_neg (by omega), List.getD_cons_succ]
      exact ih k (r - n.2) (fun m hm => hN m (by simp [hm])) (by simpa using hk) (by omega) (by omega)
theorem sum_take_le {L : List Nd} (h : NonNeg L) (k : Nat) : sumC (L.take k) ≤ sumC L := by
  have e := List.take_append_drop k L
  have := sumC_nonneg (L := L.drop k) fun n hn => h n (List.mem_of_mem_drop hn)
  conv => rhs; rw [← e, sumC_app]
  omega
theorem sum_take_step {L : List Nd} {k : Nat} (hk : k < L.length) : sumC (L.take (k + 1)) = sumC (L.take k) + (L.getD k nz).2 := by
  rw [nd_take hk, sumC_app]; simp [sumC]
/-- the rank of the value at a place is what weighs up to it -/
theorem rank_at {L : List Nd} (h : Good L) (h0 : ∀ n ∈ L, 0 ≤ n.1) {k : Nat} (hk : k < L.length) : betN L 0 (L.getD k nz).1 = sumC (L.take (k + 1)) := by
  have e : leN L (L.getD k nz).1 = k + 1 := by
    have a := le_at h (L.getD k nz).1 hk
    have a1 : k < leN L (L.getD k nz).1 := by
      rcases Nat.lt_or_ge k (leN L (L.getD k nz).1) with q | q
      · exact q
      · rw [decide_eq_true q] at a; simp at a
    have hl := le_le L (L.getD k nz).1
    rcases Nat.lt_or_ge (k + 1) (leN L (L.getD k nz).1) with q | q
    · have b := le_at h (L.getD k nz).1 (k := k + 1) (by omega)
      have c := good_get h (Nat.lt_succ_self k) (by omega)
      rw [decide_eq_false (by omega : ¬ leN L (L.getD k nz).1 ≤ k + 1)] at b
      exact absurd c (of_decide_eq_false b)
    · omega
  rw [rank_cut h _ h0, e]
theorem kth_law {L : List Nd} (h : Good L) (h0 : ∀ n ∈ L, 0 ≤ n.1) {r : Int} (h1 : 1 ≤ r) (h2 : r ≤ sumC L) : r ≤ betN L 0 (kthN L r) ∧ betN L 0 (kthN L r - 1) < r ∧ ∃ n ∈ L, n.1 = kthN L r := by
  have : ∃ k, k < L.length ∧ sumC (L.take k) < r ∧ r ≤ sumC (L.take (k + 1)) := by
    have : ∀ m : Nat, m ≤ L.length → sumC (L.take m) < r ∨ ∃ k, k < m ∧ sumC (L.take k) < r ∧ r ≤ sumC (L.take (k + 1)) := by
      intro m
      induction m with
      | zero => intro _; left; simp [sumC]; omega
      | succ m ih =>
        intro hm
        rcases ih (by omega) with q | ⟨k, hk, q⟩
        · rcases Int.lt_or_le (sumC (L.take (m + 1))) r with q2 | q2
          · exact .inl q2
          · exact .inr ⟨m, by omega, q, q2⟩
        · exact .inr ⟨k, by omega, q⟩
    rcases this L.length (Nat.le_refl _) with q | q
    · rw [List.take_length] at q; omega
    · exact q
  obtain ⟨k, hk, a, b⟩ := this
  have e := kth_at L k r (good_nonneg h) hk a b
  rw [e]
  refine ⟨by rw [rank_at h h0 hk]; exact b, ?_, _, nd_mem hk, rfl⟩
  have e2 : leN L ((L.getD k nz).1 - 1) = ltN L (L.getD k nz).1 := by rw [le_lt]; congr 1; omega
  have e3 : ltN L (L.getD k nz).1 ≤ k := by
    have := lt_at h (L.getD k nz).1 hk
    simpa using this
  rw [rank_cut h _ h0, e2]
  have := sum_take_le (L := L.take k) (fun n hn => good_nonneg h n (List.mem_of_mem_take hn)) (ltN L (L.getD k nz).1)
  rw [List.take_take, Nat.min_eq_left e3] at this
  omega

/-! ### many at once -/
def poursN (L M : List Nd) : List Nd := M.foldl (fun O n => insW O n.1 n.2) L
def ofS (l : Int) (R : List Nd) : List Nd := R.foldl (fun O n => bagS l O n.1 n.2) []
def imgN (b : Int) (n : Nd) : Nd := (n.1 / 2 ^ b.toNat, n.2)
def imgS (L : List Nd) (b : Int) : List Nd := poursN [] (L.map (imgN b))
def pourE (l m : Int) (L M : List Nd) : Int := if l ≠ m then 6 else if 72057594037927935 < sumC L + sumC M then 5 else 0
def pourS (l m : Int) (L M : List Nd) : List Nd := if pourE l m L M = 0 then poursN L M else L
theorem pours_snoc (L M : List Nd) (n : Nd) : poursN L (M ++ [n]) = insW (poursN L M) n.1 n.2 := by simp [poursN]
theorem pours_good {L : List Nd} (h : Good L) : ∀ (M : List Nd), (∀ n ∈ M, 1 ≤ n.2) → Good (poursN L M) := by
  intro M
  induction M generalizing L with
  | nil => intro _; exact h
  | cons n M ih => intro hM; exact ih (insW_good h (hM n (by simp))) fun m hm => hM m (by simp [hm])
theorem pours_sum (i : Int) : ∀ (M L : List Nd), sumAt i (poursN L M) = sumAt i L + sumAt i M := by
  intro M
  induction M with
  | nil => intro L; simp [poursN, sumAt]
  | cons n M ih => intro L; show sumAt i (poursN (insW L n.1 n.2) M) = _; rw [ih, insW_sum, sumAt]; omega
theorem pours_tot : ∀ (M L : List Nd), sumC (poursN L M) = sumC L + sumC M := by
  intro M
  induction M with
  | nil => intro L; simp [poursN, sumC]
  | cons n M ih => intro L; show sumC (poursN (insW L n.1 n.2) M) = _; rw [ih, insW_tot, sumC]; omega
theorem pours_mem : ∀ (M L : List Nd) {m : Nd}, m ∈ poursN L M → (∃ n ∈ M, n.1 = m.1) ∨ ∃ n ∈ L, n.1 = m.1 := by
  intro M
  induction M with
  | nil => intro L m h; exact .inr ⟨m, h, rfl⟩
  | cons n M ih =>
    intro L m h
    rcases ih (insW L n.1 n.2) h with ⟨q, hq, e⟩ | ⟨q, hq, e⟩
    · exact .inl ⟨q, by simp [hq], e⟩
    · rcases insW_mem hq with e2 | ⟨q2, hq2, e2⟩
      · exact .inl ⟨n, by simp, by omega⟩
      · exact .inr ⟨q2, hq2, by omega⟩
theorem pours_len : ∀ (M L : List Nd), (poursN L M).length ≤ L.length + M.length := by
  intro M
  induction M with
  | nil => intro L; simp [poursN]
  | cons n M ih =>
    intro L
    have a := ih (insW L n.1 n.2)
    have b := insW_le L n.1 n.2
    show (poursN (insW L n.1 n.2) M).length ≤ _
    simp; omega
theorem pours_bet (x y : Int) : ∀ (M L : List Nd), betN (poursN L M) x y = betN L x y + betN M x y := by
  intro M
  induction M with
  | nil => intro L; simp [poursN, betN]
  | cons n M ih => intro L; show betN (poursN (insW L n.1 n.2) M) x y = _; rw [ih, bet_ins, betN]; omega
theorem of_snoc (l : Int) (R : List Nd) (n : Nd) : ofS l (R ++ [n]) = bagS l (ofS l R) n.1 n.2 := by simp [ofS]
theorem of_bag {l : Int} (h : 1 ≤ l ∧ l ≤ 48) (R : List Nd) : BagC l (ofS l R) := by
  have : ∀ (R L : List Nd), BagC l L → BagC l (R.foldl (fun O n => bagS l O n.1 n.2) L) := by
    intro R
    induction R with
    | nil => intro L h; exact h
    | cons n R ih => intro L h; exact ih _ (h.add _ _)
  exact this R [] (bag_nil h)
theorem of_len (l : Int) (R : List Nd) : (ofS l R).length ≤ R.length := by
  have : ∀ (R L : List Nd), (R.foldl (fun O n => bagS l O n.1 n.2) L).length ≤ L.length + R.length := by
    intro R
    induction R with
    | nil => intro L; simp
    | cons n R ih => intro L; have := ih (bagS l L n.1 n.2); have := bagS_le l L n.1 n.2; simp at *; omega
  have := this R []
  simpa [ofS] using this
theorem pour_other {l m : Int} {L M : List Nd} (h : l ≠ m) : pourE l m L M = 6 ∧ pourS l m L M = L := by
  have e : pourE l m L M = 6 := if_pos h
  exact ⟨e, by unfold pourS; rw [e]; rfl⟩
theorem pour_full {l : Int} {L M : List Nd} (h : 72057594037927935 < sumC L + sumC M) : pourE l l L M = 5 ∧ pourS l l L M = L := by
  have e : pourE l l L M = 5 := by unfold pourE; rw [if_neg (by simp), if_pos h]
  exact ⟨e, by unfold pourS; rw [e]; rfl⟩
theorem pour_ok {l : Int} {L M : List Nd} (h : ¬ 72057594037927935 < sumC L + sumC M) : pourE l l L M = 0 ∧ pourS l l L M = poursN L M := by
  have e : pourE l l L M = 0 := by unfold pourE; rw [if_neg (by simp), if_neg h]
  exact ⟨e, by unfold pourS; rw [e]; rfl⟩
theorem BagC.pours {l : Int} {L M : List Nd} (h : BagC l L) (g : BagC l M) (ht : ¬ 72057594037927935 < sumC L + sumC M) : BagC l (poursN L M) :=
  ⟨h.uni, pours_good h.good M g.good.pos, fun n hn => by
    rcases pours_mem M L hn with ⟨q, hq, e⟩ | ⟨q, hq, e⟩
    · rw [← e]; exact g.val q hq
    · rw [← e]; exact h.val q hq, by rw [pours_tot]; omega⟩
theorem BagC.pour {l m : Int} {L M : List Nd} (h : BagC l L) (g : BagC m M) : BagC l (pourS l m L M) := by
  by_cases q : l = m
  · subst q
    by_cases q2 : 72057594037927935 < sumC L + sumC M
    · rw [(pour_full q2).2]; exact h
    · rw [(pour_ok q2).2]; exact h.pours g q2
  · rw [(pour_other q).2]; exact h
theorem pour_len (l m : Int) (L M : List Nd) : (pourS l m L M).length ≤ L.length + M.length := by
  unfold pourS; split
  · exact pours_len M L
  · omega
theorem img_sum (L : List Nd) (b : Int) : sumC (L.map (imgN b)) = sumC L := by
  induction L with
  | nil => rfl
  | cons n L ih => simp [sumC, ih, imgN]
theorem img_bag {l b : Int} {L : List Nd} (h : BagC l L) (h0 : 0 ≤ b) (h1 : b < l) : BagC (l - b) (imgS L b) := by
  have hu := h.uni
  refine ⟨by omega, pours_good good_nil _ fun n hn => ?_, fun n hn => ?_, by rw [imgS, pours_tot, img_sum]; simp [sumC]; exact h.tot⟩
  · obtain ⟨m, hm, e⟩ := List.mem_map.1 hn
    rw [← e]; exact h.good.pos m hm
  · rcases pours_mem _ _ hn with ⟨q, hq, e⟩ | ⟨q, hq, _⟩
    · obtain ⟨m, hm, e2⟩ := List.mem_map.1 hq
      have hv := h.val m hm
      have e3 : n.1 = m.1 / 2 ^ b.toNat := by rw [← e, ← e2]; rfl
      have hp : (0 : Int) < 2 ^ b.toNat := two_pos _
      have e4 : (2 : Int) ^ l.toNat = 2 ^ (l - b).toNat * 2 ^ b.toNat := by rw [← two_add]; congr 1; omega
      rw [e3]
      have hlt : m.1 / 2 ^ b.toNat < 2 ^ (l - b).toNat := by
        rw [Int.ediv_lt_iff_lt_mul hp, ← e4]
        exact hv.2.2.2
      exact ⟨by omega, by omega, Int.ediv_nonneg hv.2.2.1 (by omega), hlt⟩
    · simp at hq
theorem img_len (L : List Nd) (b : Int) : (imgS L b).length ≤ L.length := by
  have := pours_len (L.map (imgN b)) []
  simpa [imgS] using this
/-- an image's rank is that of the greatest value that is cut to it -/
theorem img_rank {L : List Nd} {b : Int} (h0 : ∀ n ∈ L, 0 ≤ n.1) (v : Int) : betN (imgS L b) 0 v = betN L 0 ((v + 1) * 2 ^ b.toNat - 1) := by
  have hp : (0 : Int) < 2 ^ b.toNat := two_pos _
  rw [imgS, pours_bet]
  simp only [betN]
  rw [Int.zero_add]
  induction L with
  | nil => rfl
  | cons n L ih =>
    rw [List.map_cons, betN, betN, ih fun m hm => h0 m (by simp [hm])]
    have hn := h0 n (by simp)
    have e1 : (imgN b n).1 = n.1 / 2 ^ b.toNat := rfl
    have e2 : (imgN b n).2 = n.2 := rfl
    have a := Int.ediv_lt_iff_lt_mul (a := n.1) (b := v + 1) hp
    have c : 0 ≤ n.1 / 2 ^ b.toNat := Int.ediv_nonneg hn (by omega)
    rw [e1, e2]
    generalize (v + 1) * 2 ^ b.toNat = y at *
    generalize n.1 / 2 ^ b.toNat = q at *
    split <;> split <;> omega
theorem wider_bag {l m : Int} {L : List Nd} (h : BagC l L) (h0 : l ≤ m) (h1 : m ≤ 48) : BagC m L := by
  have hu := h.uni
  refine ⟨by omega, h.good, fun n hn => ?_, h.tot⟩
  have hv := h.val n hn
  have h3 : (2 : Int) ^ l.toNat ≤ 2 ^ m.toNat := two_le _ _ (by omega)
  have := hv.2.2.2
  exact ⟨by omega, h1, hv.2.2.1, by omega⟩
/-- two rising lists folded: all that both have -/
theorem fold_pours {L M S F : List Nd} (hS : S.Perm (L ++ M)) (f : FInv S F) (h : Good L) (g : Good M) : F = poursN L M := by
  refine good_uniq F _ f.good (pours_good h M g.pos) fun i => ?_
  rw [f.at_, sumAt_perm i hS, sumAt_app, pours_sum]

end Go.Proofs.YtkhacpapkalkiaaGreat

/- Plain facts on a value put into a rising list, read from its first one on; two readings of what is told. No program is spoken of here. -/
namespace Go.Proofs.YtkhacpapkalkiaaGreat
set_option linter.unusedVariables false

theorem ins_all : ∀ (L : List Nd) (x c : Int), (∀ n ∈ L, n.1 < x) → insW L x c = L ++ [(x, c)] := by
  intro L
  induction L with
  | nil => intro x c _; rfl
  | cons n L ih =>
    intro x c h
    have := h n (by simp)
    unfold insW
    rw [if_neg (by omega), if_neg (by omega), ih x c fun m hm => h m (by simp [hm])]; rfl
theorem ins_same : ∀ (P : List Nd) (n : Nd) (x c : Int), (∀ m ∈ P, m.1 < x) → n.1 = x → insW (P ++ [n]) x c = P ++ [(n.1, n.2 + c)] := by
  intro P
  induction P with
  | nil => intro n x c _ h; simp [insW, h]
  | cons m P ih =>
    intro n x c h e
    have := h m (by simp)
    rw [List.cons_append, insW, if_neg (by omega), if_neg (by omega), ih n x c (fun q hq => h q (by simp [hq])) e]; rfl
theorem ins_ahead : ∀ (P : List Nd) (n : Nd) (x c : Int), (∀ m ∈ P, m.1 < x) → x < n.1 → insW (P ++ [n]) x c = P ++ [(x, c)] ++ [n] := by
  intro P
  induction P with
  | nil => intro n x c _ h; simp [insW, h]
  | cons m P ih =>
    intro n x c h e
    have := h m (by simp)
    rw [List.cons_append, insW, if_neg (by omega), if_neg (by omega), ih n x c (fun q hq => h q (by simp [hq])) e]; rfl
theorem ins_done : ∀ (P : List Nd) (n : Nd) (x c : Int), (∃ m ∈ P, x ≤ m.1) → insW (P ++ [n]) x c = insW P x c ++ [n] := by
  intro P
  induction P with
  | nil => intro n x c ⟨m, h, _⟩; simp at h
  | cons m P ih =>
    intro n x c ⟨q, hq, e⟩
    rw [List.cons_append, insW, insW]
    by_cases h1 : x < m.1
    · rw [if_pos h1, if_pos h1]; rfl
    · rw [if_neg h1, if_neg h1]
      by_cases h2 : m.1 = x
      · rw [if_pos h2, if_pos h2]; rfl
      · rw [if_neg h2, if_neg h2, ih n x c]; rfl
        rcases List.mem_cons.1 hq with rfl | hq
        · omega
        · exact ⟨q, hq, e⟩
/-- what the walk over the list has put out -/
def PutI (L : List Nd) (x c : Int) (k : Nat) (d : Bool) (R : List Nd) : Prop := (d = false ∧ R = L.take k ∧ ∀ n ∈ L.take k, n.1 < x) ∨ (d = true ∧ R = insW (L.take k) x c ∧ ∃ n ∈ L.take k, x ≤ n.1)
theorem putI_zero (L : List Nd) (x c : Int) : PutI L x c 0 false [] := .inl ⟨rfl, rfl, fun n h => by simp at h⟩
theorem PutI.len {L R : List Nd} {x c : Int} {k : Nat} {d : Bool} (h : PutI L x c k d R) : R.length ≤ k + 1 := by
  rcases h with ⟨_, rfl, _⟩ | ⟨_, rfl, _⟩
  · rw [List.length_take]; omega
  · have := insW_le (L.take k) x c; rw [List.length_take] at this; omega
/-- a value that is the one -/
theorem PutI.same {L R : List Nd} {x c : Int} {k : Nat} {d : Bool} (g : Good L) (hk : k < L.length) (h : PutI L x c k d R) (e : (L.getD k nz).1 = x) : PutI L x c (k + 1) true (R ++ [((L.getD k nz).1, (L.getD k nz).2 + c)]) := by
  rcases h with ⟨_, rfl, h⟩ | ⟨_, _, n, hn, hx⟩
  · exact .inr ⟨rfl, by rw [nd_take hk, ins_same _ _ _ _ h e], L.getD k nz, by rw [nd_take hk]; exact List.mem_append_right _ (List.mem_singleton.2 rfl), by omega⟩
  · exfalso
    obtain ⟨j, hj, e2⟩ := List.mem_iff_getElem.1 hn
    rw [List.length_take] at hj
    have a := good_get g (i := j) (j := k) (by omega) hk
    have b : L.getD j nz = n := by
      rw [← e2, List.getElem_take, List.getD_eq_getElem?_getD, List.getElem?_eq_getElem (by omega)]; rfl
    rw [b] at a
    omega
theorem PutI.ahead {L R : List Nd} {x c : Int} {k : Nat} (hk : k < L.length) (h : PutI L x c k false R) (e : x < (L.getD k nz).1) : PutI L x c (k + 1) true (R ++ [(x, c)] ++ [L.getD k nz]) := by
  rcases h with ⟨_, rfl, h⟩ | ⟨q, _⟩
  · exact .inr ⟨rfl, by rw [nd_take hk, ins_ahead _ _ _ _ h e], L.getD k nz, by rw [nd_take hk]; exact List.mem_append_right _ (List.mem_singleton.2 rfl), by omega⟩
  · cases q
theorem PutI.done {L R : List Nd} {x c : Int} {k : Nat} (hk : k < L.length) (h : PutI L x c k true R) : PutI L x c (k + 1) true (R ++ [L.getD k nz]) := by
  rcases h with ⟨q, _⟩ | ⟨_, rfl, n, hn, hx⟩
  · cases q
  · exact .inr ⟨rfl, by rw [nd_take hk, ins_done _ _ _ _ ⟨n, hn, hx⟩], n, by rw [nd_take hk]; simp [hn], hx⟩
theorem PutI.before {L R : List Nd} {x c : Int} {k : Nat} {d : Bool} (g : Good L) (hk : k < L.length) (h : PutI L x c k d R) (e : (L.getD k nz).1 < x) : d = false ∧ PutI L x c (k + 1) false (R ++ [L.getD k nz]) := by
  rcases h with ⟨rfl, rfl, h⟩ | ⟨_, _, n, hn, hx⟩
  · refine ⟨rfl, .inl ⟨rfl, by rw [nd_take hk], fun n hn => ?_⟩⟩
    rw [nd_take hk] at hn
    rcases List.mem_append.1 hn with hn | hn
    · exact h n hn
    · simp at hn; rw [hn]; exact e
  · exfalso
    obtain ⟨j, hj, e2⟩ := List.mem_iff_getElem.1 hn
    rw [List.length_take] at hj
    have a := good_get g (i := j) (j := k) (by omega) hk
    have b : L.getD j nz = n := by
      rw [← e2, List.getElem_take, List.getD_eq_getElem?_getD, List.getElem?_eq_getElem (by omega)]; rfl
    rw [b] at a
    omega
theorem PutI.fin {L R : List Nd} {x c : Int} {k : Nat} {d : Bool} (hk : L.length ≤ k) (h : PutI L x c k d R) : if d then R = insW L x c else R ++ [(x, c)] = insW L x c := by
  rw [PutI, List.take_of_length_le hk] at h
  rcases h with ⟨rfl, rfl, h⟩ | ⟨rfl, rfl, _⟩
  · exact (ins_all _ x c h).symm
  · rfl

end Go.Proofs.YtkhacpapkalkiaaGreat
