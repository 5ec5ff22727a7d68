/- Texts laid together: BgNum, BgNum2, PrNum4, DgNum, RaNum, DgNum2, DgMem, DgBox, DgLd. -/
import Derived.Test.YtkoefclkpdpdpaaGreatPln
import Derived.Test.YtkoefclkpdpdpaaGreatPrP
import Derived.Test.YtkoefclkpdpdpaaGreatPoQ
import Derived.Test.YtkoefclkpdpdpaaGreatMmy
/- Plain facts on bags: lists of values by rising values with their weights above 0; what each call tells of them. No program is spoken of here. -/
namespace Go.Proofs.YtkoefclkpdpdpaaGreat
set_option linter.unusedVariables false

/-- the weights of all values from x to y -/
def betN : List Nd → Int → Int → Int
  | [], _, _ => 0
  | n :: L, x, y => (if x ≤ n.1 ∧ n.1 ≤ y then n.2 else 0) + betN L x y
/-- the least value whose rank isn't below r -/
def kthN : List Nd → Int → Int
  | [], _ => 0
  | n :: L, r => if r ≤ n.2 then n.1 else kthN L (r - n.2)
def ltN (L : List Nd) (x : Int) : Nat := L.countP fun n => decide (n.1 < x)
def leN (L : List Nd) (x : Int) : Nat := L.countP fun n => decide (n.1 ≤ x)
structure BagC (l : Int) (L : List Nd) : Prop where
  uni : 1 ≤ l ∧ l ≤ 48
  good : Good L
  val : ∀ n ∈ L, ValC l n.1
  tot : sumC L ≤ 72057594037927935
theorem bag_nil {l : Int} (h : 1 ≤ l ∧ l ≤ 48) : BagC l [] := ⟨h, good_nil, fun n h => by simp at h, by simp [sumC]⟩
/-- what Add tells, and leaves -/
def bagE (l : Int) (L : List Nd) (x c : Int) : Int := if leafB l x = false then 3 else if c < 1 then 4 else if 72057594037927935 < sumC L + c then 5 else 0
def bagS (l : Int) (L : List Nd) (x c : Int) : List Nd := if bagE l L x c = 0 then insW L x c else L
theorem leafB_iff {l x : Int} : leafB l x = true ↔ ValC l x := by
  constructor
  · intro h
    by_cases q : ValC l x
    · exact q
    · rw [(leaf_no q).2] at h; simp at h
  · intro h; exact (leaf_yes h).2
theorem bag_range {l : Int} {L : List Nd} {x c : Int} (h : leafB l x = false) : bagE l L x c = 3 ∧ bagS l L x c = L := by
  have e : bagE l L x c = 3 := if_pos h
  exact ⟨e, by unfold bagS; rw [e]; rfl⟩
theorem bag_zero {l : Int} {L : List Nd} {x c : Int} (h : leafB l x = true) (h1 : c < 1) : bagE l L x c = 4 ∧ bagS l L x c = L := by
  have e : bagE l L x c = 4 := by unfold bagE; rw [if_neg (by simp [h]), if_pos h1]
  exact ⟨e, by unfold bagS; rw [e]; rfl⟩
theorem bag_full {l : Int} {L : List Nd} {x c : Int} (h : leafB l x = true) (h1 : ¬ c < 1) (h2 : 72057594037927935 < sumC L + c) : bagE l L x c = 5 ∧ bagS l L x c = L := by
  have e : bagE l L x c = 5 := by unfold bagE; rw [if_neg (by simp [h]), if_neg h1, if_pos h2]
  exact ⟨e, by unfold bagS; rw [e]; rfl⟩
theorem bag_ok {l : Int} {L : List Nd} {x c : Int} (h : leafB l x = true) (h1 : ¬ c < 1) (h2 : ¬ 72057594037927935 < sumC L + c) : bagE l L x c = 0 ∧ bagS l L x c = insW L x c := by
  have e : bagE l L x c = 0 := by unfold bagE; rw [if_neg (by simp [h]), if_neg h1, if_neg h2]
  exact ⟨e, by unfold bagS; rw [e]; rfl⟩
theorem insW_le (L : List Nd) (x c : Int) : (insW L x c).length ≤ L.length + 1 := by
  induction L with
  | nil => simp [insW]
  | cons n L ih => unfold insW; split; simp; split; simp; simp; omega
theorem BagC.ins {l : Int} {L : List Nd} {x c : Int} (h : BagC l L) (hx : ValC l x) (hc : ¬ c < 1) (ht : ¬ 72057594037927935 < sumC L + c) : BagC l (insW L x c) :=
  ⟨h.uni, insW_good h.good (by omega), fun n hn => by
    rcases insW_mem hn with e | ⟨m, hm, e⟩
    · rw [e]; exact hx
    · rw [← e]; exact h.val m hm, by rw [insW_tot]; omega⟩
theorem bag_cases {l : Int} (L : List Nd) (x c : Int) : (leafB l x = false) ∨ (leafB l x = true ∧ c < 1) ∨ (leafB l x = true ∧ ¬ c < 1 ∧ 72057594037927935 < sumC L + c) ∨ (leafB l x = true ∧ ¬ c < 1 ∧ ¬ 72057594037927935 < sumC L + c) := by
  cases leafB l x
  · exact .inl rfl
  · by_cases h1 : c < 1
    · exact .inr (.inl ⟨rfl, h1⟩)
    · by_cases h2 : 72057594037927935 < sumC L + c
      · exact .inr (.inr (.inl ⟨rfl, h1, h2⟩))
      · exact .inr (.inr (.inr ⟨rfl, h1, h2⟩))
theorem BagC.add {l : Int} {L : List Nd} (h : BagC l L) (x c : Int) : BagC l (bagS l L x c) := by
  rcases bag_cases (l := l) L x c with q | ⟨q, q1⟩ | ⟨q, q1, q2⟩ | ⟨q, q1, q2⟩
  · rw [(bag_range q).2]; exact h
  · rw [(bag_zero q q1).2]; exact h
  · rw [(bag_full q q1 q2).2]; exact h
  · rw [(bag_ok q q1 q2).2]; exact h.ins (leafB_iff.1 q) q1 q2
theorem bagS_le (l : Int) (L : List Nd) (x c : Int) : (bagS l L x c).length ≤ L.length + 1 := by
  unfold bagS; split
  · exact insW_le ..
  · omega
theorem valC_bd {l x : Int} (h : ValC l x) : 0 ≤ x ∧ x ≤ 281474976710655 := by
  obtain ⟨h1, h2⟩ := h
  have h3 : (2 : Int) ^ l.toNat ≤ 2 ^ 48 := two_le _ _ (by omega)
  have e : (2 : Int) ^ 48 = 281474976710656 := by decide
  omega
theorem BagC.bds {l : Int} {L : List Nd} (h : BagC l L) : ∀ n ∈ L, (0 ≤ n.1 ∧ n.1 ≤ 281474976710655) ∧ (1 ≤ n.2 ∧ n.2 ≤ 72057594037927935) := fun n hn => by
  have a := valC_bd (h.val n hn)
  have b := h.good.pos n hn
  have c := sumC_mem (good_nonneg h.good) hn
  have d := h.tot
  exact ⟨a, b, by omega⟩
theorem BagC.tot0 {l : Int} {L : List Nd} (h : BagC l L) : 0 ≤ sumC L ∧ sumC L ≤ 72057594037927935 := ⟨sumC_nonneg (good_nonneg h.good), h.tot⟩

/-! ### places -/
theorem good_get {L : List Nd} (h : Good L) {i j : Nat} (hij : i < j) (hj : j < L.length) : (L.getD i nz).1 < (L.getD j nz).1 := by
  have := List.pairwise_iff_getElem.1 h.ids i j (by omega) hj hij
  rw [List.getD_eq_getElem?_getD, List.getD_eq_getElem?_getD, List.getElem?_eq_getElem (by omega), List.getElem?_eq_getElem hj]
  exact this
theorem lt_split : ∀ (L : List Nd) (x : Int), Good L → (∀ n ∈ L.take (ltN L x), n.1 < x) ∧ (∀ n ∈ L.drop (ltN L x), x ≤ n.1) := by
  intro L x
  induction L with
  | nil => intro _; simp
  | cons n L ih =>
    intro h
    have i := ih (nd_tail h)
    have q0 := (List.pairwise_cons.1 h.ids).1
    by_cases q : n.1 < x
    · have e : ltN (n :: L) x = ltN L x + 1 := by unfold ltN; rw [List.countP_cons_of_pos (by simpa using q)]
      rw [e]
      refine ⟨fun m hm => ?_, fun m hm => i.2 m (by simpa using hm)⟩
      rw [List.take_succ_cons] at hm
      rcases List.mem_cons.1 hm with rfl | hm
      · exact q
      · exact i.1 m hm
    · have e : ltN (n :: L) x = 0 := by
        unfold ltN
        rw [List.countP_eq_zero]
        intro m hm
        rcases List.mem_cons.1 hm with rfl | hm
        · simpa using q
        · have := q0 m hm; simp; omega
      rw [e]
      refine ⟨fun m hm => by simp at hm, fun m hm => ?_⟩
      rw [List.drop_zero] at hm
      rcases List.mem_cons.1 hm with rfl | hm
      · omega
      · have := q0 m hm; omega
theorem lt_le (L : List Nd) (x : Int) : ltN L x ≤ L.length := List.countP_le_length
theorem le_le (L : List Nd) (x : Int) : leN L x ≤ L.length := List.countP_le_length
theorem le_lt (L : List Nd) (x : Int) : leN L x = ltN L (x + 1) := by
  unfold leN ltN
  refine List.countP_congr fun n _ => ?_
  simp; omega
theorem mem_take_get {L : List Nd} {k m : Nat} (h : k < m) (hk : k < L.length) : L.getD k nz ∈ L.take m := by
  have e : (L.take m).getD k nz = L.getD k nz := by
    rw [List.getD_eq_getElem?_getD, List.getD_eq_getElem?_getD, List.getElem?_take_of_lt h]
  rw [← e]
  exact nd_mem (by rw [List.length_take]; omega)
theorem mem_drop_get {L : List Nd} {k m : Nat} (h : m ≤ k) (hk : k < L.length) : L.getD k nz ∈ L.drop m := by
  have e : (L.drop m).getD (k - m) nz = L.getD k nz := by
    rw [List.getD_eq_getElem?_getD, List.getD_eq_getElem?_getD, List.getElem?_drop, show m + (k - m) = k by omega]
  rw [← e]
  exact nd_mem (by rw [List.length_drop]; omega)
/-- which places are below x -/
theorem lt_at {L : List Nd} (h : Good L) (x : Int) {k : Nat} (hk : k < L.length) : decide ((L.getD k nz).1 ≥ x) = decide (ltN L x ≤ k) := by
  have s := lt_split L x h
  by_cases q : ltN L x ≤ k
  · have := s.2 _ (mem_drop_get q hk)
    simp only [decide_eq_decide]; omega
  · have := s.1 _ (mem_take_get (by omega) hk)
    simp only [decide_eq_decide]; omega
theorem le_at {L : List Nd} (h : Good L) (x : Int) {k : Nat} (hk : k < L.length) : decide ((L.getD k nz).1 > x) = decide (leN L x ≤ k) := by
  rw [le_lt, ← lt_at h (x + 1) hk]
  simp only [decide_eq_decide]; omega
/-- a value that is there gets more; another one is put in where it belongs -/
theorem ins_there : ∀ {L : List Nd} {x c : Int}, Good L → ltN L x < L.length → (L.getD (ltN L x) nz).1 = x → insW L x c = L.set (ltN L x) (x, (L.getD (ltN L x) nz).2 + c) := by
  intro L
  induction L with
  | nil => intro x c _ h; simp at h
  | cons n L ih =>
    intro x c h hl he
    by_cases q : n.1 < x
    · have e : ltN (n :: L) x = ltN L x + 1 := by unfold ltN; rw [List.countP_cons_of_pos (by simpa using q)]
      rw [e] at hl he ⊢
      rw [List.getD_cons_succ] at he ⊢
      unfold insW
      rw [if_neg (by omega), if_neg (by omega), ih (nd_tail h) (by simpa using hl) he]; rfl
    · have s := lt_split (n :: L) x h
      have e : ltN (n :: L) x = 0 := by
        rcases Nat.eq_zero_or_pos (ltN (n :: L) x) with e | e
        · exact e
        · have := s.1 n (by
            have : n = (n :: L).getD 0 nz := rfl
            rw [this]; exact mem_take_get e (by simp))
          omega
      rw [e] at he ⊢
      simp only [List.getD_cons_zero] at he ⊢
      unfold insW
      rw [if_neg (by omega), if_pos he, he]; rfl
theorem ins_new : ∀ {L : List Nd} {x c : Int}, Good L → (ltN L x < L.length → (L.getD (ltN L x) nz).1 ≠ x) → insW L x c = L.take (ltN L x) ++ (x, c) :: L.drop (ltN L x) := by
  intro L
  induction L with
  | nil => intro x c _ _; rfl
  | cons n L ih =>
    intro x c h hne
    by_cases q : n.1 < x
    · have e : ltN (n :: L) x = ltN L x + 1 := by unfold ltN; rw [List.countP_cons_of_pos (by simpa using q)]
      rw [e] at hne ⊢
      rw [List.getD_cons_succ] at hne
      unfold insW
      rw [if_neg (by omega), if_neg (by omega), ih (nd_tail h) (fun g => hne (by simpa using g))]; rfl
    · have s := lt_split (n :: L) x h
      have e : ltN (n :: L) x = 0 := by
        rcases Nat.eq_zero_or_pos (ltN (n :: L) x) with e | e
        · exact e
        · have := s.1 n (by
            have : n = (n :: L).getD 0 nz := rfl
            rw [this]; exact mem_take_get e (by simp))
          omega
      rw [e] at hne ⊢
      have := hne (by simp)
      simp only [List.getD_cons_zero] at this
      unfold insW
      rw [if_pos (by omega)]; rfl

/-! ### what lies between -/
theorem bet_app (L M : List Nd) (x y : Int) : betN (L ++ M) x y = betN L x y + betN M x y := by
  induction L with
  | nil => simp [betN]
  | cons n L ih => simp [betN, ih]; omega
theorem bet_all {L : List Nd} {x y : Int} (h : ∀ n ∈ L, x ≤ n.1 ∧ n.1 ≤ y) : betN L x y = sumC L := by
  induction L with
  | nil => rfl
  | cons n L ih => rw [betN, sumC, if_pos (h n (by simp)), ih fun m hm => h m (by simp [hm])]
theorem bet_none {L : List Nd} {x y : Int} (h : ∀ n ∈ L, ¬ (x ≤ n.1 ∧ n.1 ≤ y)) : betN L x y = 0 := by
  induction L with
  | nil => rfl
  | cons n L ih => rw [betN, if_neg (h n (by simp)), ih fun m hm => h m (by simp [hm])]; rfl
theorem bet_rev {L : List Nd} {x y : Int} (h : y < x) : betN L x y = 0 := bet_none fun n _ => by omega
theorem take_take_drop (L : List Nd) {a b : Nat} (h : a ≤ b) : L = L.take a ++ ((L.take b).drop a ++ L.drop b) := by
  have e : L.take a ++ (L.take b).drop a = L.take b := by
    have := List.take_append_drop a (L.take b)
    rw [List.take_take, Nat.min_eq_left h] at this
    exact this
  rw [← List.append_assoc, e, List.take_append_drop]
theorem lt_mono {L : List Nd} {x y : Int} (h : x ≤ y) : ltN L x ≤ ltN L y := by
  unfold ltN
  refine List.countP_mono_left fun n _ q => ?_
  simp at q ⊢; omega
theorem bet_cut {L : List Nd} (h : Good L) {x y : Int} (hxy : x ≤ y) : betN L x y = sumC ((L.take (leN L y)).drop (ltN L x)) := by
  have hm : ltN L x ≤ leN L y := by rw [le_lt]; exact lt_mono (by omega)
  have sx := lt_split L x h
  have sy := lt_split L (y + 1) h
  rw [← le_lt] at sy
  conv => lhs; rw [take_take_drop L hm]
  rw [bet_app, bet_app, bet_none (L := L.take (ltN L x)) fun n hn => by have := sx.1 n hn; omega, bet_none (L := L.drop (leN L y)) fun n hn => by have := sy.2 n hn; omega, bet_all fun n hn => ?_]
  · omega
  · have a := sy.1 n (List.mem_of_mem_drop hn)
    have b := sx.2 n (by
      rw [List.drop_take] at hn
      exact List.mem_of_mem_take hn)
    omega
theorem rank_cut {L : List Nd} (h : Good L) (x : Int) (h0 : ∀ n ∈ L, 0 ≤ n.1) : betN L 0 x = sumC (L.take (leN L x)) := by
  have sy := lt_split L (x + 1) h
  rw [← le_lt] at sy
  conv => lhs; rw [← List.take_append_drop (leN L x) L]
  rw [bet_app, bet_none (L := L.drop (leN L x)) fun n hn => by have := sy.2 n hn; omega, bet_all fun n hn => ⟨h0 n (List.mem_of_mem_take hn), by have := sy.1 n hn; omega⟩]
  omega
theorem bet_ins (L : List Nd) (v c x y : Int) : betN (insW L v c) x y = betN L x y + (if x ≤ v ∧ v ≤ y then c else 0) := by
  induction L with
  | nil => simp [insW, betN]
  | cons n L ih =>
    unfold insW
    split
    · simp only [betN]; omega
    · split
      · rename_i q
        simp only [betN, q]
        split <;> omega
      · simp only [betN, ih]; omega
theorem bet_bd {L : List Nd} (h : NonNeg L) (x y : Int) : 0 ≤ betN L x y ∧ betN L x y ≤ sumC L := by
  induction L with
  | nil => simp [betN, sumC]
  | cons n L ih =>
    have := ih fun m hm => h m (by simp [hm])
    have := h n (by simp)
    simp only [betN, sumC]
    split <;> omega
theorem bet_mono {L : List Nd} (h : NonNeg L) {x y z : Int} (hy : y ≤ z) : betN L x y ≤ betN L x z := by
  induction L with
  | nil => simp [betN]
  | cons n L ih =>
    have := ih fun m hm => h m (by simp [hm])
    have := h n (by simp)
    simp only [betN]
    split <;> split <;> omega
theorem bet_sub {L : List Nd} (h0 : ∀ n ∈ L, 0 ≤ n.1) {x y : Int} (h : x ≤ y) : betN L x y = betN L 0 y - betN L 0 (x - 1) := by
  induction L with
  | nil => simp [betN]
  | cons n L ih =>
    have := ih fun m hm => h0 m (by simp [hm])
    have := h0 n (by simp)
    simp only [betN]
    split <;> split <;> split <;> omega

/-! ### the least value of a rank -/
theorem kth_at : ∀ (L : List Nd) (k : Nat) (r : Int), NonNeg L → k < L.length → sumC (L.take k) < r → r ≤ sumC (L.take (k + 1)) → kthN L r = (L.getD k nz).1 := by
  intro L
  induction L with
  | nil => intro k r _ h; simp at h
  | cons n L ih =>
    intro k r hN hk h1 h2
    cases k with
    | zero =>
      simp [sumC] at h1 h2
      rw [kthN, if_pos (by omega)]; rfl
    | succ k =>
      simp only [List.take_succ_cons, sumC] at h1 h2
      have h3 : 0 ≤ sumC (L.take k) := sumC_nonneg fun m hm => hN m (by simp [List.mem_of_mem_take hm])
      rw [kthN, if_neg (by omega), List.getD_cons_succ]
      exact ih k (r - n.2) (fun m hm => hN m (by simp [hm])) (by simpa using hk) (by omega) (by omega)
theorem sum_take_le {L : List Nd} (h : NonNeg L) (k : Nat) : sumC (L.take k) ≤ sumC L := by
  have e := List.take_append_drop k L
  have := sumC_nonneg (L := L.drop k) fun n hn => h n (List.mem_of_mem_drop hn)
  conv => rhs; rw [← e, sumC_app]
  omega
theorem sum_take_step {L : List Nd} {k : Nat} (hk : k < L.length) : sumC (L.take (k + 1)) = sumC (L.take k) + (L.getD k nz).2 := by
  rw [nd_take hk, sumC_app]; simp [sumC]
/-- the rank of the value at a place is what weighs up to it -/
theorem rank_at {L : List Nd} (h : Good L) (h0 : ∀ n ∈ L, 0 ≤ n.1) {k : Nat} (hk : k < L.length) : betN L 0 (L.getD k nz).1 = sumC (L.take (k + 1)) := by
  have e : leN L (L.getD k nz).1 = k + 1 := by
    have a := le_at h (L.getD k nz).1 hk
    have a1 : k < leN L (L.getD k nz).1 := by
      rcases Nat.lt_or_ge k (leN L (L.getD k nz).1) with q | q
      · exact q
      · rw [decide_eq_true q] at a; simp at a
    have hl := le_le L (L.getD k nz).1
    rcases Nat.lt_or_ge (k + 1) (leN L (L.getD k nz).1) with q | q
    · have b := le_at h (L.getD k nz).1 (k := k + 1) (by omega)
      have c := good_get h (Nat.lt_succ_self k) (by omega)
      rw [decide_eq_false (by omega : ¬ leN L (L.getD k nz).1 ≤ k + 1)] at b
      exact absurd c (of_decide_eq_false b)
    · omega
  rw [rank_cut h _ h0, e]
theorem kth_law {L : List Nd} (h : Good L) (h0 : ∀ n ∈ L, 0 ≤ n.1) {r : Int} (h1 : 1 ≤ r) (h2 : r ≤ sumC L) : r ≤ betN L 0 (kthN L r) ∧ betN L 0 (kthN L r - 1) < r ∧ ∃ n ∈ L, n.1 = kthN L r := by
  have : ∃ k, k < L.length ∧ sumC (L.take k) < r ∧ r ≤ sumC (L.take (k + 1)) := by
    have : ∀ m : Nat, m ≤ L.length → sumC (L.take m) < r ∨ ∃ k, k < m ∧ sumC (L.take k) < r ∧ r ≤ sumC (L.take (k + 1)) := by
      intro m
      induction m with
      | zero => intro _; left; simp [sumC]; omega
      | succ m ih =>
        intro hm
        rcases ih (by omega) with q | ⟨k, hk, q⟩
        · rcases Int.lt_or_le (sumC (L.take (m + 1))) r with q2 | q2
          · exact .inl q2
          · exact .inr ⟨m, by omega, q, q2⟩
        · exact .inr ⟨k, by omega, q⟩
    rcases this L.length (Nat.le_refl _) with q | q
    · rw [List.take_length] at q; omega
    · exact q
  obtain ⟨k, hk, a, b⟩ := this
  have e := kth_at L k r (good_nonneg h) hk a b
  rw [e]
  refine ⟨by rw [rank_at h h0 hk]; exact b, ?_, _, nd_mem hk, rfl⟩
  have e2 : leN L ((L.getD k nz).1 - 1) = ltN L (L.getD k nz).1 := by rw [le_lt]; congr 1; omega
  have e3 : ltN L (L.getD k nz).1 ≤ k := by
    have := lt_at h (L.getD k nz).1 hk
    simpa using this
  rw [rank_cut h _ h0, e2]
  have := sum_take_le (L := L.take k) (fun n hn => good_nonneg h n (List.mem_of_mem_take hn)) (ltN L (L.getD k nz).1)
  rw [List.take_take, Nat.min_eq_left e3] at this
  omega

/-! ### many at once -/
def poursN (L M : List Nd) : List Nd := M.foldl (fun O n => insW O n.1 n.2) L
def ofS (l : Int) (R : List Nd) : List Nd := R.foldl (fun O n => bagS l O n.1 n.2) []
def imgN (b : Int) (n : Nd) : Nd := (n.1 / 2 ^ b.toNat, n.2)
def imgS (L : List Nd) (b : Int) : List Nd := poursN [] (L.map (imgN b))
def pourE (l m : Int) (L M : List Nd) : Int := if l ≠ m then 6 else if 72057594037927935 < sumC L + sumC M then 5 else 0
def pourS (l m : Int) (L M : List Nd) : List Nd := if pourE l m L M = 0 then poursN L M else L
theorem pours_snoc (L M : List Nd) (n : Nd) : poursN L (M ++ [n]) = insW (poursN L M) n.1 n.2 := by simp [poursN]
theorem pours_good {L : List Nd} (h : Good L) : ∀ (M : List Nd), (∀ n ∈ M, 1 ≤ n.2) → Good (poursN L M) := by
  intro M
  induction M generalizing L with
  | nil => intro _; exact h
  | cons n M ih => intro hM; exact ih (insW_good h (hM n (by simp))) fun m hm => hM m (by simp [hm])
theorem pours_sum (i : Int) : ∀ (M L : List Nd), sumAt i (poursN L M) = sumAt i L + sumAt i M := by
  intro M
  induction M with
  | nil => intro L; simp [poursN, sumAt]
  | cons n M ih => intro L; show sumAt i (poursN (insW L n.1 n.2) M) = _; rw [ih, insW_sum, sumAt]; omega
theorem pours_tot : ∀ (M L : List Nd), sumC (poursN L M) = sumC L + sumC M := by
  intro M
  induction M with
  | nil => intro L; simp [poursN, sumC]
  | cons n M ih => intro L; show sumC (poursN (insW L n.1 n.2) M) = _; rw [ih, insW_tot, sumC]; omega
theorem pours_mem : ∀ (M L : List Nd) {m : Nd}, m ∈ poursN L M → (∃ n ∈ M, n.1 = m.1) ∨ ∃ n ∈ L, n.1 = m.1 := by
  intro M
  induction M with
  | nil => intro L m h; exact .inr ⟨m, h, rfl⟩
  | cons n M ih =>
    intro L m h
    rcases ih (insW L n.1 n.2) h with ⟨q, hq, e⟩ | ⟨q, hq, e⟩
    · exact .inl ⟨q, by simp [hq], e⟩
    · rcases insW_mem hq with e2 | ⟨q2, hq2, e2⟩
      · exact .inl ⟨n, by simp, by omega⟩
      · exact .inr ⟨q2, hq2, by omega⟩
theorem pours_len : ∀ (M L : List Nd), (poursN L M).length ≤ L.length + M.length := by
  intro M
  induction M with
  | nil => intro L; simp [poursN]
  | cons n M ih =>
    intro L
    have a := ih (insW L n.1 n.2)
    have b := insW_le L n.1 n.2
    show (poursN (insW L n.1 n.2) M).length ≤ _
    simp; omega
theorem pours_bet (x y : Int) : ∀ (M L : List Nd), betN (poursN L M) x y = betN L x y + betN M x y := by
  intro M
  induction M with
  | nil => intro L; simp [poursN, betN]
  | cons n M ih => intro L; show betN (poursN (insW L n.1 n.2) M) x y = _; rw [ih, bet_ins, betN]; omega
theorem of_snoc (l : Int) (R : List Nd) (n : Nd) : ofS l (R ++ [n]) = bagS l (ofS l R) n.1 n.2 := by simp [ofS]
theorem of_bag {l : Int} (h : 1 ≤ l ∧ l ≤ 48) (R : List Nd) : BagC l (ofS l R) := by
  have : ∀ (R L : List Nd), BagC l L → BagC l (R.foldl (fun O n => bagS l O n.1 n.2) L) := by
    intro R
    induction R with
    | nil => intro L h; exact h
    | cons n R ih => intro L h; exact ih _ (h.add _ _)
  exact this R [] (bag_nil h)
theorem of_len (l : Int) (R : List Nd) : (ofS l R).length ≤ R.length := by
  have : ∀ (R L : List Nd), (R.foldl (fun O n => bagS l O n.1 n.2) L).length ≤ L.length + R.length := by
    intro R
    induction R with
    | nil => intro L; simp
    | cons n R ih => intro L; have := ih (bagS l L n.1 n.2); have := bagS_le l L n.1 n.2; simp at *; omega
  have := this R []
  simpa [ofS] using this
theorem pour_other {l m : Int} {L M : List Nd} (h : l ≠ m) : pourE l m L M = 6 ∧ pourS l m L M = L := by
  have e : pourE l m L M = 6 := if_pos h
  exact ⟨e, by unfold pourS; rw [e]; rfl⟩
theorem pour_full {l : Int} {L M : List Nd} (h : 72057594037927935 < sumC L + sumC M) : pourE l l L M = 5 ∧ pourS l l L M = L := by
  have e : pourE l l L M = 5 := by unfold pourE; rw [if_neg (by simp), if_pos h]
  exact ⟨e, by unfold pourS; rw [e]; rfl⟩
theorem pour_ok {l : Int} {L M : List Nd} (h : ¬ 72057594037927935 < sumC L + sumC M) : pourE l l L M = 0 ∧ pourS l l L M = poursN L M := by
  have e : pourE l l L M = 0 := by unfold pourE; rw [if_neg (by simp), if_neg h]
  exact ⟨e, by unfold pourS; rw [e]; rfl⟩
theorem BagC.pours {l : Int} {L M : List Nd} (h : BagC l L) (g : BagC l M) (ht : ¬ 72057594037927935 < sumC L + sumC M) : BagC l (poursN L M) :=
  ⟨h.uni, pours_good h.good M g.good.pos, fun n hn => by
    rcases pours_mem M L hn with ⟨q, hq, e⟩ | ⟨q, hq, e⟩
    · rw [← e]; exact g.val q hq
    · rw [← e]; exact h.val q hq, by rw [pours_tot]; omega⟩
theorem BagC.pour {l m : Int} {L M : List Nd} (h : BagC l L) (g : BagC m M) : BagC l (pourS l m L M) := by
  by_cases q : l = m
  · subst q
    by_cases q2 : 72057594037927935 < sumC L + sumC M
    · rw [(pour_full q2).2]; exact h
    · rw [(pour_ok q2).2]; exact h.pours g q2
  · rw [(pour_other q).2]; exact h
theorem pour_len (l m : Int) (L M : List Nd) : (pourS l m L M).length ≤ L.length + M.length := by
  unfold pourS; split
  · exact pours_len M L
  · omega
theorem img_sum (L : List Nd) (b : Int) : sumC (L.map (imgN b)) = sumC L := by
  induction L with
  | nil => rfl
  | cons n L ih => simp [sumC, ih, imgN]
theorem img_bag {l b : Int} {L : List Nd} (h : BagC l L) (h0 : 0 ≤ b) (h1 : b < l) : BagC (l - b) (imgS L b) := by
  have hu := h.uni
  refine ⟨by omega, pours_good good_nil _ fun n hn => ?_, fun n hn => ?_, by rw [imgS, pours_tot, img_sum]; simp [sumC]; exact h.tot⟩
  · obtain ⟨m, hm, e⟩ := List.mem_map.1 hn
    rw [← e]; exact h.good.pos m hm
  · rcases pours_mem _ _ hn with ⟨q, hq, e⟩ | ⟨q, hq, _⟩
    · obtain ⟨m, hm, e2⟩ := List.mem_map.1 hq
      have hv := h.val m hm
      have e3 : n.1 = m.1 / 2 ^ b.toNat := by rw [← e, ← e2]; rfl
      have hp : (0 : Int) < 2 ^ b.toNat := two_pos _
      have e4 : (2 : Int) ^ l.toNat = 2 ^ (l - b).toNat * 2 ^ b.toNat := by rw [← two_add]; congr 1; omega
      rw [e3]
      have hlt : m.1 / 2 ^ b.toNat < 2 ^ (l - b).toNat := by
        rw [Int.ediv_lt_iff_lt_mul hp, ← e4]
        exact hv.2.2.2
      exact ⟨by omega, by omega, Int.ediv_nonneg hv.2.2.1 (by omega), hlt⟩
    · simp at hq
theorem img_len (L : List Nd) (b : Int) : (imgS L b).length ≤ L.length := by
  have := pours_len (L.map (imgN b)) []
  simpa [imgS] using this
/-- an image's rank is that of the greatest value that is cut to it -/
theorem img_rank {L : List Nd} {b : Int} (h0 : ∀ n ∈ L, 0 ≤ n.1) (v : Int) : betN (imgS L b) 0 v = betN L 0 ((v + 1) * 2 ^ b.toNat - 1) := by
  have hp : (0 : Int) < 2 ^ b.toNat := two_pos _
  rw [imgS, pours_bet]
  simp only [betN]
  rw [Int.zero_add]
  induction L with
  | nil => rfl
  | cons n L ih =>
    rw [List.map_cons, betN, betN, ih fun m hm => h0 m (by simp [hm])]
    have hn := h0 n (by simp)
    have e1 : (imgN b n).1 = n.1 / 2 ^ b.toNat := rfl
    have e2 : (imgN b n).2 = n.2 := rfl
    have a := Int.ediv_lt_iff_lt_mul (a := n.1) (b := v + 1) hp
    have c : 0 ≤ n.1 / 2 ^ b.toNat := Int.ediv_nonneg hn (by omega)
    rw [e1, e2]
    generalize (v + 1) * 2 ^ b.toNat = y at *
    generalize n.1 / 2 ^ b.toNat = q at *
    split <;> split <;> omega
theorem wider_bag {l m : Int} {L : List Nd} (h : BagC l L) (h0 : l ≤ m) (h1 : m ≤ 48) : BagC m L := by
  have hu := h.uni
  refine ⟨by omega, h.good, fun n hn => ?_, h.tot⟩
  have hv := h.val n hn
  have h3 : (2 : Int) ^ l.toNat ≤ 2 ^ m.toNat := two_le _ _ (by omega)
  have := hv.2.2.2
  exact ⟨by omega, h1, hv.2.2.1, by omega⟩
/-- two rising lists folded: all that both have -/
theorem fold_pours {L M S F : List Nd} (hS : S.Perm (L ++ M)) (f : FInv S F) (h : Good L) (g : Good M) : F = poursN L M := by
  refine good_uniq F _ f.good (pours_good h M g.pos) fun i => ?_
  rw [f.at_, sumAt_perm i hS, sumAt_app, pours_sum]

end Go.Proofs.YtkoefclkpdpdpaaGreat

/- Plain facts on a value put into a rising list, read from its first one on; two readings of what is told. No program is spoken of here. -/
namespace Go.Proofs.YtkoefclkpdpdpaaGreat
set_option linter.unusedVariables false

theorem ins_all : ∀ (L : List Nd) (x c : Int), (∀ n ∈ L, n.1 < x) → insW L x c = L ++ [(x, c)] := by
  intro L
  induction L with
  | nil => intro x c _; rfl
  | cons n L ih =>
    intro x c h
    have := h n (by simp)
    unfold insW
    rw [if_neg (by omega), if_neg (by omega), ih x c fun m hm => h m (by simp [hm])]; rfl
theorem ins_same : ∀ (P : List Nd) (n : Nd) (x c : Int), (∀ m ∈ P, m.1 < x) → n.1 = x → insW (P ++ [n]) x c = P ++ [(n.1, n.2 + c)] := by
  intro P
  induction P with
  | nil => intro n x c _ h; simp [insW, h]
  | cons m P ih =>
    intro n x c h e
    have := h m (by simp)
    rw [List.cons_append, insW, if_neg (by omega), if_neg (by omega), ih n x c (fun q hq => h q (by simp [hq])) e]; rfl
theorem ins_ahead : ∀ (P : List Nd) (n : Nd) (x c : Int), (∀ m ∈ P, m.1 < x) → x < n.1 → insW (P ++ [n]) x c = P ++ [(x, c)] ++ [n] := by
  intro P
  induction P with
  | nil => intro n x c _ h; simp [insW, h]
  | cons m P ih =>
    intro n x c h e
    have := h m (by simp)
    rw [List.cons_append, insW, if_neg (by omega), if_neg (by omega), ih n x c (fun q hq => h q (by simp [hq])) e]; rfl
theorem ins_done : ∀ (P : List Nd) (n : Nd) (x c : Int), (∃ m ∈ P, x ≤ m.1) → insW (P ++ [n]) x c = insW P x c ++ [n] := by
  intro P
  induction P with
  | nil => intro n x c ⟨m, h, _⟩; simp at h
  | cons m P ih =>
    intro n x c ⟨q, hq, e⟩
    rw [List.cons_append, insW, insW]
    by_cases h1 : x < m.1
    · rw [if_pos h1, if_pos h1]; rfl
    · rw [if_neg h1, if_neg h1]
      by_cases h2 : m.1 = x
      · rw [if_pos h2, if_pos h2]; rfl
      · rw [if_neg h2, if_neg h2, ih n x c]; rfl
        rcases List.mem_cons.1 hq with rfl | hq
        · omega
        · exact ⟨q, hq, e⟩
/-- what the walk over the list has put out -/
def PutI (L : List Nd) (x c : Int) (k : Nat) (d : Bool) (R : List Nd) : Prop := (d = false ∧ R = L.take k ∧ ∀ n ∈ L.take k, n.1 < x) ∨ (d = true ∧ R = insW (L.take k) x c ∧ ∃ n ∈ L.take k, x ≤ n.1)
theorem putI_zero (L : List Nd) (x c : Int) : PutI L x c 0 false [] := .inl ⟨rfl, rfl, fun n h => by simp at h⟩
theorem PutI.len {L R : List Nd} {x c : Int} {k : Nat} {d : Bool} (h : PutI L x c k d R) : R.length ≤ k + 1 := by
  rcases h with ⟨_, rfl, _⟩ | ⟨_, rfl, _⟩
  · rw [List.length_take]; omega
  · have := insW_le (L.take k) x c; rw [List.length_take] at this; omega
/-- a value that is the one -/
theorem PutI.same {L R : List Nd} {x c : Int} {k : Nat} {d : Bool} (g : Good L) (hk : k < L.length) (h : PutI L x c k d R) (e : (L.getD k nz).1 = x) : PutI L x c (k + 1) true (R ++ [((L.getD k nz).1, (L.getD k nz).2 + c)]) := by
  rcases h with ⟨_, rfl, h⟩ | ⟨_, _, n, hn, hx⟩
  · exact .inr ⟨rfl, by rw [nd_take hk, ins_same _ _ _ _ h e], L.getD k nz, by rw [nd_take hk]; exact List.mem_append_right _ (List.mem_singleton.2 rfl), by omega⟩
  · exfalso
    obtain ⟨j, hj, e2⟩ := List.mem_iff_getElem.1 hn
    rw [List.length_take] at hj
    have a := good_get g (i := j) (j := k) (by omega) hk
    have b : L.getD j nz = n := by
      rw [← e2, List.getElem_take, List.getD_eq_getElem?_getD, List.getElem?_eq_getElem (by omega)]; rfl
    rw [b] at a
    omega
theorem PutI.ahead {L R : List Nd} {x c : Int} {k : Nat} (hk : k < L.length) (h : PutI L x c k false R) (e : x < (L.getD k nz).1) : PutI L x c (k + 1) true (R ++ [(x, c)] ++ [L.getD k nz]) := by
  rcases h with ⟨_, rfl, h⟩ | ⟨q, _⟩
  · exact .inr ⟨rfl, by rw [nd_take hk, ins_ahead _ _ _ _ h e], L.getD k nz, by rw [nd_take hk]; exact List.mem_append_right _ (List.mem_singleton.2 rfl), by omega⟩
  · cases q
theorem PutI.done {L R : List Nd} {x c : Int} {k : Nat} (hk : k < L.length) (h : PutI L x c k true R) : PutI L x c (k + 1) true (R ++ [L.getD k nz]) := by
  rcases h with ⟨q, _⟩ | ⟨_, rfl, n, hn, hx⟩
  · cases q
  · exact .inr ⟨rfl, by rw [nd_take hk, ins_done _ _ _ _ ⟨n, hn, hx⟩], n, by rw [nd_take hk]; simp [hn], hx⟩
theorem PutI.before {L R : List Nd} {x c : Int} {k : Nat} {d : Bool} (g : Good L) (hk : k < L.length) (h : PutI L x c k d R) (e : (L.getD k nz).1 < x) : d = false ∧ PutI L x c (k + 1) false (R ++ [L.getD k nz]) := by
  rcases h with ⟨rfl, rfl, h⟩ | ⟨_, _, n, hn, hx⟩
  · refine ⟨rfl, .inl ⟨rfl, by rw [nd_take hk], fun n hn => ?_⟩⟩
    rw [nd_take hk] at hn
    rcases List.mem_append.1 hn with hn | hn
    · exact h n hn
    · simp at hn; rw [hn]; exact e
  · exfalso
    obtain ⟨j, hj, e2⟩ := List.mem_iff_getElem.1 hn
    rw [List.length_take] at hj
    have a := good_get g (i := j) (j := k) (by omega) hk
    have b : L.getD j nz = n := by
      rw [← e2, List.getElem_take, List.getD_eq_getElem?_getD, List.getElem?_eq_getElem (by omega)]; rfl
    rw [b] at a
    omega
theorem PutI.fin {L R : List Nd} {x c : Int} {k : Nat} {d : Bool} (hk : L.length ≤ k) (h : PutI L x c k d R) : if d then R = insW L x c else R ++ [(x, c)] = insW L x c := by
  rw [PutI, List.take_of_length_le hk] at h
  rcases h with ⟨rfl, rfl, h⟩ | ⟨rfl, rfl, _⟩
  · exact (ins_all _ x c h).symm
  · rfl

end Go.Proofs.YtkoefclkpdpdpaaGreat

/- Plain facts of layer press: what a node weighs with all below it. No program is spoken of here. -/
namespace Go.Proofs.YtkoefclkpdpdpaaGreat
set_option linter.unusedVariables false

theorem above_le {a y : Int} (h : aboveB a y = true) (hy : y ≤ 9223372036854775807) : 1 ≤ a ∧ 1 ≤ y ∧ a ≤ y := by
  have q := of_decide_eq_true h
  refine ⟨q.1, q.2.1, Classical.byContradiction fun c => ?_⟩
  by_cases ha : a ≤ 9223372036854775807
  · have e := above_end q.1 (show y ≤ a by omega) ha
    rw [h] at e
    have := beq_iff_eq.1 e.symm
    omega
  · have e := q.2.2
    have : y / 2 ^ (logN y - logN a).toNat ≤ y := Int.ediv_le_self _ (by omega)
    omega
theorem above_down {a y : Int} (h : aboveB a y = true) (hy : 2 * y + 1 ≤ 9223372036854775807) : aboveB a (2 * y) = true ∧ aboveB a (2 * y + 1) = true := by
  have q := above_le h (by omega)
  have e1 := above_step (a := a) (y := 2 * y) q.1 (by omega) (by omega)
  have e2 := above_step (a := a) (y := 2 * y + 1) q.1 (by omega) (by omega)
  rw [show 2 * y / 2 = y by omega] at e1
  rw [show (2 * y + 1) / 2 = y by omega] at e2
  rw [e1, e2]
  exact ⟨h, h⟩
theorem above_one : ∀ (n : Nat) (y : Int), y.toNat ≤ n → 1 ≤ y → y ≤ 9223372036854775807 → aboveB 1 y = true := by
  intro n
  induction n with
  | zero => intro y h1 h2; omega
  | succ n ih =>
    intro y h1 h2 h3
    by_cases q : y = 1
    · subst q
      rw [above_end (by omega) (by omega) (by omega)]
      rfl
    · rw [above_step (by omega) (by omega) h3]
      exact ih _ (by omega) (by omega) (by omega)
theorem wtF_app (P : Int → Bool) (L M : List Nd) : wtF P (L ++ M) = wtF P L + wtF P M := by
  induction L with
  | nil => simp [wtF]
  | cons n L ih => simp only [List.cons_append, wtF, ih]; omega
theorem wtF_take (P : Int → Bool) {L : List Nd} {k : Nat} (hk : k < L.length) : wtF P (L.take (k + 1)) = wtF P (L.take k) + (if P (L.getD k nz).1 = true then (L.getD k nz).2 else 0) := by
  rw [nd_take hk, wtF_app]
  simp only [wtF]
  omega
theorem wtF_bd (P : Int → Bool) {L : List Nd} (h : ∀ n ∈ L, 0 ≤ n.2) : 0 ≤ wtF P L ∧ wtF P L ≤ sumC L := by
  induction L with
  | nil => exact ⟨Int.le_refl _, Int.le_refl _⟩
  | cons n L ih =>
    have a := h n (by simp)
    have b := ih fun m hm => h m (by simp [hm])
    simp only [wtF, sumC]
    split <;> omega
theorem wtF_congr {P Q : Int → Bool} {L : List Nd} (h : ∀ n ∈ L, P n.1 = Q n.1) : wtF P L = wtF Q L := by
  induction L with
  | nil => rfl
  | cons n L ih => simp only [wtF, h n (by simp), ih fun m hm => h m (by simp [hm])]
/-- what a node weighs, with all below it -/
def belN (a : Int) (L : List Nd) : Int := wtF (aboveB a) L
theorem bel_one {l : Int} {L : List Nd} (h : RollC l L) : belN 1 L = sumC L := by
  unfold belN
  rw [← wtF_all L]
  refine wtF_congr fun n hn => ?_
  have b := (nbds_roll h n hn)
  have r : RightC l n.1 := of_decide_eq_true (h.2.2.1 n hn).1
  exact above_one _ n.1 (Nat.le_refl _) r.2.2.1 (right_max (h.2.2.1 n hn).1)
theorem bel_pre {l cap a : Int} {L : List Nd} (h : RollC l L) {j : Nat} (hl : Live l cap L j) : belN a (preA l cap L j) ≤ belN a L :=
  wt_pre h hl _ fun id h1 h2 h3 => above_down h3 (by omega)
theorem bel_bd {l : Int} {L : List Nd} (h : RollC l L) (a : Int) : 0 ≤ belN a L ∧ belN a L ≤ 72057594037927935 := by
  have b := wtF_bd (aboveB a) (good_nonneg (roll_good h))
  exact ⟨b.1, Int.le_trans b.2 h.2.2.2.2⟩

end Go.Proofs.YtkoefclkpdpdpaaGreat

/- Plain facts of the layers digest and rank: nodes that stand for values: whatever is closed downwards weighs no more among the nodes than among the values. No program is spoken of here. -/
namespace Go.Proofs.YtkoefclkpdpdpaaGreat
set_option linter.unusedVariables false

/-- closed downwards: where a parent is in, its children are -/
def Down (P : Int → Bool) : Prop := ∀ id, 1 ≤ id → id ≤ 562949953421311 → P id = true → P (2 * id) = true ∧ P (2 * id + 1) = true
/-- the nodes L stand for the values T -/
structure Std (l : Int) (L T : List Nd) : Prop where
  tot : sumC L = sumC T
  low : ∀ P, Down P → wtF P L ≤ wtF (fun x => P (leafN l x)) T
theorem std_nil (l : Int) : Std l [] [] := ⟨rfl, fun P _ => Int.le_refl _⟩
theorem std_ins {l : Int} {L T : List Nd} (h : Std l L T) (x c : Int) : Std l (insW L (leafN l x) c) (insW T x c) :=
  ⟨by rw [insW_tot, insW_tot, h.tot], fun P hP => by
    have := h.low P hP
    rw [wtF_ins, wtF_ins]
    split <;> omega⟩
theorem std_fold {l : Int} {L T : List Nd} (h : Std l L T) (hr : RollC l L) {id : Int} (h1 : id ≤ 9223372036854775807) : Std l (foldW l L id) T := by
  refine ⟨(foldW_tot hr id).trans h.tot, fun P hP => ?_⟩
  by_cases h0 : pairW l L id = 0
  · rw [pair_zero hr h0]; exact h.low P hP
  · have kb := kid_bd (pair_is h0) h1
    exact Int.le_trans (wt_fold hr P (hP id kb.1 kb.2)) (h.low P hP)
theorem std_pre {l cap : Int} {L T : List Nd} (h : Std l L T) (hr : RollC l L) {j : Nat} (hl : Live l cap L j) : Std l (preA l cap L j) T :=
  ⟨(pre_inv hr hl).tot.trans h.tot, fun P hP => Int.le_trans (wt_pre hr hl P hP) (h.low P hP)⟩
theorem wtF_le {P Q : Int → Bool} {L : List Nd} (hL : NonNeg L) (h : ∀ n ∈ L, P n.1 = true → Q n.1 = true) : wtF P L ≤ wtF Q L := by
  induction L with
  | nil => exact Int.le_refl _
  | cons n L ih =>
    have a := ih (fun m hm => hL m (by simp [hm])) fun m hm => h m (by simp [hm])
    have b := hL n (by simp)
    have c := h n (by simp)
    simp only [wtF]
    split
    · rename_i q; rw [if_pos (c q)]; omega
    · split <;> omega
theorem wtF_eq {P Q : Int → Bool} {L : List Nd} (h : ∀ n ∈ L, P n.1 = Q n.1) : wtF P L = wtF Q L := by
  induction L with
  | nil => rfl
  | cons n L ih => simp only [wtF, h n (by simp), ih fun m hm => h m (by simp [hm])]
theorem wtF_not (P : Int → Bool) (L : List Nd) : wtF P L + wtF (fun n => !(P n)) L = sumC L := by
  induction L with
  | nil => rfl
  | cons n L ih =>
    simp only [wtF, sumC]
    by_cases q : P n.1 = true
    · simp only [q, Bool.not_true, if_true]; simp; omega
    · have q2 : P n.1 = false := by simpa using q
      simp only [q2, Bool.not_false]; simp; omega
/-! ### what lies above what -/
theorem above_pos {a b : Int} (h : aboveB a b = true) (hb : b ≤ 9223372036854775807) : 1 ≤ a ∧ 1 ≤ b ∧ a ≤ b := by
  have q := of_decide_eq_true h
  refine ⟨q.1, q.2.1, ?_⟩
  rw [q.2.2]
  exact Int.ediv_le_self _ (by omega)
theorem above_self {a : Int} (h : 1 ≤ a) (h1 : a ≤ 9223372036854775807) : aboveB a a = true := by rw [above_end h (Int.le_refl a) h1]; simp
theorem above_anti {a b : Int} (h : aboveB a b = true) (k : aboveB b a = true) (ha : a ≤ 9223372036854775807) (hb : b ≤ 9223372036854775807) : a = b := by
  have := above_pos h hb
  have := above_pos k ha
  omega
/-- whatever lies above a node's child lies above the node, or is the child -/
theorem above_kid {a y : Int} (ha : 1 ≤ a) (h1 : 2 ≤ y) (hy : y ≤ 9223372036854775807) (h : aboveB a y = true) (hne : a ≠ y) : aboveB a (y / 2) = true := by
  have p := above_pos h hy
  rw [above_step ha (by omega) hy] at h
  exact h
theorem above_up {m : Int} (hm : 2 ≤ m) : ∀ (N : Nat) (y : Int), y.toNat ≤ N → y ≤ 9223372036854775807 → aboveB m y = true → aboveB (m / 2) y = true
  | 0, y, hN, hy, h => by have := above_pos h hy; omega
  | N + 1, y, hN, hy, h => by
    have p := above_pos h hy
    by_cases e : m = y
    · rw [← e, above_step (by omega) (by omega) (by omega)]
      exact above_self (by omega) (by omega)
    · have h2 := above_kid p.1 (by omega) hy h e
      rw [above_step (by omega) (by omega) hy]
      exact above_up hm N (y / 2) (by omega) (by omega) h2
theorem down_above {id : Int} (h : 1 ≤ id) : Down (aboveB id) := fun n n1 n2 hn => by
  have p := above_pos hn (by omega)
  refine ⟨?_, ?_⟩
  · rw [above_step h (by omega) (by omega), show 2 * n / 2 = n by omega]; exact hn
  · rw [above_step h (by omega) (by omega), show (2 * n + 1) / 2 = n by omega]; exact hn
/-- neither above the other one -/
def apartB (id n : Int) : Bool := !(aboveB id n) && !(aboveB n id)
theorem apart_iff {id n : Int} : apartB id n = true ↔ aboveB id n = false ∧ aboveB n id = false := by unfold apartB; simp
theorem apart_kid {id n m : Int} (h : 1 ≤ id) (h1 : id ≤ 9223372036854775807) (hm : m / 2 = n) (m2 : 2 ≤ m) (hx : m ≤ 9223372036854775807) (hn : apartB id n = true) : apartB id m = true := by
  obtain ⟨a, b⟩ := apart_iff.1 hn
  refine apart_iff.2 ⟨?_, ?_⟩
  · cases q : aboveB id m
    · rfl
    · by_cases e : id = m
      · have := above_up m2 id.toNat id (Nat.le_refl _) h1 (by rw [e]; exact above_self (by omega) hx)
        rw [hm, b] at this; cases this
      · have := above_kid h m2 hx q e
        rw [hm, a] at this; cases this
  · cases q : aboveB m id
    · rfl
    · have := above_up m2 id.toNat id (Nat.le_refl _) h1 q
      rw [hm, b] at this; cases this
theorem down_apart {id : Int} (h : 1 ≤ id) (h1 : id ≤ 9223372036854775807) : Down (apartB id) := fun n n1 n2 hn =>
  ⟨apart_kid h h1 (by omega) (by omega) (by omega) hn, apart_kid h h1 (by omega) (by omega) (by omega) hn⟩
/-- what weighs strictly above a node -/
def overB (id n : Int) : Bool := !(n == id) && aboveB n id
theorem wt_three {id : Int} {L : List Nd} (h : 1 ≤ id) (h1 : id ≤ 9223372036854775807) (hL : ∀ n ∈ L, 1 ≤ n.1 ∧ n.1 ≤ 9223372036854775807) : wtF (aboveB id) L + wtF (overB id) L + wtF (apartB id) L = sumC L := by
  induction L with
  | nil => rfl
  | cons n L ih =>
    have a := ih fun m hm => hL m (by simp [hm])
    have b := hL n (by simp)
    have key : (if aboveB id n.1 = true then n.2 else 0) + (if overB id n.1 = true then n.2 else 0) + (if apartB id n.1 = true then n.2 else 0) = n.2 := by
      unfold overB apartB
      cases q1 : aboveB id n.1 <;> cases q2 : aboveB n.1 id
      · simp
      · have e : n.1 ≠ id := fun e => by rw [e, above_self h h1] at q1; cases q1
        simp [e]
      · simp
      · have e := above_anti q1 q2 h1 b.2
        simp [e.symm]
    simp only [wtF, sumC]
    omega
/-- what of the values lies below a node -/
theorem wt_held {l id : Int} {T : List Nd} (hT : BagC l T) (h : RightC l id) (h1 : id ≤ 9223372036854775807) : wtF (fun x => aboveB id (leafN l x)) T = betN T (loN l id) (hiN l id) := by
  have hv := hT.val
  clear hT
  induction T with
  | nil => rfl
  | cons n T ih =>
    have a := ih fun m hm => hv m (by simp [hm])
    have b := above_leaf h (hv n (by simp)) h1
    simp only [wtF, betN, b, a, decide_eq_true_eq]
/-- of the values at least as much lies below each node as weighs there and below it, and at most that and what weighs above it -/
theorem std_held {l id : Int} {L T : List Nd} (h : Std l L T) (hr : RollC l L) (hT : BagC l T) (hi : RightC l id) (h1 : id ≤ 9223372036854775807) :
    wtF (aboveB id) L ≤ betN T (loN l id) (hiN l id) ∧ betN T (loN l id) (hiN l id) ≤ wtF (aboveB id) L + wtF (overB id) L := by
  have i1 := hi.2.2.1
  have a := h.low _ (down_above i1)
  have b := h.low _ (down_apart i1 h1)
  rw [wt_held hT hi h1] at a
  have c := wt_three i1 h1 (L := L) fun n hn => ⟨(right_pos (hr.2.2.1 n hn).1), right_max (hr.2.2.1 n hn).1⟩
  have d := wtF_le (P := fun x => apartB id (leafN l x)) (Q := fun x => !(aboveB id (leafN l x))) (good_nonneg hT.good) fun n _ q => by
    have := (apart_iff.1 q).1
    simp [this]
  have e := wtF_not (fun x => aboveB id (leafN l x)) T
  rw [wt_held hT hi h1] at e
  have f := h.tot
  omega
/-! ### how much the nodes above a value may weigh -/
theorem wt_over_step {y : Int} {L : List Nd} (hy : 2 ≤ y) (h1 : y ≤ 9223372036854775807) (hL : ∀ n ∈ L, 1 ≤ n.1 ∧ n.1 ≤ 9223372036854775807) : wtF (overB y) L = sumAt (y / 2) L + wtF (overB (y / 2)) L := by
  induction L with
  | nil => rfl
  | cons n L ih =>
    have a := ih fun m hm => hL m (by simp [hm])
    have b := hL n (by simp)
    have key : (if overB y n.1 = true then n.2 else 0) = (if n.1 = y / 2 then n.2 else 0) + (if overB (y / 2) n.1 = true then n.2 else 0) := by
      by_cases e : n.1 = y / 2
      · have q1 : overB y n.1 = true := by
          unfold overB
          rw [e, above_step (by omega) (by omega) h1, above_self (by omega) (by omega)]
          have : ¬ y / 2 = y := by omega
          simp [this]
        have q2 : overB (y / 2) n.1 = false := by unfold overB; simp [e]
        rw [if_pos q1, if_pos e, q2]; simp
      · have q : overB y n.1 = overB (y / 2) n.1 := by
          unfold overB
          by_cases z : n.1 = y
          · have : aboveB n.1 (y / 2) = false := by
              cases w : aboveB n.1 (y / 2)
              · rfl
              · have := above_pos w (by omega); omega
            rw [z] at this
            simp only [z, this, beq_self_eq_true, Bool.not_true, Bool.false_and, Bool.and_false]
          · by_cases lt : n.1 < y
            · have z2 : (n.1 == y) = false := by simpa using z
              have e2 : (n.1 == y / 2) = false := by simpa using e
              rw [above_step b.1 lt h1, z2, e2]
            · have w1 : aboveB n.1 y = false := by
                cases w : aboveB n.1 y
                · rfl
                · have := above_pos w h1; omega
              have w2 : aboveB n.1 (y / 2) = false := by
                cases w : aboveB n.1 (y / 2)
                · rfl
                · have := above_pos w (by omega); omega
              simp [w1, w2]
        rw [q, if_neg e]; omega
    simp only [wtF, sumAt, key, a]
    omega
theorem wt_over_le {cap : Int} {L : List Nd} (hg : Good L) (h0 : 0 ≤ cap) (hL : ∀ n ∈ L, 1 ≤ n.1 ∧ n.1 ≤ 9223372036854775807) : ∀ (k : Nat) (y : Int), AtDep y k → y ≤ 9223372036854775807 → (∀ n ∈ L, overB y n.1 = true → n.2 ≤ cap) → wtF (overB y) L ≤ (k : Int) * cap := by
  intro k
  induction k with
  | zero =>
    intro y hd hy _
    have e := dep_zero hd
    have : wtF (overB y) L = 0 := by
      have q : wtF (overB y) L = wtF (fun _ => false) L := wtF_eq fun n hn => by
        have b := hL n hn
        unfold overB
        by_cases z : n.1 = y
        · simp [z]
        · have : aboveB n.1 y = false := by
            cases w : aboveB n.1 y
            · rfl
            · have := above_pos w hy; omega
          simp [this]
      have z : ∀ M : List Nd, wtF (fun _ => false) M = 0 := fun M => by
        induction M with
        | nil => rfl
        | cons n M ih => simp only [wtF, ih]; rfl
      rw [q, z]
    rw [this]; omega
  | succ k ih =>
    intro y hd hy hc
    have h2 : 2 ≤ y := by
      have := hd.1
      have p := two_pos k
      rw [two_succ] at this; omega
    have s := wt_over_step h2 hy hL
    have sub : ∀ n ∈ L, overB (y / 2) n.1 = true → n.2 ≤ cap := fun n hn q => by
      refine hc n hn ?_
      unfold overB at q ⊢
      have b := hL n hn
      have q2 : aboveB n.1 (y / 2) = true := by
        cases w : aboveB n.1 (y / 2)
        · rw [w] at q; simp at q
        · rfl
      have p := above_pos q2 (by omega)
      have ne : ¬ n.1 = y := by omega
      rw [above_step b.1 (by omega) hy, q2]
      simp [ne]
    have a := ih (y / 2) (dep_half hd) (by omega) sub
    have c : sumAt (y / 2) L ≤ cap := by
      by_cases z : sumAt (y / 2) L = 0
      · omega
      · obtain ⟨n, hn, e⟩ := sum_mem z
        have g := good_mem hg hn
        rw [e] at g
        rw [g]
        refine hc n hn ?_
        unfold overB
        rw [e, above_step (by omega) (by omega) hy, above_self (by omega) (by omega)]
        have : ¬ y / 2 = y := by omega
        simp [this]
    rw [s, Int.natCast_add, Int.add_mul]
    omega

end Go.Proofs.YtkoefclkpdpdpaaGreat

/- Plain facts of the layers digest and rank: what a digest keeps from call to call; the rank of a number is within what the nodes tell. No program is spoken of here. -/
namespace Go.Proofs.YtkoefclkpdpdpaaGreat
set_option linter.unusedVariables false

/-! ### pressed -/
/-- folded as far as may be, j times -/
structure Pressed (l cap : Int) (L M : List Nd) (j : Nat) : Prop where
  live : Live l cap L j
  stop : hasX l cap (preA l cap L j) = false
  is : M = preA l cap L j
theorem pressed_uniq {l cap : Int} {L M M2 : List Nd} {j k : Nat} (a : Pressed l cap L M j) (b : Pressed l cap L M2 k) : M = M2 ∧ j = k := by
  have e := live_uniq a.live b.live a.stop b.stop
  subst e
  exact ⟨a.is.trans b.is.symm, rfl⟩
theorem pressed_few {l k : Int} {L M : List Nd} {j : Nat} (h : RollC l L) (hk : 1 ≤ k) (p : Pressed l (sumC L / k) L M j) : (M.length : Int) ≤ 4 * k - 1 ∧ M.length ≤ L.length ∧ RollC l M ∧ sumC M = sumC L := by
  have q := pre_inv h p.live
  rw [p.is]
  refine ⟨tight_few q.roll hk fun y => ?_, q.len, q.roll, q.tot⟩
  rw [q.tot]
  exact none_all q.roll p.stop y
/-- what a digest keeps -/
structure DgC (l k : Int) (L T : List Nd) : Prop where
  kk : 1 ≤ k
  roll : RollC l L
  len : (L.length : Int) ≤ 8 * k
  light : LightC l (sumC L / k) L
  bag : BagC l T
  std : Std l L T
theorem dg_nil {l k : Int} (hl : 1 ≤ l ∧ l ≤ 48) (hk : 1 ≤ k) : DgC l k [] [] :=
  ⟨hk, roll_nil (uni_yes hl), by simp; omega, fun n h => by simp at h, bag_nil hl, std_nil l⟩
theorem dg_press {l k : Int} {L M T : List Nd} {j : Nat} (h : DgC l k L T) (p : Pressed l (sumC L / k) L M j) : DgC l k M T ∧ (M.length : Int) ≤ 4 * k - 1 := by
  have q := pressed_few h.roll h.kk p
  refine ⟨⟨h.kk, q.2.2.1, by have := h.len; omega, ?_, h.bag, ?_⟩, q.1⟩
  · rw [q.2.2.2, p.is]; exact light_pre h.roll p.live h.light
  · rw [p.is]; exact std_pre h.std h.roll p.live
theorem leaf_right {l x : Int} (h : ValC l x) : RightC l (leafN l x) ∧ logN (leafN l x) = l ∧ leafN l x ≤ 562949953421311 ∧ 1 ≤ leafN l x := by
  obtain ⟨h1, h2, h3, h4⟩ := h
  have e := (leaf_yes ⟨h1, h2, h3, h4⟩).1
  have b := two_le l.toNat 48 (by omega)
  have p := two_pos l.toNat
  have d : AtDep (leafN l x) l.toNat := ⟨by rw [e]; omega, by rw [e]; omega⟩
  have m : leafN l x ≤ 562949953421311 := by rw [e]; omega
  have g := (dep_is d (by omega)).1
  have g2 : logN (leafN l x) = l := by rw [g]; omega
  have o : 1 ≤ leafN l x := by rw [e]; omega
  exact ⟨⟨h1, h2, o, by omega⟩, g2, m, o⟩
/-- one value more, where there is room -/
theorem dg_ins {l k : Int} {L T : List Nd} {x c : Int} (h : DgC l k L T) (hx : ValC l x) (hc : ¬ c < 1) (ht : ¬ 72057594037927935 < sumC L + c) (hroom : sumAt (leafN l x) L = 0 → (L.length : Int) < 8 * k) : DgC l k (insW L (leafN l x) c) (insW T x c) := by
  have lf := leaf_right hx
  have g := roll_good h.roll
  have ea : addW L (leafN l x) c = insW L (leafN l x) c := if_neg (by omega)
  have hrl : RollC l (insW L (leafN l x) c) := by rw [← ea]; exact roll_add h.roll (right_yes lf.1) (by omega) (by omega)
  refine ⟨h.kk, hrl, ?_, ?_, h.bag.ins hx hc (by rw [← h.std.tot]; exact ht), std_ins h.std x c⟩
  · rw [insW_len g]
    have := h.len
    split
    · rename_i z; have := hroom z; omega
    · exact this
  · intro m hm hk
    have gM := roll_good hrl
    have e := good_mem gM hm
    have p := gM.pos m hm
    rw [insW_sum] at e
    have ne : ¬ leafN l x = m.1 := fun q => hk.2 ⟨hk.1.1, hk.1.2.1, hk.1.2.2.1, by rw [← q]; exact lf.2.1⟩
    rw [if_neg ne] at e
    obtain ⟨n, hn, hq⟩ := sum_mem (L := L) (i := m.1) (by omega)
    have gn := good_mem g hn
    have a := h.light n hn (by rw [hq]; exact hk)
    rw [hq] at gn
    rw [insW_tot]
    have mono : sumC L / k ≤ (sumC L + c) / k := Int.ediv_le_ediv (by have := h.kk; omega) (by omega)
    omega
/-! ### ranks -/
def lowR (l : Int) (L : List Nd) (y : Int) : Int := wtF (fun n => decide (hiN l n ≤ y)) L
def highR (l : Int) (L : List Nd) (y : Int) : Int := wtF (fun n => decide (loN l n ≤ y)) L
theorem kid_of {l n m : Int} (h1 : 1 ≤ n) (h2 : n ≤ 562949953421311) (hm : m = 2 * n ∨ m = 2 * n + 1) (h : RightC l m) : KidC l n := by
  have lk := log_kid h1 (by omega)
  have e : logN m = logN n + 1 := by rcases hm with q | q <;> rw [q]; exact lk.1; exact lk.2
  have := h.2.2.2
  exact ⟨⟨h.1, h.2.1, h1, by omega⟩, fun c => by have := c.2.2.2; omega⟩
theorem leaf_ends {l x : Int} (h : ValC l x) : loN l (leafN l x) = x ∧ hiN l (leafN l x) = x := by
  have lf := leaf_right h
  have e := end_yes lf.1
  have w : wid l (leafN l x) = 1 := by unfold wid; rw [lf.2.1, show (l - l).toNat = 0 by omega]; rfl
  rw [e.1, e.2.1, w, (leaf_yes h).1]
  omega
theorem lo_hi {l n : Int} (h : RightC l n) : loN l n ≤ hiN l n := by
  have e := end_yes h
  have p := wid_pos l n
  rw [e.1, e.2.1]; omega
theorem kid_in {l n m : Int} (hk : KidC l n) (h2 : n ≤ 562949953421311) (hm : m = 2 * n ∨ m = 2 * n + 1) : loN l n ≤ loN l m ∧ hiN l m ≤ hiN l n := by
  have e := kid_ends hk (by omega)
  have r1 : RightC l (2 * n) := of_decide_eq_true e.1
  have r2 : RightC l (2 * n + 1) := of_decide_eq_true e.2.1
  have a := lo_hi r1
  have b := lo_hi r2
  rcases hm with q | q <;> rw [q] <;> omega
/-- nodes that end at most at y; what is no node of the universe counts, too -/
def upP (l y n : Int) : Bool := decide (RightC l n → hiN l n ≤ y)
def dnP (l y n : Int) : Bool := decide (RightC l n → y < loN l n)
theorem down_up (l y : Int) : Down (upP l y) := fun n n1 n2 hn => by
  have hn := of_decide_eq_true hn
  have key : ∀ m, (m = 2 * n ∨ m = 2 * n + 1) → upP l y m = true := fun m hm => decide_eq_true fun hr => by
    have hk := kid_of n1 n2 hm hr
    have e := kid_in hk n2 hm
    have := hn hk.1
    omega
  exact ⟨key _ (.inl rfl), key _ (.inr rfl)⟩
theorem down_dn (l y : Int) : Down (dnP l y) := fun n n1 n2 hn => by
  have hn := of_decide_eq_true hn
  have key : ∀ m, (m = 2 * n ∨ m = 2 * n + 1) → dnP l y m = true := fun m hm => decide_eq_true fun hr => by
    have hk := kid_of n1 n2 hm hr
    have e := kid_in hk n2 hm
    have := hn hk.1
    omega
  exact ⟨key _ (.inl rfl), key _ (.inr rfl)⟩
theorem wt_rank {l y : Int} {T : List Nd} (hT : BagC l T) : wtF (fun x => upP l y (leafN l x)) T = betN T 0 y ∧ wtF (fun x => dnP l y (leafN l x)) T = sumC T - betN T 0 y := by
  have hv := hT.val
  clear hT
  induction T with
  | nil => exact ⟨rfl, rfl⟩
  | cons n T ih =>
    obtain ⟨a, b⟩ := ih fun m hm => hv m (by simp [hm])
    have v := hv n (by simp)
    have lf := leaf_right v
    have e := leaf_ends v
    have u : upP l y (leafN l n.1) = decide (n.1 ≤ y) := by unfold upP; rw [e.2]; simp [lf.1]
    have d : dnP l y (leafN l n.1) = decide (y < n.1) := by unfold dnP; rw [e.1]; simp [lf.1]
    have v0 := v.2.2.1
    simp only [wtF, betN, sumC, a, b, u, d, decide_eq_true_eq]
    by_cases q : n.1 ≤ y
    · rw [if_pos q, if_pos ⟨v0, q⟩, if_neg (by omega)]; omega
    · rw [if_neg q, if_neg (fun z => q z.2), if_pos (by omega)]; omega
/-- the rank of a number among the values is within what the nodes tell -/
theorem std_rank {l y : Int} {L T : List Nd} (h : Std l L T) (hr : RollC l L) (hT : BagC l T) : lowR l L y ≤ betN T 0 y ∧ betN T 0 y ≤ highR l L y := by
  have w := wt_rank (y := y) hT
  have a := h.low _ (down_up l y)
  have b := h.low _ (down_dn l y)
  rw [w.1] at a
  rw [w.2] at b
  have e1 : wtF (upP l y) L = lowR l L y := wtF_eq fun n hn => by
    have r : RightC l n.1 := of_decide_eq_true (hr.2.2.1 n hn).1
    unfold upP; simp [r]
  have e2 : wtF (dnP l y) L = wtF (fun n => !(decide (loN l n ≤ y))) L := wtF_eq fun n hn => by
    have r : RightC l n.1 := of_decide_eq_true (hr.2.2.1 n hn).1
    unfold dnP
    by_cases q : loN l n.1 ≤ y
    · rw [decide_eq_false (fun z => by have := z r; omega), decide_eq_true q]; rfl
    · rw [decide_eq_true (fun _ => by omega), decide_eq_false q]; rfl
  have c := wtF_not (fun n => decide (loN l n ≤ y)) L
  rw [e1] at a
  rw [e2] at b
  have t := h.tot
  unfold highR
  omega
/-- and both are apart by at most the cap for each bit -/
theorem rank_gap {l y cap : Int} {L : List Nd} (hr : RollC l L) (h0 : 0 ≤ cap) (hl : LightC l cap L) : lowR l L y ≤ highR l L y ∧ highR l L y - lowR l L y ≤ l * cap := by
  have g := roll_good hr
  have nn := good_nonneg g
  have key : ∀ n ∈ L, RightC l n.1 ∧ 1 ≤ n.1 ∧ n.1 ≤ 9223372036854775807 ∧ loN l n.1 ≤ hiN l n.1 ∧ 0 ≤ loN l n.1 ∧ hiN l n.1 < 2 ^ l.toNat := fun n hn => by
    have r : RightC l n.1 := of_decide_eq_true (hr.2.2.1 n hn).1
    have m := right_max (hr.2.2.1 n hn).1
    have e := end_yes r
    have b := wid_bd r m
    have p := wid_pos l n.1
    rw [e.1, e.2.1]
    exact ⟨r, r.2.2.1, m, by omega, by omega, by omega⟩
  have lh : lowR l L y ≤ highR l L y := wtF_le nn fun n hn q => by
    have a := of_decide_eq_true q
    have := (key n hn).2.2.2.1
    exact decide_eq_true (by omega)
  refine ⟨lh, ?_⟩
  have u : 1 ≤ l ∧ l ≤ 48 := of_decide_eq_true hr.1
  by_cases hy : 0 ≤ y ∧ y < 2 ^ l.toNat
  · have hv : ValC l y := ⟨u.1, u.2, hy.1, hy.2⟩
    have lf := leaf_right hv
    have d : AtDep (leafN l y) l.toNat := by
      have p := two_pos l.toNat
      rw [(leaf_yes hv).1]; exact ⟨by omega, by omega⟩
    have over : ∀ n ∈ L, overB (leafN l y) n.1 = true → n.2 ≤ cap := fun n hn q => by
      have k := key n hn
      refine hl n hn ⟨k.1, fun c => ?_⟩
      unfold overB at q
      have ne : n.1 ≠ leafN l y := fun e => by rw [e] at q; simp at q
      have ab : aboveB n.1 (leafN l y) = true := by
        cases w : aboveB n.1 (leafN l y)
        · rw [w] at q; simp at q
        · rfl
      have z := of_decide_eq_true ab
      have c4 := c.2.2.2
      rw [lf.2.1, c4, show (l - l).toNat = 0 by omega] at z
      simp at z
      exact ne z.2.2
    have a := wt_over_le (cap := cap) g h0 (fun n hn => ⟨(key n hn).2.1, (key n hn).2.2.1⟩) l.toNat (leafN l y) d (by omega) over
    have e : (l.toNat : Int) = l := by omega
    rw [e] at a
    have s : highR l L y ≤ lowR l L y + wtF (overB (leafN l y)) L := by
      unfold highR lowR
      clear a over lh hl g hr
      induction L with
      | nil => simp [wtF]
      | cons n L ih =>
        have i := ih (fun m hm => nn m (by simp [hm])) fun m hm => key m (by simp [hm])
        have k := key n (by simp)
        have n0 := nn n (by simp)
        simp only [wtF, decide_eq_true_eq]
        by_cases q1 : loN l n.1 ≤ y
        · by_cases q2 : hiN l n.1 ≤ y
          · rw [if_pos q1, if_pos q2]
            split <;> omega
          · have ab := above_leaf k.1 hv k.2.2.1
            rw [decide_eq_true (show loN l n.1 ≤ y ∧ y ≤ hiN l n.1 by omega)] at ab
            have ne : ¬ n.1 = leafN l y := fun e => by
              have := leaf_ends hv
              rw [← e] at this
              omega
            have ob : overB (leafN l y) n.1 = true := by unfold overB; simp [ne, ab]
            rw [if_pos q1, if_neg q2, if_pos ob]
            omega
        · rw [if_neg q1]
          split <;> split <;> omega
    omega
  · have eq : highR l L y = lowR l L y := wtF_eq fun n hn => by
      have k := key n hn
      by_cases q : 0 ≤ y
      · rw [decide_eq_true (show loN l n.1 ≤ y by omega), decide_eq_true (show hiN l n.1 ≤ y by omega)]
      · rw [decide_eq_false (show ¬ loN l n.1 ≤ y by omega), decide_eq_false (show ¬ hiN l n.1 ≤ y by omega)]
    rw [eq]
    have : 0 ≤ l * cap := Int.mul_nonneg (by omega) h0
    omega

end Go.Proofs.YtkoefclkpdpdpaaGreat

/- Plain facts of layer digest: the folds of a press as a function; a digest's list behind each call. No program is spoken of here. -/
namespace Go.Proofs.YtkoefclkpdpdpaaGreat
set_option linter.unusedVariables false

/-! ### how many folds a press makes -/
def findJ (l cap : Int) (L : List Nd) : Nat → Nat → Nat
  | 0, j => j
  | f + 1, j => if hasX l cap (preA l cap L j) = true then findJ l cap L f (j + 1) else j
theorem findJ_is {l cap : Int} {L : List Nd} (h : RollC l L) : ∀ (f j : Nat), Live l cap L j → (phi L).toNat < j + f → Live l cap L (findJ l cap L f j) ∧ hasX l cap (preA l cap L (findJ l cap L f j)) = false := by
  intro f
  induction f with
  | zero =>
    intro j hl hf
    have q := pre_inv h hl
    have a := (phi_bd q.roll).1
    have b := q.phi
    omega
  | succ f ih =>
    intro j hl hf
    unfold findJ
    by_cases q : hasX l cap (preA l cap L j) = true
    · rw [if_pos q]
      exact ih (j + 1) (live_step hl q) (by omega)
    · rw [if_neg q]
      exact ⟨hl, by simpa using q⟩
def pressJ (l cap : Int) (L : List Nd) : Nat := findJ l cap L ((phi L).toNat + 1) 0
theorem press_is {l : Int} (cap : Int) {L : List Nd} (h : RollC l L) : Live l cap L (pressJ l cap L) ∧ hasX l cap (preA l cap L (pressJ l cap L)) = false :=
  findJ_is h _ 0 (fun i hi => absurd hi (Nat.not_lt_zero i)) (by omega)
theorem press_uniq {l cap : Int} {L : List Nd} (h : RollC l L) {j : Nat} (hl : Live l cap L j) (hx : hasX l cap (preA l cap L j) = false) : j = pressJ l cap L :=
  live_uniq hl (press_is cap h).1 hx (press_is cap h).2
/-- what a press leaves, and how many folds it makes -/
def pressW (l k : Int) (L : List Nd) : List Nd := preA l (sumC L / k) L (pressJ l (sumC L / k) L)
def pressN (l k : Int) (L : List Nd) : Nat := pressJ l (sumC L / k) L
theorem pressed_fun {l : Int} (k : Int) {L : List Nd} (h : RollC l L) : Pressed l (sumC L / k) L (pressW l k L) (pressN l k L) :=
  ⟨(press_is _ h).1, (press_is _ h).2, rfl⟩
theorem pressN_le {l k : Int} {L : List Nd} (h : RollC l L) : (pressN l k L : Int) ≤ l * (L.length : Int) := live_le h (press_is _ h).1
/-! ### a digest's list -/
structure DgV (l k : Int) (L : List Nd) : Prop where
  k1 : 1 ≤ k
  k2 : k ≤ 1048576
  roll : RollC l L
  len : (L.length : Int) ≤ 8 * k
  light : LightC l (sumC L / k) L
/-- what was accepted stands behind it -/
structure DgS (l : Int) (L T : List Nd) : Prop where
  bag : BagC l T
  std : Std l L T
theorem dgC_of {l k : Int} {L T : List Nd} (v : DgV l k L) (s : DgS l L T) : DgC l k L T := ⟨v.k1, v.roll, v.len, v.light, s.bag, s.std⟩
theorem dgV_of {l k : Int} {L T : List Nd} (c : DgC l k L T) (h : k ≤ 1048576) : DgV l k L := ⟨c.kk, h, c.roll, c.len, c.light⟩
theorem dgS_of {l k : Int} {L T : List Nd} (c : DgC l k L T) : DgS l L T := ⟨c.bag, c.std⟩
theorem dgV_nil {l k : Int} (hl : 1 ≤ l ∧ l ≤ 48) (h1 : 1 ≤ k) (h2 : k ≤ 1048576) : DgV l k [] := dgV_of (dg_nil hl h1) h2
theorem dgS_nil {l : Int} (hl : 1 ≤ l ∧ l ≤ 48) : DgS l [] [] := ⟨bag_nil hl, std_nil l⟩
theorem dgV_press {l k : Int} {L : List Nd} (v : DgV l k L) : DgV l k (pressW l k L) ∧ ((pressW l k L).length : Int) ≤ 4 * k - 1 ∧ (pressW l k L).length ≤ L.length ∧ sumC (pressW l k L) = sumC L := by
  have p := pressed_fun k v.roll
  have q := pressed_few v.roll v.k1 p
  have a := q.2.1
  have b := v.len
  refine ⟨⟨v.k1, v.k2, q.2.2.1, by omega, ?_⟩, q.1, a, q.2.2.2⟩
  rw [q.2.2.2]
  exact light_pre v.roll p.live v.light
theorem dgS_press {l k : Int} {L T : List Nd} (v : RollC l L) (s : DgS l L T) : DgS l (pressW l k L) T := ⟨s.bag, std_pre s.std v (pressed_fun k v).live⟩
/-- pressed once more, nothing is folded -/
theorem press_again {l k : Int} {L : List Nd} (h : RollC l L) : pressN l k (pressW l k L) = 0 := by
  have p := pressed_fun k h
  have q := pre_inv h p.live
  have t : sumC (pressW l k L) = sumC L := q.tot
  unfold pressN
  rw [t]
  refine (press_uniq (j := 0) q.roll (fun i hi => absurd hi (Nat.not_lt_zero i)) ?_).symm
  exact p.stop
/-! ### Insert -/
def dgE (l : Int) (L : List Nd) (x c : Int) : Int := if ValC l x then (if c < 1 then 4 else if 72057594037927935 - sumC L < c then 5 else 0) else 3
def dgRoom (l k : Int) (L : List Nd) (x : Int) : List Nd := if sumAt (leafN l x) L = 0 ∧ (L.length : Int) = 8 * k then pressW l k L else L
def dgIns (l k : Int) (L : List Nd) (x c : Int) : List Nd := if dgE l L x c = 0 then insW (dgRoom l k L x) (leafN l x) c else L
theorem dgE_yes {l : Int} {L : List Nd} {x c : Int} (h : dgE l L x c = 0) : ValC l x ∧ ¬ c < 1 ∧ ¬ 72057594037927935 < sumC L + c := by
  unfold dgE at h
  split at h
  · rename_i q
    split at h
    · simp at h
    · split at h
      · simp at h
      · exact ⟨q, by omega, by omega⟩
  · simp at h
theorem dgRoom_is {l k : Int} {L : List Nd} (v : DgV l k L) (x : Int) : DgV l k (dgRoom l k L x) ∧ sumC (dgRoom l k L x) = sumC L ∧ (dgRoom l k L x).length ≤ L.length ∧ (sumAt (leafN l x) (dgRoom l k L x) = 0 → ((dgRoom l k L x).length : Int) < 8 * k) := by
  unfold dgRoom
  have p := dgV_press v
  have k1 := v.k1
  split
  · exact ⟨p.1, p.2.2.2, p.2.2.1, fun _ => by omega⟩
  · rename_i q
    have := v.len
    exact ⟨v, rfl, Nat.le_refl _, fun z => by
      refine Classical.byContradiction fun c => q ⟨z, by omega⟩⟩
theorem dgS_room {l k : Int} {L T : List Nd} (v : RollC l L) (s : DgS l L T) (x : Int) : DgS l (dgRoom l k L x) T := by
  unfold dgRoom
  split
  · exact dgS_press v s
  · exact s
/-- behind an Insert: the digest is one, and what was accepted stands behind it -/
theorem dgS_ins {l k : Int} {L T : List Nd} (v : DgV l k L) (s : DgS l L T) (x c : Int) : DgV l k (dgIns l k L x c) ∧ DgS l (dgIns l k L x c) (if dgE l L x c = 0 then insW T x c else T) := by
  unfold dgIns
  by_cases h : dgE l L x c = 0
  · rw [if_pos h, if_pos h]
    obtain ⟨hx, hc, ht⟩ := dgE_yes h
    have r := dgRoom_is v x
    have z := dg_ins (dgC_of r.1 (dgS_room v.roll s x)) hx hc (by rw [r.2.1]; exact ht) r.2.2.2
    exact ⟨dgV_of z v.k2, dgS_of z⟩
  · rw [if_neg h, if_neg h]
    exact ⟨v, s⟩
theorem dgV_ins {l k : Int} {L : List Nd} (v : DgV l k L) (x c : Int) : DgV l k (dgIns l k L x c) := by
  unfold dgIns
  by_cases h : dgE l L x c = 0
  · rw [if_pos h]
    obtain ⟨hx, hc, ht⟩ := dgE_yes h
    have r := dgRoom_is v x
    have lf := leaf_right hx
    have g := roll_good r.1.roll
    have ea : addW (dgRoom l k L x) (leafN l x) c = insW (dgRoom l k L x) (leafN l x) c := if_neg (by omega)
    have hrl : RollC l (insW (dgRoom l k L x) (leafN l x) c) := by rw [← ea]; exact roll_add r.1.roll (right_yes lf.1) (by omega) (by rw [r.2.1]; omega)
    refine ⟨v.k1, v.k2, hrl, ?_, fun m hm hk => ?_⟩
    · rw [insW_len g]
      have := r.1.len
      split
      · rename_i z; have := r.2.2.2 z; omega
      · exact this
    · have gM := roll_good hrl
      have e := good_mem gM hm
      have p := gM.pos m hm
      rw [insW_sum] at e
      have ne : ¬ leafN l x = m.1 := fun q => hk.2 ⟨hk.1.1, hk.1.2.1, hk.1.2.2.1, by rw [← q]; exact lf.2.1⟩
      rw [if_neg ne] at e
      obtain ⟨n, hn, hq⟩ := sum_mem (L := dgRoom l k L x) (i := m.1) (by omega)
      have gn := good_mem g hn
      have a := r.1.light n hn (by rw [hq]; exact hk)
      rw [hq] at gn
      rw [insW_tot]
      have mono : sumC (dgRoom l k L x) / k ≤ (sumC (dgRoom l k L x) + c) / k := Int.ediv_le_ediv (by have := v.k1; omega) (by omega)
      omega
  · rw [if_neg h]
    exact v
theorem dgIns_tot {l k : Int} {L : List Nd} (v : DgV l k L) (x c : Int) : sumC (dgIns l k L x c) = sumC L + (if dgE l L x c = 0 then c else 0) ∧ (dgIns l k L x c).length ≤ L.length + 1 := by
  unfold dgIns
  by_cases h : dgE l L x c = 0
  · have r := dgRoom_is v x
    rw [if_pos h, if_pos h, insW_tot, r.2.1, insW_len (roll_good r.1.roll)]
    refine ⟨rfl, ?_⟩
    have := r.2.2.1
    split <;> omega
  · rw [if_neg h, if_neg h]
    exact ⟨by omega, by omega⟩
/-! ### a call: 1 Compress, 2 Reset, else Insert -/
def dgDo (l k : Int) (L : List Nd) (kd x c : Int) : List Nd := if kd = 1 then pressW l k L else if kd = 2 then [] else dgIns l k L x c
def dgTell (l k : Int) (L : List Nd) (kd x c : Int) : Int := if kd = 1 then (pressN l k L : Int) else if kd = 2 then 0 else dgE l L x c
theorem dgV_do {l k : Int} {L : List Nd} (v : DgV l k L) (kd x c : Int) : DgV l k (dgDo l k L kd x c) ∧ (dgDo l k L kd x c).length ≤ L.length + 1 := by
  unfold dgDo
  split
  · have := dgV_press v
    exact ⟨this.1, by omega⟩
  · split
    · exact ⟨dgV_nil (of_decide_eq_true v.roll.1) v.k1 v.k2, by simp⟩
    · exact ⟨dgV_ins v x c, (dgIns_tot v x c).2⟩
/-- all that was accepted behind a call -/
def dgBag (l : Int) (L T : List Nd) (kd x c : Int) : List Nd := if kd = 1 then T else if kd = 2 then [] else if dgE l L x c = 0 then insW T x c else T
theorem dgS_do {l k : Int} {L T : List Nd} (v : DgV l k L) (s : DgS l L T) (kd x c : Int) : DgS l (dgDo l k L kd x c) (dgBag l L T kd x c) := by
  unfold dgDo dgBag
  split
  · exact dgS_press v.roll s
  · split
    · exact dgS_nil (of_decide_eq_true v.roll.1)
    · exact (dgS_ins v s x c).2

end Go.Proofs.YtkoefclkpdpdpaaGreat

/- A digest in memory: what it is made of and its pool, and the blocks that they take. No walk is made here. -/
namespace Go.Proofs.YtkoefclkpdpdpaaGreat
set_option linter.unusedVariables false
set_option maxRecDepth 100000
open Go.RowKit

/-- the blocks of a digest -/
def dgF (q p g h : Nat) : Nat → Prop := fun i => i = q ∨ poF p g h i
/-- the cells of a digest's box -/
def dgCells (l k kd : Int) (p : Nat) : List Value := [.int .i64 l, .int .i64 k, .int .i64 kd, .pointer (some ⟨p, 0, none⟩)]
structure DgA (w : World) (B q p g h : Nat) (kd l k : Int) (n : Nat) (L : List Nd) : Prop where
  top : w.ownsRow B 124 4 (.slice (some ⟨q, 0, none⟩) 1 1) 1 (dgCells l k kd p)
  po : PoA w B p g h kd l n L
  v : DgV l k L
section
variable {w w' : World} {B q p g h : Nat} {kd l k : Int} {n : Nat} {L : List Nd}
theorem DgA.below (d : DgA w B q p g h kd l k n L) (hb : Below w.heap.size w w') : DgA w' B q p g h kd l k n L := ⟨own_below d.top hb, d.po.below hb, d.v⟩
theorem DgA.low {B2 : Nat} (d : DgA w B q p g h kd l k n L) (hB : B2 ≤ B) : DgA w B2 q p g h kd l k n L := ⟨own_low d.top hB, d.po.low hB, d.v⟩
theorem DgA.more {m : Nat} (d : DgA w B q p g h kd l k n L) (hm : n ≤ m) : DgA w B q p g h kd l k m L := ⟨d.top, d.po.more hm, d.v⟩
theorem DgA.lt (d : DgA w B q p g h kd l k n L) : ∀ i, dgF q p g h i → B ≤ i ∧ i < w.heap.size := fun i f => by
  rcases f with rfl | f
  · exact d.top.lt i rfl
  · have a := d.po.lt
    rcases f with f | f | f <;> omega
theorem DgA.kp {F : Nat → Prop} (d : DgA w B q p g h kd l k n L) (c : Kp F w w') (f : ∀ i, F i → ¬ dgF q p g h i) : DgA w' B q p g h kd l k n L :=
  ⟨own_kp d.top c fun i e fi => f i fi (.inl (by simp only [Value.ownBlock, Option.some.injEq] at e; exact e.symm)), d.po.kp c fun i fi z => f i fi (.inr z), d.v⟩
theorem DgA.cells (d : DgA w B q p g h kd l k n L) : w.cell? ⟨q, 0, none⟩ = some (.int .i64 l) ∧ w.cell? ⟨q, 1, none⟩ = some (.int .i64 k) ∧ w.cell? ⟨q, 2, none⟩ = some (.int .i64 kd) ∧ w.cell? ⟨q, 3, none⟩ = some (.pointer (some ⟨p, 0, none⟩)) :=
  ⟨d.top.cellAt 0 (by omega), d.top.cellAt 1 (by omega), d.top.cellAt 2 (by omega), d.top.cellAt 3 (by omega)⟩
theorem DgA.isk (d : DgA w B q p g h kd l k n L) : kIs k = true := decide_eq_true ⟨d.v.k1, d.v.k2⟩
theorem DgA.free (d : DgA w B q p g h kd l k n L) (i : Nat) : w.frozen? ⟨q, i, none⟩ = false := d.top.frozenAt i
/-- the pool has turned -/
theorem DgA.po' {h' n' : Nat} {M : List Nd} (d : DgA w B q p g h kd l k n L) (c : Chg g h w w') (e : PoA w' B p g h' kd l n' M) (v : DgV l k M) : DgA w' B q p g h' kd l k n' M :=
  ⟨d.po.other d.top c (by decide) (by decide) (by decide) (by decide), e, v⟩
end
/-- what a call leaves -/
def DgPost (B q p g h : Nat) (kd l k : Int) (n : Nat) (M : List Nd) (x : Int) (w : World) (e : Ending) (w' : World) : Prop :=
  e = .returned (.int .i64 x) ∧ ∃ p' g' h', DgA w' B q p' g' h' kd l k n M ∧ Kp (dgF q p g h) w w' ∧ ∀ i, dgF q p' g' h' i → dgF q p g h i ∨ w.heap.size ≤ i

end Go.Proofs.YtkoefclkpdpdpaaGreat

/- Boxes of three and of four cells; plain facts of Insert. No program is spoken of here. -/
namespace Go.Proofs.YtkoefclkpdpdpaaGreat
set_option linter.unusedVariables false
set_option maxRecDepth 100000
open Go.RowKit

/-- a box of three cells, stored anew -/
theorem tri_set {TS : TypeId} {w : World} {B q : Nat} {x y z : Value} (r : w.ownsRow B TS 3 (.slice (some ⟨q, 0, none⟩) 1 1) 1 [x, y, z]) (a b c : Value) :
    (((w.setCell ⟨q, 0, none⟩ a).setCell ⟨q, 1, none⟩ b).setCell ⟨q, 2, none⟩ c).ownsRow B TS 3 (.slice (some ⟨q, 0, none⟩) 1 1) 1 [a, b, c] ∧
    (∀ (base : Nat) (e : TypeId) (size n : Nat) (v : Value) (ys : List Value), e ≠ TS → w.ownsRow base e size v n ys → (((w.setCell ⟨q, 0, none⟩ a).setCell ⟨q, 1, none⟩ b).setCell ⟨q, 2, none⟩ c).ownsRow base e size v n ys) ∧
    Below B w (((w.setCell ⟨q, 0, none⟩ a).setCell ⟨q, 1, none⟩ b).setCell ⟨q, 2, none⟩ c) ∧
    (∀ (base : Nat) (e : TypeId) (size n : Nat) (v : Value) (ys : List Value), v.ownBlock ≠ some q → w.ownsRow base e size v n ys → (((w.setCell ⟨q, 0, none⟩ a).setCell ⟨q, 1, none⟩ b).setCell ⟨q, 2, none⟩ c).ownsRow base e size v n ys) := by
  have s0 := World.ownsRow.stored r 0 a
  have s1 := World.ownsRow.stored s0.1 1 b
  have s2 := World.ownsRow.stored s1.1 2 c
  have hB := (r.lt q rfl).1
  refine ⟨s2.1, fun base e size n v ys he o => ?_, (((Below.refl _ _).setCell (p := ⟨q, 0, none⟩) hB a).setCell (p := ⟨q, 1, none⟩) hB b).setCell (p := ⟨q, 2, none⟩) hB c, fun base e size n v ys he o => ?_⟩
  · have o1 := o.kept s0.2 (own_apart o r he)
    have o2 := o1.kept s1.2 (own_apart o1 s0.1 he)
    exact o2.kept s2.2 (own_apart o2 s1.1 he)
  · exact ((o.kept s0.2 (.inr he)).kept s1.2 (.inr he)).kept s2.2 (.inr he)
/-- .. its last two -/
theorem tri_set2 {TS : TypeId} {w : World} {B q : Nat} {x y z : Value} (r : w.ownsRow B TS 3 (.slice (some ⟨q, 0, none⟩) 1 1) 1 [x, y, z]) (b c : Value) :
    ((w.setCell ⟨q, 1, none⟩ b).setCell ⟨q, 2, none⟩ c).ownsRow B TS 3 (.slice (some ⟨q, 0, none⟩) 1 1) 1 [x, b, c] ∧
    (∀ (base : Nat) (e : TypeId) (size n : Nat) (v : Value) (ys : List Value), e ≠ TS → w.ownsRow base e size v n ys → ((w.setCell ⟨q, 1, none⟩ b).setCell ⟨q, 2, none⟩ c).ownsRow base e size v n ys) ∧
    Below B w ((w.setCell ⟨q, 1, none⟩ b).setCell ⟨q, 2, none⟩ c) ∧
    (∀ (base : Nat) (e : TypeId) (size n : Nat) (v : Value) (ys : List Value), v.ownBlock ≠ some q → w.ownsRow base e size v n ys → ((w.setCell ⟨q, 1, none⟩ b).setCell ⟨q, 2, none⟩ c).ownsRow base e size v n ys) := by
  have s1 := World.ownsRow.stored r 1 b
  have s2 := World.ownsRow.stored s1.1 2 c
  have hB := (r.lt q rfl).1
  refine ⟨s2.1, fun base e size n v ys he o => ?_, ((Below.refl _ _).setCell (p := ⟨q, 1, none⟩) hB b).setCell (p := ⟨q, 2, none⟩) hB c, fun base e size n v ys he o => ?_⟩
  · have o1 := o.kept s1.2 (own_apart o r he)
    exact o1.kept s2.2 (own_apart o1 s1.1 he)
  · exact (o.kept s1.2 (.inr he)).kept s2.2 (.inr he)
/-- all that is asked of a box of three cells -/
theorem tri_all {TS : TypeId} {w : World} {B q : Nat} {x y z : Value} (r : w.ownsRow B TS 3 (.slice (some ⟨q, 0, none⟩) 1 1) 1 [x, y, z]) :
    w.cell? ⟨q, 0, none⟩ = some x ∧ w.cell? ⟨q, 1, none⟩ = some y ∧ w.cell? ⟨q, 2, none⟩ = some z ∧ w.frozen? ⟨q, 0, none⟩ = false ∧ w.frozen? ⟨q, 1, none⟩ = false ∧ w.frozen? ⟨q, 2, none⟩ = false ∧ q < w.heap.size :=
  ⟨r.cellAt 0 (by omega), r.cellAt 1 (by omega), r.cellAt 2 (by omega), r.frozenAt 0, r.frozenAt 1, r.frozenAt 2, (r.lt q rfl).2⟩
/-- a result of three cells, read behind its store -/
theorem set_three {TS : TypeId} {w : World} {B q : Nat} {x y z : Value} (r : w.ownsRow B TS 3 (.slice (some ⟨q, 0, none⟩) 1 1) 1 [x, y, z]) (a b c : Value) :
    (((w.setCell ⟨q, 0, none⟩ a).setCell ⟨q, 1, none⟩ b).setCell ⟨q, 2, none⟩ c).cell? ⟨q, 0, none⟩ = some a ∧ (((w.setCell ⟨q, 0, none⟩ a).setCell ⟨q, 1, none⟩ b).setCell ⟨q, 2, none⟩ c).cell? ⟨q, 1, none⟩ = some b ∧ (((w.setCell ⟨q, 0, none⟩ a).setCell ⟨q, 1, none⟩ b).setCell ⟨q, 2, none⟩ c).cell? ⟨q, 2, none⟩ = some c := by
  have t := tri_all (tri_set r a b c).1
  exact ⟨t.1, t.2.1, t.2.2.1⟩
theorem tri_nw (w : World) (TO : TypeId) (a b c : Value) : (w.alloc (.cells #[a, b, c] TO)).ownsRow w.heap.size TO 3 (.slice (some ⟨w.heap.size, 0, none⟩) 1 1) 1 [a, b, c] :=
  World.ownsRow_lit (base := w.heap.size) (e := TO) (size := 3) w #[a, b, c] 1 (Nat.le_refl _) (by unfold maxLen; omega) rfl
theorem quad_new (w : World) (TO : TypeId) (a b c d : Value) : (w.alloc (.cells #[a, b, c, d] TO)).ownsRow w.heap.size TO 4 (.slice (some ⟨w.heap.size, 0, none⟩) 1 1) 1 [a, b, c, d] :=
  World.ownsRow_lit (base := w.heap.size) (e := TO) (size := 4) w #[a, b, c, d] 1 (Nat.le_refl _) (by unfold maxLen; omega) rfl
theorem quad_all {TS : TypeId} {w : World} {B q : Nat} {x y z u : Value} (r : w.ownsRow B TS 4 (.slice (some ⟨q, 0, none⟩) 1 1) 1 [x, y, z, u]) :
    w.cell? ⟨q, 0, none⟩ = some x ∧ w.cell? ⟨q, 1, none⟩ = some y ∧ w.cell? ⟨q, 2, none⟩ = some z ∧ w.cell? ⟨q, 3, none⟩ = some u ∧ w.frozen? ⟨q, 0, none⟩ = false ∧ w.frozen? ⟨q, 1, none⟩ = false ∧ w.frozen? ⟨q, 2, none⟩ = false ∧ w.frozen? ⟨q, 3, none⟩ = false ∧ q < w.heap.size :=
  ⟨r.cellAt 0 (by omega), r.cellAt 1 (by omega), r.cellAt 2 (by omega), r.cellAt 3 (by omega), r.frozenAt 0, r.frozenAt 1, r.frozenAt 2, r.frozenAt 3, (r.lt q rfl).2⟩
theorem addS_ins {l : Int} {L : List Nd} {id c : Int} (h : rightB l id = true) (hc : ¬ c < 1) (ht : ¬ 72057594037927935 < sumC L + c) : addS l L id c = insW L id c ∧ addE l L id c = 0 := by
  have q : ¬ (rightB l id = false ∨ c < 0) := by rintro (g | g); rw [h] at g; simp at g; omega
  have z : ¬ c = 0 := by omega
  unfold addS addE addW
  rw [if_neg q, if_neg ht, if_neg z, if_neg q, if_neg ht]
  exact ⟨rfl, rfl⟩
theorem dgE_val {l : Int} {L : List Nd} {x c : Int} (h : ¬ ValC l x) : dgE l L x c = 3 := if_neg h
theorem dgE_zero {l : Int} {L : List Nd} {x c : Int} (h : ValC l x) (h1 : c < 1) : dgE l L x c = 4 := by unfold dgE; rw [if_pos h, if_pos h1]
theorem dgE_full {l : Int} {L : List Nd} {x c : Int} (h : ValC l x) (h1 : ¬ c < 1) (h2 : 72057594037927935 - sumC L < c) : dgE l L x c = 5 := by unfold dgE; rw [if_pos h, if_neg h1, if_pos h2]
theorem dgE_ok {l : Int} {L : List Nd} {x c : Int} (h : ValC l x) (h1 : ¬ c < 1) (h2 : ¬ 72057594037927935 - sumC L < c) : dgE l L x c = 0 := by unfold dgE; rw [if_pos h, if_neg h1, if_neg h2]
theorem dgIns_no {l k : Int} {L : List Nd} {x c : Int} (h : ¬ dgE l L x c = 0) : dgIns l k L x c = L := if_neg h

end Go.Proofs.YtkoefclkpdpdpaaGreat

/- Why there is no digest of some nodes, as a function. No walk is made here. -/
namespace Go.Proofs.YtkoefclkpdpdpaaGreat
set_option linter.unusedVariables false
set_option maxRecDepth 100000
open Go.RowKit

/-- why there is no digest of these nodes: 0 where there is one -/
def dgLdE (kd l k : Int) (L : List Nd) : Int := if kIs k = true ∧ isP kd l = true then (if rollB l L = true then (if (L.length : Int) ≤ 8 * k ∧ lightB l L k = true then 0 else 13) else 10) else 2
theorem dgLdE_conf {kd l k : Int} {L : List Nd} (h : ¬ (kIs k = true ∧ isP kd l = true)) : dgLdE kd l k L = 2 := if_neg h
theorem dgLdE_form {kd l k : Int} {L : List Nd} (h1 : kIs k = true) (h2 : isP kd l = true) (h3 : rollB l L = false) : dgLdE kd l k L = 10 := by
  unfold dgLdE; rw [if_pos ⟨h1, h2⟩, if_neg (by rw [h3]; simp)]
theorem dgLdE_cap {kd l k : Int} {L : List Nd} (h1 : kIs k = true) (h2 : isP kd l = true) (h3 : rollB l L = true) (h4 : ¬ ((L.length : Int) ≤ 8 * k ∧ lightB l L k = true)) : dgLdE kd l k L = 13 := by
  unfold dgLdE; rw [if_pos ⟨h1, h2⟩, if_pos h3, if_neg h4]
theorem dgLdE_ok {kd l k : Int} {L : List Nd} (h1 : kIs k = true) (h2 : isP kd l = true) (h3 : rollB l L = true) (h4 : (L.length : Int) ≤ 8 * k) (h5 : lightB l L k = true) : dgLdE kd l k L = 0 := by
  unfold dgLdE; rw [if_pos ⟨h1, h2⟩, if_pos h3, if_pos ⟨h4, h5⟩]
theorem light_c {l k : Int} {L : List Nd} (h : lightB l L k = true) : LightC l (sumC L / k) L := by
  unfold lightB at h
  rw [Bool.and_eq_true] at h
  exact of_decide_eq_true h.2
theorem dgLdE_nil {kd l k : Int} : dgLdE kd l k [] = if kIs k = true ∧ isP kd l = true then 0 else 2 := by
  unfold dgLdE
  by_cases h : kIs k = true ∧ isP kd l = true
  · rw [if_pos h, if_pos h]
    have u : 1 ≤ l ∧ l ≤ 48 := by rcases of_decide_eq_true h.2 with q | q <;> omega
    have kb : 1 ≤ k ∧ k ≤ 1048576 := of_decide_eq_true h.1
    have hr : rollB l [] = true := roll_iff.2 (roll_nil (uni_yes u))
    have hl : lightB l [] k = true := by
      unfold lightB
      rw [h.1]
      have z : LightC l (capW [] k) [] := fun m hm => by simp at hm
      simp [z]
    rw [if_pos hr, if_pos ⟨by simp; omega, hl⟩]
  · rw [if_neg h, if_neg h]

end Go.Proofs.YtkoefclkpdpdpaaGreat
