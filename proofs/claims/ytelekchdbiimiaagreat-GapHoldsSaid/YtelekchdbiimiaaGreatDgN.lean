/- Texts laid together: BgNum, BgNum2, PrNum4, DgNum, RaNum, DgNum2, DgMem, DgBox, DgLd. -/
import Derived.Test.YtelekchdbiimiaaGreatPln
import Derived.Test.YtelekchdbiimiaaGreatPrP
import Derived.Test.YtelekchdbiimiaaGreatPoQ
import Derived.Test.YtelekchdbiimiaaGreatMmy
namespace Go.Proofs.YtelekchdbiimiaaGreat
set_option linter.unusedVariables false
/-- the weights of all values from x to y -/
def betN : List Nd → Int → Int → Int
  | [], _, _ => 0
  | n :: L, x, y => (if x ≤ n.1 ∧ n.1 ≤ y then n.2 else 0) + betN L x y
def ltN (L : List Nd) (x : Int) : Nat := L.countP fun n => decide (n.1 < x)
def leN (L : List Nd) (x : Int) : Nat := L.countP fun n => decide (n.1 ≤ x)
structure BagC (l : Int) (L : List Nd) : Prop where
  uni : 1 ≤ l ∧ l ≤ 48
  good : Good L
  val : ∀ n ∈ L, ValC l n.1
  tot : sumC L ≤ 72057594037927935
theorem bag_nil {l : Int} (h : 1 ≤ l ∧ l ≤ 48) : BagC l [] := ⟨h, good_nil, fun n h => by simp at h, by simp [sumC]⟩
/-- what Add tells, and leaves -/
def bagE (l : Int) (L : List Nd) (x c : Int) : Int := if leafB l x = false then 3 else if c < 1 then 4 else if 72057594037927935 < sumC L + c then 5 else 0
def bagS (l : Int) (L : List Nd) (x c : Int) : List Nd := if bagE l L x c = 0 then insW L x c else L
theorem leafB_iff {l x : Int} : leafB l x = true ↔ ValC l x := by
  constructor
  · intro h
    by_cases q : ValC l x
    · exact q
    · rw [(leaf_no q).2] at h; simp at h
  · intro h; exact (leaf_yes h).2
theorem bag_range {l : Int} {L : List Nd} {x c : Int} (h : leafB l x = false) : bagE l L x c = 3 ∧ bagS l L x c = L := by
  have e : bagE l L x c = 3 := if_pos h
  exact ⟨e, by unfold bagS; rw [e]; rfl⟩
theorem bag_zero {l : Int} {L : List Nd} {x c : Int} (h : leafB l x = true) (h1 : c < 1) : bagE l L x c = 4 ∧ bagS l L x c = L := by
  have e : bagE l L x c = 4 := by unfold bagE; rw [if_neg (by simp [h]), if_pos h1]
  exact ⟨e, by unfold bagS; rw [e]; rfl⟩
theorem bag_full {l : Int} {L : List Nd} {x c : Int} (h : leafB l x = true) (h1 : ¬ c < 1) (h2 : 72057594037927935 < sumC L + c) : bagE l L x c = 5 ∧ bagS l L x c = L := by
  have e : bagE l L x c = 5 := by unfold bagE; rw [if_neg (by simp [h]), if_neg h1, if_pos h2]
  exact ⟨e, by unfold bagS; rw [e]; rfl⟩
theorem bag_ok {l : Int} {L : List Nd} {x c : Int} (h : leafB l x = true) (h1 : ¬ c < 1) (h2 : ¬ 72057594037927935 < sumC L + c) : bagE l L x c = 0 ∧ bagS l L x c = insW L x c := by
  have e : bagE l L x c = 0 := by unfold bagE; rw [if_neg (by simp [h]), if_neg h1, if_neg h2]
  exact ⟨e, by unfold bagS; rw [e]; rfl⟩
theorem insW_le (L : List Nd) (x c : Int) : (insW L x c).length ≤ L.length + 1 := by
  induction L with
  | nil => simp [insW]
  | cons n L ih => unfold insW; split; simp; split; simp; simp; omega
theorem BagC.ins {l : Int} {L : List Nd} {x c : Int} (h : BagC l L) (hx : ValC l x) (hc : ¬ c < 1) (ht : ¬ 72057594037927935 < sumC L + c) : BagC l (insW L x c) :=
  ⟨h.uni, insW_good h.good (by omega), fun n hn => by
    rcases insW_mem hn with e | ⟨m, hm, e⟩
    · rw [e]; exact hx
    · rw [← e]; exact h.val m hm, by rw [insW_tot]; omega⟩
theorem bag_cases {l : Int} (L : List Nd) (x c : Int) : (leafB l x = false) ∨ (leafB l x = true ∧ c < 1) ∨ (leafB l x = true ∧ ¬ c < 1 ∧ 72057594037927935 < sumC L + c) ∨ (leafB l x = true ∧ ¬ c < 1 ∧ ¬ 72057594037927935 < sumC L + c) := by
  cases leafB l x
  · exact .inl rfl
  · by_cases h1 : c < 1
    · exact .inr (.inl ⟨rfl, h1⟩)
    · by_cases h2 : 72057594037927935 < sumC L + c
      · exact .inr (.inr (.inl ⟨rfl, h1, h2⟩))
      · exact .inr (.inr (.inr ⟨rfl, h1, h2⟩))
theorem BagC.add {l : Int} {L : List Nd} (h : BagC l L) (x c : Int) : BagC l (bagS l L x c) := by
  rcases bag_cases (l := l) L x c with q | ⟨q, q1⟩ | ⟨q, q1, q2⟩ | ⟨q, q1, q2⟩
  · rw [(bag_range q).2]; exact h
  · rw [(bag_zero q q1).2]; exact h
  · rw [(bag_full q q1 q2).2]; exact h
  · rw [(bag_ok q q1 q2).2]; exact h.ins (leafB_iff.1 q) q1 q2
theorem valC_bd {l x : Int} (h : ValC l x) : 0 ≤ x ∧ x ≤ 281474976710655 := by
  obtain ⟨h1, h2⟩ := h
  have h3 : (2 : Int) ^ l.toNat ≤ 2 ^ 48 := two_le _ _ (by omega)
  have e : (2 : Int) ^ 48 = 281474976710656 := by decide
  omega
theorem BagC.bds {l : Int} {L : List Nd} (h : BagC l L) : ∀ n ∈ L, (0 ≤ n.1 ∧ n.1 ≤ 281474976710655) ∧ (1 ≤ n.2 ∧ n.2 ≤ 72057594037927935) := fun n hn => by
  have a := valC_bd (h.val n hn)
  have b := h.good.pos n hn
  have c := sumC_mem (good_nonneg h.good) hn
  have d := h.tot
  exact ⟨a, b, by omega⟩
theorem BagC.tot0 {l : Int} {L : List Nd} (h : BagC l L) : 0 ≤ sumC L ∧ sumC L ≤ 72057594037927935 := ⟨sumC_nonneg (good_nonneg h.good), h.tot⟩
theorem good_get {L : List Nd} (h : Good L) {i j : Nat} (hij : i < j) (hj : j < L.length) : (L.getD i nz).1 < (L.getD j nz).1 := by
  have := List.pairwise_iff_getElem.1 h.ids i j (by omega) hj hij
  rw [List.getD_eq_getElem?_getD, List.getD_eq_getElem?_getD, List.getElem?_eq_getElem (by omega), List.getElem?_eq_getElem hj]
  exact this
theorem lt_split : ∀ (L : List Nd) (x : Int), Good L → (∀ n ∈ L.take (ltN L x), n.1 < x) ∧ (∀ n ∈ L.drop (ltN L x), x ≤ n.1) := by
  intro L x
  induction L with
  | nil => intro _; simp
  | cons n L ih =>
    intro h
    have i := ih (nd_tail h)
    have q0 := (List.pairwise_cons.1 h.ids).1
    by_cases q : n.1 < x
    · have e : ltN (n :: L) x = ltN L x + 1 := by unfold ltN; rw [List.countP_cons_of_pos (by simpa using q)]
      rw [e]
      refine ⟨fun m hm => ?_, fun m hm => i.2 m (by simpa using hm)⟩
      rw [List.take_succ_cons] at hm
      rcases List.mem_cons.1 hm with rfl | hm
      · exact q
      · exact i.1 m hm
    · have e : ltN (n :: L) x = 0 := by
        unfold ltN
        rw [List.countP_eq_zero]
        intro m hm
        rcases List.mem_cons.1 hm with rfl | hm
        · simpa using q
        · have := q0 m hm; simp; omega
      rw [e]
      refine ⟨fun m hm => by simp at hm, fun m hm => ?_⟩
      rw [List.drop_zero] at hm
      rcases List.mem_cons.1 hm with rfl | hm
      · omega
      · have := q0 m hm; omega
theorem le_le (L : List Nd) (x : Int) : leN L x ≤ L.length := List.countP_le_length
theorem le_lt (L : List Nd) (x : Int) : leN L x = ltN L (x + 1) := by
  unfold leN ltN
  refine List.countP_congr fun n _ => ?_
  simp; omega
theorem mem_take_get {L : List Nd} {k m : Nat} (h : k < m) (hk : k < L.length) : L.getD k nz ∈ L.take m := by
  have e : (L.take m).getD k nz = L.getD k nz := by
    rw [List.getD_eq_getElem?_getD, List.getD_eq_getElem?_getD, List.getElem?_take_of_lt h]
  rw [← e]
  exact nd_mem (by rw [List.length_take]; omega)
theorem mem_drop_get {L : List Nd} {k m : Nat} (h : m ≤ k) (hk : k < L.length) : L.getD k nz ∈ L.drop m := by
  have e : (L.drop m).getD (k - m) nz = L.getD k nz := by
    rw [List.getD_eq_getElem?_getD, List.getD_eq_getElem?_getD, List.getElem?_drop, show m + (k - m) = k by omega]
  rw [← e]
  exact nd_mem (by rw [List.length_drop]; omega)
/-- which places are below x -/
theorem lt_at {L : List Nd} (h : Good L) (x : Int) {k : Nat} (hk : k < L.length) : decide ((L.getD k nz).1 ≥ x) = decide (ltN L x ≤ k) := by
  have s := lt_split L x h
  by_cases q : ltN L x ≤ k
  · have := s.2 _ (mem_drop_get q hk)
    simp only [decide_eq_decide]; omega
  · have := s.1 _ (mem_take_get (by omega) hk)
    simp only [decide_eq_decide]; omega
theorem le_at {L : List Nd} (h : Good L) (x : Int) {k : Nat} (hk : k < L.length) : decide ((L.getD k nz).1 > x) = decide (leN L x ≤ k) := by
  rw [le_lt, ← lt_at h (x + 1) hk]
  simp only [decide_eq_decide]; omega
theorem bet_app (L M : List Nd) (x y : Int) : betN (L ++ M) x y = betN L x y + betN M x y := by
  induction L with
  | nil => simp [betN]
  | cons n L ih => simp [betN, ih]; omega
theorem bet_bd {L : List Nd} (h : NonNeg L) (x y : Int) : 0 ≤ betN L x y ∧ betN L x y ≤ sumC L := by
  induction L with
  | nil => simp [betN, sumC]
  | cons n L ih =>
    have := ih fun m hm => h m (by simp [hm])
    have := h n (by simp)
    simp only [betN, sumC]
    split <;> omega
theorem sum_take_le {L : List Nd} (h : NonNeg L) (k : Nat) : sumC (L.take k) ≤ sumC L := by
  have e := List.take_append_drop k L
  have := sumC_nonneg (L := L.drop k) fun n hn => h n (List.mem_of_mem_drop hn)
  conv => rhs; rw [← e, sumC_app]
  omega
theorem sum_take_step {L : List Nd} {k : Nat} (hk : k < L.length) : sumC (L.take (k + 1)) = sumC (L.take k) + (L.getD k nz).2 := by
  rw [nd_take hk, sumC_app]; simp [sumC]
end Go.Proofs.YtelekchdbiimiaaGreat
namespace Go.Proofs.YtelekchdbiimiaaGreat
set_option linter.unusedVariables false
theorem ins_all : ∀ (L : List Nd) (x c : Int), (∀ n ∈ L, n.1 < x) → insW L x c = L ++ [(x, c)] := by
  intro L
  induction L with
  | nil => intro x c _; rfl
  | cons n L ih =>
    intro x c h
    have := h n (by simp)
    unfold insW
    rw [if_neg (by omega), if_neg (by omega), ih x c fun m hm => h m (by simp [hm])]; rfl
theorem ins_same : ∀ (P : List Nd) (n : Nd) (x c : Int), (∀ m ∈ P, m.1 < x) → n.1 = x → insW (P ++ [n]) x c = P ++ [(n.1, n.2 + c)] := by
  intro P
  induction P with
  | nil => intro n x c _ h; simp [insW, h]
  | cons m P ih =>
    intro n x c h e
    have := h m (by simp)
    rw [List.cons_append, insW, if_neg (by omega), if_neg (by omega), ih n x c (fun q hq => h q (by simp [hq])) e]; rfl
theorem ins_ahead : ∀ (P : List Nd) (n : Nd) (x c : Int), (∀ m ∈ P, m.1 < x) → x < n.1 → insW (P ++ [n]) x c = P ++ [(x, c)] ++ [n] := by
  intro P
  induction P with
  | nil => intro n x c _ h; simp [insW, h]
  | cons m P ih =>
    intro n x c h e
    have := h m (by simp)
    rw [List.cons_append, insW, if_neg (by omega), if_neg (by omega), ih n x c (fun q hq => h q (by simp [hq])) e]; rfl
theorem ins_done : ∀ (P : List Nd) (n : Nd) (x c : Int), (∃ m ∈ P, x ≤ m.1) → insW (P ++ [n]) x c = insW P x c ++ [n] := by
  intro P
  induction P with
  | nil => intro n x c ⟨m, h, _⟩; simp at h
  | cons m P ih =>
    intro n x c ⟨q, hq, e⟩
    rw [List.cons_append, insW, insW]
    by_cases h1 : x < m.1
    · rw [if_pos h1, if_pos h1]; rfl
    · rw [if_neg h1, if_neg h1]
      by_cases h2 : m.1 = x
      · rw [if_pos h2, if_pos h2]; rfl
      · rw [if_neg h2, if_neg h2, ih n x c]; rfl
        rcases List.mem_cons.1 hq with rfl | hq
        · omega
        · exact ⟨q, hq, e⟩
/-- what the walk over the list has put out -/
def PutI (L : List Nd) (x c : Int) (k : Nat) (d : Bool) (R : List Nd) : Prop := (d = false ∧ R = L.take k ∧ ∀ n ∈ L.take k, n.1 < x) ∨ (d = true ∧ R = insW (L.take k) x c ∧ ∃ n ∈ L.take k, x ≤ n.1)
theorem putI_zero (L : List Nd) (x c : Int) : PutI L x c 0 false [] := .inl ⟨rfl, rfl, fun n h => by simp at h⟩
theorem PutI.len {L R : List Nd} {x c : Int} {k : Nat} {d : Bool} (h : PutI L x c k d R) : R.length ≤ k + 1 := by
  rcases h with ⟨_, rfl, _⟩ | ⟨_, rfl, _⟩
  · rw [List.length_take]; omega
  · have := insW_le (L.take k) x c; rw [List.length_take] at this; omega
/-- a value that is the one -/
theorem PutI.same {L R : List Nd} {x c : Int} {k : Nat} {d : Bool} (g : Good L) (hk : k < L.length) (h : PutI L x c k d R) (e : (L.getD k nz).1 = x) : PutI L x c (k + 1) true (R ++ [((L.getD k nz).1, (L.getD k nz).2 + c)]) := by
  rcases h with ⟨_, rfl, h⟩ | ⟨_, _, n, hn, hx⟩
  · exact .inr ⟨rfl, by rw [nd_take hk, ins_same _ _ _ _ h e], L.getD k nz, by rw [nd_take hk]; exact List.mem_append_right _ (List.mem_singleton.2 rfl), by omega⟩
  · exfalso
    obtain ⟨j, hj, e2⟩ := List.mem_iff_getElem.1 hn
    rw [List.length_take] at hj
    have a := good_get g (i := j) (j := k) (by omega) hk
    have b : L.getD j nz = n := by
      rw [← e2, List.getElem_take, List.getD_eq_getElem?_getD, List.getElem?_eq_getElem (by omega)]; rfl
    rw [b] at a
    omega
theorem PutI.ahead {L R : List Nd} {x c : Int} {k : Nat} (hk : k < L.length) (h : PutI L x c k false R) (e : x < (L.getD k nz).1) : PutI L x c (k + 1) true (R ++ [(x, c)] ++ [L.getD k nz]) := by
  rcases h with ⟨_, rfl, h⟩ | ⟨q, _⟩
  · exact .inr ⟨rfl, by rw [nd_take hk, ins_ahead _ _ _ _ h e], L.getD k nz, by rw [nd_take hk]; exact List.mem_append_right _ (List.mem_singleton.2 rfl), by omega⟩
  · cases q
theorem PutI.done {L R : List Nd} {x c : Int} {k : Nat} (hk : k < L.length) (h : PutI L x c k true R) : PutI L x c (k + 1) true (R ++ [L.getD k nz]) := by
  rcases h with ⟨q, _⟩ | ⟨_, rfl, n, hn, hx⟩
  · cases q
  · exact .inr ⟨rfl, by rw [nd_take hk, ins_done _ _ _ _ ⟨n, hn, hx⟩], n, by rw [nd_take hk]; simp [hn], hx⟩
theorem PutI.before {L R : List Nd} {x c : Int} {k : Nat} {d : Bool} (g : Good L) (hk : k < L.length) (h : PutI L x c k d R) (e : (L.getD k nz).1 < x) : d = false ∧ PutI L x c (k + 1) false (R ++ [L.getD k nz]) := by
  rcases h with ⟨rfl, rfl, h⟩ | ⟨_, _, n, hn, hx⟩
  · refine ⟨rfl, .inl ⟨rfl, by rw [nd_take hk], fun n hn => ?_⟩⟩
    rw [nd_take hk] at hn
    rcases List.mem_append.1 hn with hn | hn
    · exact h n hn
    · simp at hn; rw [hn]; exact e
  · exfalso
    obtain ⟨j, hj, e2⟩ := List.mem_iff_getElem.1 hn
    rw [List.length_take] at hj
    have a := good_get g (i := j) (j := k) (by omega) hk
    have b : L.getD j nz = n := by
      rw [← e2, List.getElem_take, List.getD_eq_getElem?_getD, List.getElem?_eq_getElem (by omega)]; rfl
    rw [b] at a
    omega
theorem PutI.fin {L R : List Nd} {x c : Int} {k : Nat} {d : Bool} (hk : L.length ≤ k) (h : PutI L x c k d R) : if d then R = insW L x c else R ++ [(x, c)] = insW L x c := by
  rw [PutI, List.take_of_length_le hk] at h
  rcases h with ⟨rfl, rfl, h⟩ | ⟨rfl, rfl, _⟩
  · exact (ins_all _ x c h).symm
  · rfl
end Go.Proofs.YtelekchdbiimiaaGreat
namespace Go.Proofs.YtelekchdbiimiaaGreat
set_option linter.unusedVariables false
theorem wtF_app (P : Int → Bool) (L M : List Nd) : wtF P (L ++ M) = wtF P L + wtF P M := by
  induction L with
  | nil => simp [wtF]
  | cons n L ih => simp only [List.cons_append, wtF, ih]; omega
theorem wtF_take (P : Int → Bool) {L : List Nd} {k : Nat} (hk : k < L.length) : wtF P (L.take (k + 1)) = wtF P (L.take k) + (if P (L.getD k nz).1 = true then (L.getD k nz).2 else 0) := by
  rw [nd_take hk, wtF_app]
  simp only [wtF]
  omega
theorem wtF_bd (P : Int → Bool) {L : List Nd} (h : ∀ n ∈ L, 0 ≤ n.2) : 0 ≤ wtF P L ∧ wtF P L ≤ sumC L := by
  induction L with
  | nil => exact ⟨Int.le_refl _, Int.le_refl _⟩
  | cons n L ih =>
    have a := h n (by simp)
    have b := ih fun m hm => h m (by simp [hm])
    simp only [wtF, sumC]
    split <;> omega
theorem wtF_congr {P Q : Int → Bool} {L : List Nd} (h : ∀ n ∈ L, P n.1 = Q n.1) : wtF P L = wtF Q L := by
  induction L with
  | nil => rfl
  | cons n L ih => simp only [wtF, h n (by simp), ih fun m hm => h m (by simp [hm])]
end Go.Proofs.YtelekchdbiimiaaGreat
namespace Go.Proofs.YtelekchdbiimiaaGreat
set_option linter.unusedVariables false
/-- closed downwards: where a parent is in, its children are -/
def Down (P : Int → Bool) : Prop := ∀ id, 1 ≤ id → id ≤ 562949953421311 → P id = true → P (2 * id) = true ∧ P (2 * id + 1) = true
/-- the nodes L stand for the values T -/
structure Std (l : Int) (L T : List Nd) : Prop where
  tot : sumC L = sumC T
  low : ∀ P, Down P → wtF P L ≤ wtF (fun x => P (leafN l x)) T
theorem std_nil (l : Int) : Std l [] [] := ⟨rfl, fun P _ => Int.le_refl _⟩
theorem std_ins {l : Int} {L T : List Nd} (h : Std l L T) (x c : Int) : Std l (insW L (leafN l x) c) (insW T x c) :=
  ⟨by rw [insW_tot, insW_tot, h.tot], fun P hP => by
    have := h.low P hP
    rw [wtF_ins, wtF_ins]
    split <;> omega⟩
theorem std_pre {l cap : Int} {L T : List Nd} (h : Std l L T) (hr : RollC l L) {j : Nat} (hl : Live l cap L j) : Std l (preA l cap L j) T :=
  ⟨(pre_inv hr hl).tot.trans h.tot, fun P hP => Int.le_trans (wt_pre hr hl P hP) (h.low P hP)⟩
theorem wtF_le {P Q : Int → Bool} {L : List Nd} (hL : NonNeg L) (h : ∀ n ∈ L, P n.1 = true → Q n.1 = true) : wtF P L ≤ wtF Q L := by
  induction L with
  | nil => exact Int.le_refl _
  | cons n L ih =>
    have a := ih (fun m hm => hL m (by simp [hm])) fun m hm => h m (by simp [hm])
    have b := hL n (by simp)
    have c := h n (by simp)
    simp only [wtF]
    split
    · rename_i q; rw [if_pos (c q)]; omega
    · split <;> omega
theorem wtF_eq {P Q : Int → Bool} {L : List Nd} (h : ∀ n ∈ L, P n.1 = Q n.1) : wtF P L = wtF Q L := by
  induction L with
  | nil => rfl
  | cons n L ih => simp only [wtF, h n (by simp), ih fun m hm => h m (by simp [hm])]
theorem wtF_not (P : Int → Bool) (L : List Nd) : wtF P L + wtF (fun n => !(P n)) L = sumC L := by
  induction L with
  | nil => rfl
  | cons n L ih =>
    simp only [wtF, sumC]
    by_cases q : P n.1 = true
    · simp only [q, Bool.not_true, if_true]; simp; omega
    · have q2 : P n.1 = false := by simpa using q
      simp only [q2, Bool.not_false]; simp; omega
end Go.Proofs.YtelekchdbiimiaaGreat
namespace Go.Proofs.YtelekchdbiimiaaGreat
set_option linter.unusedVariables false
/-- folded as far as may be, j times -/
structure Pressed (l cap : Int) (L M : List Nd) (j : Nat) : Prop where
  live : Live l cap L j
  stop : hasX l cap (preA l cap L j) = false
  is : M = preA l cap L j
theorem pressed_few {l k : Int} {L M : List Nd} {j : Nat} (h : RollC l L) (hk : 1 ≤ k) (p : Pressed l (sumC L / k) L M j) : (M.length : Int) ≤ 4 * k - 1 ∧ M.length ≤ L.length ∧ RollC l M ∧ sumC M = sumC L := by
  have q := pre_inv h p.live
  rw [p.is]
  refine ⟨tight_few q.roll hk fun y => ?_, q.len, q.roll, q.tot⟩
  rw [q.tot]
  exact none_all q.roll p.stop y
/-- what a digest keeps -/
structure DgC (l k : Int) (L T : List Nd) : Prop where
  kk : 1 ≤ k
  roll : RollC l L
  len : (L.length : Int) ≤ 8 * k
  light : LightC l (sumC L / k) L
  bag : BagC l T
  std : Std l L T
theorem dg_nil {l k : Int} (hl : 1 ≤ l ∧ l ≤ 48) (hk : 1 ≤ k) : DgC l k [] [] :=
  ⟨hk, roll_nil (uni_yes hl), by simp; omega, fun n h => by simp at h, bag_nil hl, std_nil l⟩
theorem leaf_right {l x : Int} (h : ValC l x) : RightC l (leafN l x) ∧ logN (leafN l x) = l ∧ leafN l x ≤ 562949953421311 ∧ 1 ≤ leafN l x := by
  obtain ⟨h1, h2, h3, h4⟩ := h
  have e := (leaf_yes ⟨h1, h2, h3, h4⟩).1
  have b := two_le l.toNat 48 (by omega)
  have p := two_pos l.toNat
  have d : AtDep (leafN l x) l.toNat := ⟨by rw [e]; omega, by rw [e]; omega⟩
  have m : leafN l x ≤ 562949953421311 := by rw [e]; omega
  have g := (dep_is d (by omega)).1
  have g2 : logN (leafN l x) = l := by rw [g]; omega
  have o : 1 ≤ leafN l x := by rw [e]; omega
  exact ⟨⟨h1, h2, o, by omega⟩, g2, m, o⟩
/-- one value more, where there is room -/
theorem dg_ins {l k : Int} {L T : List Nd} {x c : Int} (h : DgC l k L T) (hx : ValC l x) (hc : ¬ c < 1) (ht : ¬ 72057594037927935 < sumC L + c) (hroom : sumAt (leafN l x) L = 0 → (L.length : Int) < 8 * k) : DgC l k (insW L (leafN l x) c) (insW T x c) := by
  have lf := leaf_right hx
  have g := roll_good h.roll
  have ea : addW L (leafN l x) c = insW L (leafN l x) c := if_neg (by omega)
  have hrl : RollC l (insW L (leafN l x) c) := by rw [← ea]; exact roll_add h.roll (right_yes lf.1) (by omega) (by omega)
  refine ⟨h.kk, hrl, ?_, ?_, h.bag.ins hx hc (by rw [← h.std.tot]; exact ht), std_ins h.std x c⟩
  · rw [insW_len g]
    have := h.len
    split
    · rename_i z; have := hroom z; omega
    · exact this
  · intro m hm hk
    have gM := roll_good hrl
    have e := good_mem gM hm
    have p := gM.pos m hm
    rw [insW_sum] at e
    have ne : ¬ leafN l x = m.1 := fun q => hk.2 ⟨hk.1.1, hk.1.2.1, hk.1.2.2.1, by rw [← q]; exact lf.2.1⟩
    rw [if_neg ne] at e
    obtain ⟨n, hn, hq⟩ := sum_mem (L := L) (i := m.1) (by omega)
    have gn := good_mem g hn
    have a := h.light n hn (by rw [hq]; exact hk)
    rw [hq] at gn
    rw [insW_tot]
    have mono : sumC L / k ≤ (sumC L + c) / k := Int.ediv_le_ediv (by have := h.kk; omega) (by omega)
    omega
def lowR (l : Int) (L : List Nd) (y : Int) : Int := wtF (fun n => decide (hiN l n ≤ y)) L
def highR (l : Int) (L : List Nd) (y : Int) : Int := wtF (fun n => decide (loN l n ≤ y)) L
theorem kid_of {l n m : Int} (h1 : 1 ≤ n) (h2 : n ≤ 562949953421311) (hm : m = 2 * n ∨ m = 2 * n + 1) (h : RightC l m) : KidC l n := by
  have lk := log_kid h1 (by omega)
  have e : logN m = logN n + 1 := by rcases hm with q | q <;> rw [q]; exact lk.1; exact lk.2
  have := h.2.2.2
  exact ⟨⟨h.1, h.2.1, h1, by omega⟩, fun c => by have := c.2.2.2; omega⟩
theorem leaf_ends {l x : Int} (h : ValC l x) : loN l (leafN l x) = x ∧ hiN l (leafN l x) = x := by
  have lf := leaf_right h
  have e := end_yes lf.1
  have w : wid l (leafN l x) = 1 := by unfold wid; rw [lf.2.1, show (l - l).toNat = 0 by omega]; rfl
  rw [e.1, e.2.1, w, (leaf_yes h).1]
  omega
theorem lo_hi {l n : Int} (h : RightC l n) : loN l n ≤ hiN l n := by
  have e := end_yes h
  have p := wid_pos l n
  rw [e.1, e.2.1]; omega
theorem kid_in {l n m : Int} (hk : KidC l n) (h2 : n ≤ 562949953421311) (hm : m = 2 * n ∨ m = 2 * n + 1) : loN l n ≤ loN l m ∧ hiN l m ≤ hiN l n := by
  have e := kid_ends hk (by omega)
  have r1 : RightC l (2 * n) := of_decide_eq_true e.1
  have r2 : RightC l (2 * n + 1) := of_decide_eq_true e.2.1
  have a := lo_hi r1
  have b := lo_hi r2
  rcases hm with q | q <;> rw [q] <;> omega
/-- nodes that end at most at y; what is no node of the universe counts, too -/
def upP (l y n : Int) : Bool := decide (RightC l n → hiN l n ≤ y)
def dnP (l y n : Int) : Bool := decide (RightC l n → y < loN l n)
theorem down_up (l y : Int) : Down (upP l y) := fun n n1 n2 hn => by
  have hn := of_decide_eq_true hn
  have key : ∀ m, (m = 2 * n ∨ m = 2 * n + 1) → upP l y m = true := fun m hm => decide_eq_true fun hr => by
    have hk := kid_of n1 n2 hm hr
    have e := kid_in hk n2 hm
    have := hn hk.1
    omega
  exact ⟨key _ (.inl rfl), key _ (.inr rfl)⟩
theorem down_dn (l y : Int) : Down (dnP l y) := fun n n1 n2 hn => by
  have hn := of_decide_eq_true hn
  have key : ∀ m, (m = 2 * n ∨ m = 2 * n + 1) → dnP l y m = true := fun m hm => decide_eq_true fun hr => by
    have hk := kid_of n1 n2 hm hr
    have e := kid_in hk n2 hm
    have := hn hk.1
    omega
  exact ⟨key _ (.inl rfl), key _ (.inr rfl)⟩
theorem wt_rank {l y : Int} {T : List Nd} (hT : BagC l T) : wtF (fun x => upP l y (leafN l x)) T = betN T 0 y ∧ wtF (fun x => dnP l y (leafN l x)) T = sumC T - betN T 0 y := by
  have hv := hT.val
  clear hT
  induction T with
  | nil => exact ⟨rfl, rfl⟩
  | cons n T ih =>
    obtain ⟨a, b⟩ := ih fun m hm => hv m (by simp [hm])
    have v := hv n (by simp)
    have lf := leaf_right v
    have e := leaf_ends v
    have u : upP l y (leafN l n.1) = decide (n.1 ≤ y) := by unfold upP; rw [e.2]; simp [lf.1]
    have d : dnP l y (leafN l n.1) = decide (y < n.1) := by unfold dnP; rw [e.1]; simp [lf.1]
    have v0 := v.2.2.1
    simp only [wtF, betN, sumC, a, b, u, d, decide_eq_true_eq]
    by_cases q : n.1 ≤ y
    · rw [if_pos q, if_pos ⟨v0, q⟩, if_neg (by omega)]; omega
    · rw [if_neg q, if_neg (fun z => q z.2), if_pos (by omega)]; omega
/-- the rank of a number among the values is within what the nodes tell -/
theorem std_rank {l y : Int} {L T : List Nd} (h : Std l L T) (hr : RollC l L) (hT : BagC l T) : lowR l L y ≤ betN T 0 y ∧ betN T 0 y ≤ highR l L y := by
  have w := wt_rank (y := y) hT
  have a := h.low _ (down_up l y)
  have b := h.low _ (down_dn l y)
  rw [w.1] at a
  rw [w.2] at b
  have e1 : wtF (upP l y) L = lowR l L y := wtF_eq fun n hn => by
    have r : RightC l n.1 := of_decide_eq_true (hr.2.2.1 n hn).1
    unfold upP; simp [r]
  have e2 : wtF (dnP l y) L = wtF (fun n => !(decide (loN l n ≤ y))) L := wtF_eq fun n hn => by
    have r : RightC l n.1 := of_decide_eq_true (hr.2.2.1 n hn).1
    unfold dnP
    by_cases q : loN l n.1 ≤ y
    · rw [decide_eq_false (fun z => by have := z r; omega), decide_eq_true q]; rfl
    · rw [decide_eq_true (fun _ => by omega), decide_eq_false q]; rfl
  have c := wtF_not (fun n => decide (loN l n ≤ y)) L
  rw [e1] at a
  rw [e2] at b
  have t := h.tot
  unfold highR
  omega
end Go.Proofs.YtelekchdbiimiaaGreat
namespace Go.Proofs.YtelekchdbiimiaaGreat
set_option linter.unusedVariables false
def findJ (l cap : Int) (L : List Nd) : Nat → Nat → Nat
  | 0, j => j
  | f + 1, j => if hasX l cap (preA l cap L j) = true then findJ l cap L f (j + 1) else j
theorem findJ_is {l cap : Int} {L : List Nd} (h : RollC l L) : ∀ (f j : Nat), Live l cap L j → (phi L).toNat < j + f → Live l cap L (findJ l cap L f j) ∧ hasX l cap (preA l cap L (findJ l cap L f j)) = false := by
  intro f
  induction f with
  | zero =>
    intro j hl hf
    have q := pre_inv h hl
    have a := (phi_bd q.roll).1
    have b := q.phi
    omega
  | succ f ih =>
    intro j hl hf
    unfold findJ
    by_cases q : hasX l cap (preA l cap L j) = true
    · rw [if_pos q]
      exact ih (j + 1) (live_step hl q) (by omega)
    · rw [if_neg q]
      exact ⟨hl, by simpa using q⟩
def pressJ (l cap : Int) (L : List Nd) : Nat := findJ l cap L ((phi L).toNat + 1) 0
theorem press_is {l : Int} (cap : Int) {L : List Nd} (h : RollC l L) : Live l cap L (pressJ l cap L) ∧ hasX l cap (preA l cap L (pressJ l cap L)) = false :=
  findJ_is h _ 0 (fun i hi => absurd hi (Nat.not_lt_zero i)) (by omega)
theorem press_uniq {l cap : Int} {L : List Nd} (h : RollC l L) {j : Nat} (hl : Live l cap L j) (hx : hasX l cap (preA l cap L j) = false) : j = pressJ l cap L :=
  live_uniq hl (press_is cap h).1 hx (press_is cap h).2
/-- what a press leaves, and how many folds it makes -/
def pressW (l k : Int) (L : List Nd) : List Nd := preA l (sumC L / k) L (pressJ l (sumC L / k) L)
def pressN (l k : Int) (L : List Nd) : Nat := pressJ l (sumC L / k) L
theorem pressed_fun {l : Int} (k : Int) {L : List Nd} (h : RollC l L) : Pressed l (sumC L / k) L (pressW l k L) (pressN l k L) :=
  ⟨(press_is _ h).1, (press_is _ h).2, rfl⟩
structure DgV (l k : Int) (L : List Nd) : Prop where
  k1 : 1 ≤ k
  k2 : k ≤ 1048576
  roll : RollC l L
  len : (L.length : Int) ≤ 8 * k
  light : LightC l (sumC L / k) L
/-- what was accepted stands behind it -/
structure DgS (l : Int) (L T : List Nd) : Prop where
  bag : BagC l T
  std : Std l L T
theorem dgC_of {l k : Int} {L T : List Nd} (v : DgV l k L) (s : DgS l L T) : DgC l k L T := ⟨v.k1, v.roll, v.len, v.light, s.bag, s.std⟩
theorem dgV_of {l k : Int} {L T : List Nd} (c : DgC l k L T) (h : k ≤ 1048576) : DgV l k L := ⟨c.kk, h, c.roll, c.len, c.light⟩
theorem dgS_of {l k : Int} {L T : List Nd} (c : DgC l k L T) : DgS l L T := ⟨c.bag, c.std⟩
theorem dgV_nil {l k : Int} (hl : 1 ≤ l ∧ l ≤ 48) (h1 : 1 ≤ k) (h2 : k ≤ 1048576) : DgV l k [] := dgV_of (dg_nil hl h1) h2
theorem dgS_nil {l : Int} (hl : 1 ≤ l ∧ l ≤ 48) : DgS l [] [] := ⟨bag_nil hl, std_nil l⟩
theorem dgV_press {l k : Int} {L : List Nd} (v : DgV l k L) : DgV l k (pressW l k L) ∧ ((pressW l k L).length : Int) ≤ 4 * k - 1 ∧ (pressW l k L).length ≤ L.length ∧ sumC (pressW l k L) = sumC L := by
  have p := pressed_fun k v.roll
  have q := pressed_few v.roll v.k1 p
  have a := q.2.1
  have b := v.len
  refine ⟨⟨v.k1, v.k2, q.2.2.1, by omega, ?_⟩, q.1, a, q.2.2.2⟩
  rw [q.2.2.2]
  exact light_pre v.roll p.live v.light
theorem dgS_press {l k : Int} {L T : List Nd} (v : RollC l L) (s : DgS l L T) : DgS l (pressW l k L) T := ⟨s.bag, std_pre s.std v (pressed_fun k v).live⟩
def dgE (l : Int) (L : List Nd) (x c : Int) : Int := if ValC l x then (if c < 1 then 4 else if 72057594037927935 - sumC L < c then 5 else 0) else 3
def dgRoom (l k : Int) (L : List Nd) (x : Int) : List Nd := if sumAt (leafN l x) L = 0 ∧ (L.length : Int) = 8 * k then pressW l k L else L
def dgIns (l k : Int) (L : List Nd) (x c : Int) : List Nd := if dgE l L x c = 0 then insW (dgRoom l k L x) (leafN l x) c else L
theorem dgE_yes {l : Int} {L : List Nd} {x c : Int} (h : dgE l L x c = 0) : ValC l x ∧ ¬ c < 1 ∧ ¬ 72057594037927935 < sumC L + c := by
  unfold dgE at h
  split at h
  · rename_i q
    split at h
    · simp at h
    · split at h
      · simp at h
      · exact ⟨q, by omega, by omega⟩
  · simp at h
theorem dgRoom_is {l k : Int} {L : List Nd} (v : DgV l k L) (x : Int) : DgV l k (dgRoom l k L x) ∧ sumC (dgRoom l k L x) = sumC L ∧ (dgRoom l k L x).length ≤ L.length ∧ (sumAt (leafN l x) (dgRoom l k L x) = 0 → ((dgRoom l k L x).length : Int) < 8 * k) := by
  unfold dgRoom
  have p := dgV_press v
  have k1 := v.k1
  split
  · exact ⟨p.1, p.2.2.2, p.2.2.1, fun _ => by omega⟩
  · rename_i q
    have := v.len
    exact ⟨v, rfl, Nat.le_refl _, fun z => by
      refine Classical.byContradiction fun c => q ⟨z, by omega⟩⟩
theorem dgS_room {l k : Int} {L T : List Nd} (v : RollC l L) (s : DgS l L T) (x : Int) : DgS l (dgRoom l k L x) T := by
  unfold dgRoom
  split
  · exact dgS_press v s
  · exact s
/-- behind an Insert: the digest is one, and what was accepted stands behind it -/
theorem dgS_ins {l k : Int} {L T : List Nd} (v : DgV l k L) (s : DgS l L T) (x c : Int) : DgV l k (dgIns l k L x c) ∧ DgS l (dgIns l k L x c) (if dgE l L x c = 0 then insW T x c else T) := by
  unfold dgIns
  by_cases h : dgE l L x c = 0
  · rw [if_pos h, if_pos h]
    obtain ⟨hx, hc, ht⟩ := dgE_yes h
    have r := dgRoom_is v x
    have z := dg_ins (dgC_of r.1 (dgS_room v.roll s x)) hx hc (by rw [r.2.1]; exact ht) r.2.2.2
    exact ⟨dgV_of z v.k2, dgS_of z⟩
  · rw [if_neg h, if_neg h]
    exact ⟨v, s⟩
theorem dgV_ins {l k : Int} {L : List Nd} (v : DgV l k L) (x c : Int) : DgV l k (dgIns l k L x c) := by
  unfold dgIns
  by_cases h : dgE l L x c = 0
  · rw [if_pos h]
    obtain ⟨hx, hc, ht⟩ := dgE_yes h
    have r := dgRoom_is v x
    have lf := leaf_right hx
    have g := roll_good r.1.roll
    have ea : addW (dgRoom l k L x) (leafN l x) c = insW (dgRoom l k L x) (leafN l x) c := if_neg (by omega)
    have hrl : RollC l (insW (dgRoom l k L x) (leafN l x) c) := by rw [← ea]; exact roll_add r.1.roll (right_yes lf.1) (by omega) (by rw [r.2.1]; omega)
    refine ⟨v.k1, v.k2, hrl, ?_, fun m hm hk => ?_⟩
    · rw [insW_len g]
      have := r.1.len
      split
      · rename_i z; have := r.2.2.2 z; omega
      · exact this
    · have gM := roll_good hrl
      have e := good_mem gM hm
      have p := gM.pos m hm
      rw [insW_sum] at e
      have ne : ¬ leafN l x = m.1 := fun q => hk.2 ⟨hk.1.1, hk.1.2.1, hk.1.2.2.1, by rw [← q]; exact lf.2.1⟩
      rw [if_neg ne] at e
      obtain ⟨n, hn, hq⟩ := sum_mem (L := dgRoom l k L x) (i := m.1) (by omega)
      have gn := good_mem g hn
      have a := r.1.light n hn (by rw [hq]; exact hk)
      rw [hq] at gn
      rw [insW_tot]
      have mono : sumC (dgRoom l k L x) / k ≤ (sumC (dgRoom l k L x) + c) / k := Int.ediv_le_ediv (by have := v.k1; omega) (by omega)
      omega
  · rw [if_neg h]
    exact v
def dgDo (l k : Int) (L : List Nd) (kd x c : Int) : List Nd := if kd = 1 then pressW l k L else if kd = 2 then [] else dgIns l k L x c
def dgTell (l k : Int) (L : List Nd) (kd x c : Int) : Int := if kd = 1 then (pressN l k L : Int) else if kd = 2 then 0 else dgE l L x c
/-- all that was accepted behind a call -/
def dgBag (l : Int) (L T : List Nd) (kd x c : Int) : List Nd := if kd = 1 then T else if kd = 2 then [] else if dgE l L x c = 0 then insW T x c else T
theorem dgS_do {l k : Int} {L T : List Nd} (v : DgV l k L) (s : DgS l L T) (kd x c : Int) : DgS l (dgDo l k L kd x c) (dgBag l L T kd x c) := by
  unfold dgDo dgBag
  split
  · exact dgS_press v.roll s
  · split
    · exact dgS_nil (of_decide_eq_true v.roll.1)
    · exact (dgS_ins v s x c).2
end Go.Proofs.YtelekchdbiimiaaGreat
namespace Go.Proofs.YtelekchdbiimiaaGreat
set_option linter.unusedVariables false
set_option maxRecDepth 100000
open Go.RowKit
/-- the blocks of a digest -/
def dgF (q p g h : Nat) : Nat → Prop := fun i => i = q ∨ poF p g h i
/-- the cells of a digest's box -/
def dgCells (l k kd : Int) (p : Nat) : List Value := [.int .i64 l, .int .i64 k, .int .i64 kd, .pointer (some ⟨p, 0, none⟩)]
structure DgA (w : World) (B q p g h : Nat) (kd l k : Int) (n : Nat) (L : List Nd) : Prop where
  top : w.ownsRow B 112 4 (.slice (some ⟨q, 0, none⟩) 1 1) 1 (dgCells l k kd p)
  po : PoA w B p g h kd l n L
  v : DgV l k L
section
variable {w w' : World} {B q p g h : Nat} {kd l k : Int} {n : Nat} {L : List Nd}
theorem DgA.below (d : DgA w B q p g h kd l k n L) (hb : Below w.heap.size w w') : DgA w' B q p g h kd l k n L := ⟨own_below d.top hb, d.po.below hb, d.v⟩
theorem DgA.low {B2 : Nat} (d : DgA w B q p g h kd l k n L) (hB : B2 ≤ B) : DgA w B2 q p g h kd l k n L := ⟨own_low d.top hB, d.po.low hB, d.v⟩
theorem DgA.more {m : Nat} (d : DgA w B q p g h kd l k n L) (hm : n ≤ m) : DgA w B q p g h kd l k m L := ⟨d.top, d.po.more hm, d.v⟩
theorem DgA.lt (d : DgA w B q p g h kd l k n L) : ∀ i, dgF q p g h i → B ≤ i ∧ i < w.heap.size := fun i f => by
  rcases f with rfl | f
  · exact d.top.lt i rfl
  · have a := d.po.lt
    rcases f with f | f | f <;> omega
theorem DgA.kp {F : Nat → Prop} (d : DgA w B q p g h kd l k n L) (c : Kp F w w') (f : ∀ i, F i → ¬ dgF q p g h i) : DgA w' B q p g h kd l k n L :=
  ⟨own_kp d.top c fun i e fi => f i fi (.inl (by simp only [Value.ownBlock, Option.some.injEq] at e; exact e.symm)), d.po.kp c fun i fi z => f i fi (.inr z), d.v⟩
theorem DgA.cells (d : DgA w B q p g h kd l k n L) : w.cell? ⟨q, 0, none⟩ = some (.int .i64 l) ∧ w.cell? ⟨q, 1, none⟩ = some (.int .i64 k) ∧ w.cell? ⟨q, 2, none⟩ = some (.int .i64 kd) ∧ w.cell? ⟨q, 3, none⟩ = some (.pointer (some ⟨p, 0, none⟩)) :=
  ⟨d.top.cellAt 0 (by omega), d.top.cellAt 1 (by omega), d.top.cellAt 2 (by omega), d.top.cellAt 3 (by omega)⟩
theorem DgA.isk (d : DgA w B q p g h kd l k n L) : kIs k = true := decide_eq_true ⟨d.v.k1, d.v.k2⟩
theorem DgA.free (d : DgA w B q p g h kd l k n L) (i : Nat) : w.frozen? ⟨q, i, none⟩ = false := d.top.frozenAt i
/-- the pool has turned -/
theorem DgA.po' {h' n' : Nat} {M : List Nd} (d : DgA w B q p g h kd l k n L) (c : Chg g h w w') (e : PoA w' B p g h' kd l n' M) (v : DgV l k M) : DgA w' B q p g h' kd l k n' M :=
  ⟨d.po.other d.top c (by decide) (by decide) (by decide) (by decide), e, v⟩
end
/-- what a call leaves -/
def DgPost (B q p g h : Nat) (kd l k : Int) (n : Nat) (M : List Nd) (x : Int) (w : World) (e : Ending) (w' : World) : Prop :=
  e = .returned (.int .i64 x) ∧ ∃ p' g' h', DgA w' B q p' g' h' kd l k n M ∧ Kp (dgF q p g h) w w' ∧ ∀ i, dgF q p' g' h' i → dgF q p g h i ∨ w.heap.size ≤ i
end Go.Proofs.YtelekchdbiimiaaGreat
namespace Go.Proofs.YtelekchdbiimiaaGreat
set_option linter.unusedVariables false
set_option maxRecDepth 100000
open Go.RowKit
/-- a box of three cells, stored anew -/
theorem tri_set {TS : TypeId} {w : World} {B q : Nat} {x y z : Value} (r : w.ownsRow B TS 3 (.slice (some ⟨q, 0, none⟩) 1 1) 1 [x, y, z]) (a b c : Value) :
    (((w.setCell ⟨q, 0, none⟩ a).setCell ⟨q, 1, none⟩ b).setCell ⟨q, 2, none⟩ c).ownsRow B TS 3 (.slice (some ⟨q, 0, none⟩) 1 1) 1 [a, b, c] ∧
    (∀ (base : Nat) (e : TypeId) (size n : Nat) (v : Value) (ys : List Value), e ≠ TS → w.ownsRow base e size v n ys → (((w.setCell ⟨q, 0, none⟩ a).setCell ⟨q, 1, none⟩ b).setCell ⟨q, 2, none⟩ c).ownsRow base e size v n ys) ∧
    Below B w (((w.setCell ⟨q, 0, none⟩ a).setCell ⟨q, 1, none⟩ b).setCell ⟨q, 2, none⟩ c) ∧
    (∀ (base : Nat) (e : TypeId) (size n : Nat) (v : Value) (ys : List Value), v.ownBlock ≠ some q → w.ownsRow base e size v n ys → (((w.setCell ⟨q, 0, none⟩ a).setCell ⟨q, 1, none⟩ b).setCell ⟨q, 2, none⟩ c).ownsRow base e size v n ys) := by
  have s0 := World.ownsRow.stored r 0 a
  have s1 := World.ownsRow.stored s0.1 1 b
  have s2 := World.ownsRow.stored s1.1 2 c
  have hB := (r.lt q rfl).1
  refine ⟨s2.1, fun base e size n v ys he o => ?_, (((Below.refl _ _).setCell (p := ⟨q, 0, none⟩) hB a).setCell (p := ⟨q, 1, none⟩) hB b).setCell (p := ⟨q, 2, none⟩) hB c, fun base e size n v ys he o => ?_⟩
  · have o1 := o.kept s0.2 (own_apart o r he)
    have o2 := o1.kept s1.2 (own_apart o1 s0.1 he)
    exact o2.kept s2.2 (own_apart o2 s1.1 he)
  · exact ((o.kept s0.2 (.inr he)).kept s1.2 (.inr he)).kept s2.2 (.inr he)
/-- all that is asked of a box of three cells -/
theorem tri_all {TS : TypeId} {w : World} {B q : Nat} {x y z : Value} (r : w.ownsRow B TS 3 (.slice (some ⟨q, 0, none⟩) 1 1) 1 [x, y, z]) :
    w.cell? ⟨q, 0, none⟩ = some x ∧ w.cell? ⟨q, 1, none⟩ = some y ∧ w.cell? ⟨q, 2, none⟩ = some z ∧ w.frozen? ⟨q, 0, none⟩ = false ∧ w.frozen? ⟨q, 1, none⟩ = false ∧ w.frozen? ⟨q, 2, none⟩ = false ∧ q < w.heap.size :=
  ⟨r.cellAt 0 (by omega), r.cellAt 1 (by omega), r.cellAt 2 (by omega), r.frozenAt 0, r.frozenAt 1, r.frozenAt 2, (r.lt q rfl).2⟩
/-- a result of three cells, read behind its store -/
theorem set_three {TS : TypeId} {w : World} {B q : Nat} {x y z : Value} (r : w.ownsRow B TS 3 (.slice (some ⟨q, 0, none⟩) 1 1) 1 [x, y, z]) (a b c : Value) :
    (((w.setCell ⟨q, 0, none⟩ a).setCell ⟨q, 1, none⟩ b).setCell ⟨q, 2, none⟩ c).cell? ⟨q, 0, none⟩ = some a ∧ (((w.setCell ⟨q, 0, none⟩ a).setCell ⟨q, 1, none⟩ b).setCell ⟨q, 2, none⟩ c).cell? ⟨q, 1, none⟩ = some b ∧ (((w.setCell ⟨q, 0, none⟩ a).setCell ⟨q, 1, none⟩ b).setCell ⟨q, 2, none⟩ c).cell? ⟨q, 2, none⟩ = some c := by
  have t := tri_all (tri_set r a b c).1
  exact ⟨t.1, t.2.1, t.2.2.1⟩
theorem tri_nw (w : World) (TO : TypeId) (a b c : Value) : (w.alloc (.cells #[a, b, c] TO)).ownsRow w.heap.size TO 3 (.slice (some ⟨w.heap.size, 0, none⟩) 1 1) 1 [a, b, c] :=
  World.ownsRow_lit (base := w.heap.size) (e := TO) (size := 3) w #[a, b, c] 1 (Nat.le_refl _) (by unfold maxLen; omega) rfl
theorem quad_new (w : World) (TO : TypeId) (a b c d : Value) : (w.alloc (.cells #[a, b, c, d] TO)).ownsRow w.heap.size TO 4 (.slice (some ⟨w.heap.size, 0, none⟩) 1 1) 1 [a, b, c, d] :=
  World.ownsRow_lit (base := w.heap.size) (e := TO) (size := 4) w #[a, b, c, d] 1 (Nat.le_refl _) (by unfold maxLen; omega) rfl
theorem quad_all {TS : TypeId} {w : World} {B q : Nat} {x y z u : Value} (r : w.ownsRow B TS 4 (.slice (some ⟨q, 0, none⟩) 1 1) 1 [x, y, z, u]) :
    w.cell? ⟨q, 0, none⟩ = some x ∧ w.cell? ⟨q, 1, none⟩ = some y ∧ w.cell? ⟨q, 2, none⟩ = some z ∧ w.cell? ⟨q, 3, none⟩ = some u ∧ w.frozen? ⟨q, 0, none⟩ = false ∧ w.frozen? ⟨q, 1, none⟩ = false ∧ w.frozen? ⟨q, 2, none⟩ = false ∧ w.frozen? ⟨q, 3, none⟩ = false ∧ q < w.heap.size :=
  ⟨r.cellAt 0 (by omega), r.cellAt 1 (by omega), r.cellAt 2 (by omega), r.cellAt 3 (by omega), r.frozenAt 0, r.frozenAt 1, r.frozenAt 2, r.frozenAt 3, (r.lt q rfl).2⟩
theorem addS_ins {l : Int} {L : List Nd} {id c : Int} (h : rightB l id = true) (hc : ¬ c < 1) (ht : ¬ 72057594037927935 < sumC L + c) : addS l L id c = insW L id c ∧ addE l L id c = 0 := by
  have q : ¬ (rightB l id = false ∨ c < 0) := by rintro (g | g); rw [h] at g; simp at g; omega
  have z : ¬ c = 0 := by omega
  unfold addS addE addW
  rw [if_neg q, if_neg ht, if_neg z, if_neg q, if_neg ht]
  exact ⟨rfl, rfl⟩
theorem dgE_val {l : Int} {L : List Nd} {x c : Int} (h : ¬ ValC l x) : dgE l L x c = 3 := if_neg h
theorem dgE_zero {l : Int} {L : List Nd} {x c : Int} (h : ValC l x) (h1 : c < 1) : dgE l L x c = 4 := by unfold dgE; rw [if_pos h, if_pos h1]
theorem dgE_full {l : Int} {L : List Nd} {x c : Int} (h : ValC l x) (h1 : ¬ c < 1) (h2 : 72057594037927935 - sumC L < c) : dgE l L x c = 5 := by unfold dgE; rw [if_pos h, if_neg h1, if_pos h2]
theorem dgE_ok {l : Int} {L : List Nd} {x c : Int} (h : ValC l x) (h1 : ¬ c < 1) (h2 : ¬ 72057594037927935 - sumC L < c) : dgE l L x c = 0 := by unfold dgE; rw [if_pos h, if_neg h1, if_neg h2]
theorem dgIns_no {l k : Int} {L : List Nd} {x c : Int} (h : ¬ dgE l L x c = 0) : dgIns l k L x c = L := if_neg h
end Go.Proofs.YtelekchdbiimiaaGreat
namespace Go.Proofs.YtelekchdbiimiaaGreat
set_option linter.unusedVariables false
set_option maxRecDepth 100000
open Go.RowKit
/-- why there is no digest of these nodes: 0 where there is one -/
def dgLdE (kd l k : Int) (L : List Nd) : Int := if kIs k = true ∧ isP kd l = true then (if rollB l L = true then (if (L.length : Int) ≤ 8 * k ∧ lightB l L k = true then 0 else 13) else 10) else 2
theorem dgLdE_conf {kd l k : Int} {L : List Nd} (h : ¬ (kIs k = true ∧ isP kd l = true)) : dgLdE kd l k L = 2 := if_neg h
theorem dgLdE_form {kd l k : Int} {L : List Nd} (h1 : kIs k = true) (h2 : isP kd l = true) (h3 : rollB l L = false) : dgLdE kd l k L = 10 := by
  unfold dgLdE; rw [if_pos ⟨h1, h2⟩, if_neg (by rw [h3]; simp)]
theorem dgLdE_cap {kd l k : Int} {L : List Nd} (h1 : kIs k = true) (h2 : isP kd l = true) (h3 : rollB l L = true) (h4 : ¬ ((L.length : Int) ≤ 8 * k ∧ lightB l L k = true)) : dgLdE kd l k L = 13 := by
  unfold dgLdE; rw [if_pos ⟨h1, h2⟩, if_pos h3, if_neg h4]
theorem dgLdE_ok {kd l k : Int} {L : List Nd} (h1 : kIs k = true) (h2 : isP kd l = true) (h3 : rollB l L = true) (h4 : (L.length : Int) ≤ 8 * k) (h5 : lightB l L k = true) : dgLdE kd l k L = 0 := by
  unfold dgLdE; rw [if_pos ⟨h1, h2⟩, if_pos h3, if_pos ⟨h4, h5⟩]
theorem light_c {l k : Int} {L : List Nd} (h : lightB l L k = true) : LightC l (sumC L / k) L := by
  unfold lightB at h
  rw [Bool.and_eq_true] at h
  exact of_decide_eq_true h.2
theorem dgLdE_nil {kd l k : Int} : dgLdE kd l k [] = if kIs k = true ∧ isP kd l = true then 0 else 2 := by
  unfold dgLdE
  by_cases h : kIs k = true ∧ isP kd l = true
  · rw [if_pos h, if_pos h]
    have u : 1 ≤ l ∧ l ≤ 48 := by rcases of_decide_eq_true h.2 with q | q <;> omega
    have kb : 1 ≤ k ∧ k ≤ 1048576 := of_decide_eq_true h.1
    have hr : rollB l [] = true := roll_iff.2 (roll_nil (uni_yes u))
    have hl : lightB l [] k = true := by
      unfold lightB
      rw [h.1]
      have z : LightC l (capW [] k) [] := fun m hm => by simp at hm
      simp [z]
    rw [if_pos hr, if_pos ⟨by simp; omega, hl⟩]
  · rw [if_neg h, if_neg h]
end Go.Proofs.YtelekchdbiimiaaGreat
