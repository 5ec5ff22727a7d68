/- Plain facts of the layers digest and rank: nodes that stand for values: whatever is closed downwards weighs no more among the nodes than among the values. No program is spoken of here. -/
import Derived.Test.YtfilmblpikcpnaaGreatPrP
import Derived.Test.YtfilmblpikcpnaaGreatPrNum4
import Derived.Test.YtfilmblpikcpnaaGreatBgNum
namespace Go.Proofs.YtfilmblpikcpnaaGreat
set_option linter.unusedVariables false

/-- closed downwards: where a parent is in, its children are -/
def Down (P : Int → Bool) : Prop := ∀ id, 1 ≤ id → id ≤ 562949953421311 → P id = true → P (2 * id) = true ∧ P (2 * id + 1) = true
/-- the nodes L stand for the values T -/
structure Std (l : Int) (L T : List Nd) : Prop where
  tot : sumC L = sumC T
  low : ∀ P, Down P → wtF P L ≤ wtF (fun x => P (leafN l x)) T
theorem std_nil (l : Int) : Std l [] [] := ⟨rfl, fun P _ => Int.le_refl _⟩
theorem std_ins {l : Int} {L T : List Nd} (h : Std l L T) (x c : Int) : Std l (insW L (leafN l x) c) (insW T x c) :=
  ⟨by rw [insW_tot, insW_tot, h.tot], fun P hP => by
    have := h.low P hP
    rw [wtF_ins, wtF_ins]
    split <;> omega⟩
theorem std_fold {l : Int} {L T : List Nd} (h : Std l L T) (hr : RollC l L) {id : Int} (h1 : id ≤ 9223372036854775807) : Std l (foldW l L id) T := by
  refine ⟨(foldW_tot hr id).trans h.tot, fun P hP => ?_⟩
  by_cases h0 : pairW l L id = 0
  · rw [pair_zero hr h0]; exact h.low P hP
  · have kb := kid_bd (pair_is h0) h1
    exact Int.le_trans (wt_fold hr P (hP id kb.1 kb.2)) (h.low P hP)
theorem std_pre {l cap : Int} {L T : List Nd} (h : Std l L T) (hr : RollC l L) {j : Nat} (hl : Live l cap L j) : Std l (preA l cap L j) T :=
  ⟨(pre_inv hr hl).tot.trans h.tot, fun P hP => Int.le_trans (wt_pre hr hl P hP) (h.low P hP)⟩
theorem wtF_le {P Q : Int → Bool} {L : List Nd} (hL : NonNeg L) (h : ∀ n ∈ L, P n.1 = true → Q n.1 = true) : wtF P L ≤ wtF Q L := by
  induction L with
  | nil => exact Int.le_refl _
  | cons n L ih =>
    have a := ih (fun m hm => hL m (by simp [hm])) fun m hm => h m (by simp [hm])
    have b := hL n (by simp)
    have c := h n (by simp)
    simp only [wtF]
    split
    · rename_i q; rw [if_pos (c q)]; omega
    · split <;> omega
theorem wtF_eq {P Q : Int → Bool} {L : List Nd} (h : ∀ n ∈ L, P n.1 = Q n.1) : wtF P L = wtF Q L := by
  induction L with
  | nil => rfl
  | cons n L ih => simp only [wtF, h n (by simp), ih fun m hm => h m (by simp [hm])]
theorem wtF_not (P : Int → Bool) (L : List Nd) : wtF P L + wtF (fun n => !(P n)) L = sumC L := by
  induction L with
  | nil => rfl
  | cons n L ih =>
    simp only [wtF, sumC]
    by_cases q : P n.1 = true
    · simp only [q, Bool.not_true, if_true]; simp; omega
    · have q2 : P n.1 = false := by simpa using q
      simp only [q2, Bool.not_false]; simp; omega
/-! ### what lies above what -/
theorem above_pos {a b : Int} (h : aboveB a b = true) (hb : b ≤ 9223372036854775807) : 1 ≤ a ∧ 1 ≤ b ∧ a ≤ b := by
  have q := of_decide_eq_true h
  refine ⟨q.1, q.2.1, ?_⟩
  rw [q.2.2]
  exact Int.ediv_le_self _ (by omega)
theorem above_self {a : Int} (h : 1 ≤ a) (h1 : a ≤ 9223372036854775807) : aboveB a a = true := by rw [above_end h (Int.le_refl a) h1]; simp
theorem above_anti {a b : Int} (h : aboveB a b = true) (k : aboveB b a = true) (ha : a ≤ 9223372036854775807) (hb : b ≤ 9223372036854775807) : a = b := by
  have := above_pos h hb
  have := above_pos k ha
  omega
/-- whatever lies above a node's child lies above the node, or is the child -/
theorem above_kid {a y : Int} (ha : 1 ≤ a) (h1 : 2 ≤ y) (hy : y ≤ 9223372036854775807) (h : aboveB a y = true) (hne : a ≠ y) : aboveB a (y / 2) = true := by
  have p := above_pos h hy
  rw [above_step ha (by omega) hy] at h
  exact h
theorem above_up {m : Int} (hm : 2 ≤ m) : ∀ (N : Nat) (y : Int), y.toNat ≤ N → y ≤ 9223372036854775807 → aboveB m y = true → aboveB (m / 2) y = true
  | 0, y, hN, hy, h => by have := above_pos h hy; omega
  | N + 1, y, hN, hy, h => by
    have p := above_pos h hy
    by_cases e : m = y
    · rw [← e, above_step (by omega) (by omega) (by omega)]
      exact above_self (by omega) (by omega)
    · have h2 := above_kid p.1 (by omega) hy h e
      rw [above_step (by omega) (by omega) hy]
      exact above_up hm N (y / 2) (by omega) (by omega) h2
theorem down_above {id : Int} (h : 1 ≤ id) : Down (aboveB id) := fun n n1 n2 hn => by
  have p := above_pos hn (by omega)
  refine ⟨?_, ?_⟩
  · rw [above_step h (by omega) (by omega), show 2 * n / 2 = n by omega]; exact hn
  · rw [above_step h (by omega) (by omega), show (2 * n + 1) / 2 = n by omega]; exact hn
/-- neither above the other one -/
def apartB (id n : Int) : Bool := !(aboveB id n) && !(aboveB n id)
theorem apart_iff {id n : Int} : apartB id n = true ↔ aboveB id n = false ∧ aboveB n id = false := by unfold apartB; simp
theorem apart_kid {id n m : Int} (h : 1 ≤ id) (h1 : id ≤ 9223372036854775807) (hm : m / 2 = n) (m2 : 2 ≤ m) (hx : m ≤ 9223372036854775807) (hn : apartB id n = true) : apartB id m = true := by
  obtain ⟨a, b⟩ := apart_iff.1 hn
  refine apart_iff.2 ⟨?_, ?_⟩
  · cases q : aboveB id m
    · rfl
    · by_cases e : id = m
      · have := above_up m2 id.toNat id (Nat.le_refl _) h1 (by rw [e]; exact above_self (by omega) hx)
        rw [hm, b] at this; cases this
      · have := above_kid h m2 hx q e
        rw [hm, a] at this; cases this
  · cases q : aboveB m id
    · rfl
    · have := above_up m2 id.toNat id (Nat.le_refl _) h1 q
      rw [hm, b] at this; cases this
theorem down_apart {id : Int} (h : 1 ≤ id) (h1 : id ≤ 9223372036854775807) : Down (apartB id) := fun n n1 n2 hn =>
  ⟨apart_kid h h1 (by omega) (by omega) (by omega) hn, apart_kid h h1 (by omega) (by omega) (by omega) hn⟩
/-- what weighs strictly above a node -/
def overB (id n : Int) : Bool := !(n == id) && aboveB n id
theorem wt_three {id : Int} {L : List Nd} (h : 1 ≤ id) (h1 : id ≤ 9223372036854775807) (hL : ∀ n ∈ L, 1 ≤ n.1 ∧ n.1 ≤ 9223372036854775807) : wtF (aboveB id) L + wtF (overB id) L + wtF (apartB id) L = sumC L := by
  induction L with
  | nil => rfl
  | cons n L ih =>
    have a := ih fun m hm => hL m (by simp [hm])
    have b := hL n (by simp)
    have key : (if aboveB id n.1 = true then n.2 else 0) + (if overB id n.1 = true then n.2 else 0) + (if apartB id n.1 = true then n.2 else 0) = n.2 := by
      unfold overB apartB
      cases q1 : aboveB id n.1 <;> cases q2 : aboveB n.1 id
      · simp
      · have e : n.1 ≠ id := fun e => by rw [e, above_self h h1] at q1; cases q1
        simp [e]
      · simp
      · have e := above_anti q1 q2 h1 b.2
        simp [e.symm]
    simp only [wtF, sumC]
    omega
/-- what of the values lies below a node -/
theorem wt_held {l id : Int} {T : List Nd} (hT : BagC l T) (h : RightC l id) (h1 : id ≤ 9223372036854775807) : wtF (fun x => aboveB id (leafN l x)) T = betN T (loN l id) (hiN l id) := by
  have hv := hT.val
  clear hT
  induction T with
  | nil => rfl
  | cons n T ih =>
    have a := ih fun m hm => hv m (by simp [hm])
    have b := above_leaf h (hv n (by simp)) h1
    simp only [wtF, betN, b, a, decide_eq_true_eq]
/-- of the values at least as much lies below each node as weighs there and below it, and at most that and what weighs above it -/
theorem std_held {l id : Int} {L T : List Nd} (h : Std l L T) (hr : RollC l L) (hT : BagC l T) (hi : RightC l id) (h1 : id ≤ 9223372036854775807) :
    wtF (aboveB id) L ≤ betN T (loN l id) (hiN l id) ∧ betN T (loN l id) (hiN l id) ≤ wtF (aboveB id) L + wtF (overB id) L := by
  have i1 := hi.2.2.1
  have a := h.low _ (down_above i1)
  have b := h.low _ (down_apart i1 h1)
  rw [wt_held hT hi h1] at a
  have c := wt_three i1 h1 (L := L) fun n hn => ⟨(right_pos (hr.2.2.1 n hn).1), right_max (hr.2.2.1 n hn).1⟩
  have d := wtF_le (P := fun x => apartB id (leafN l x)) (Q := fun x => !(aboveB id (leafN l x))) (good_nonneg hT.good) fun n _ q => by
    have := (apart_iff.1 q).1
    simp [this]
  have e := wtF_not (fun x => aboveB id (leafN l x)) T
  rw [wt_held hT hi h1] at e
  have f := h.tot
  omega
/-! ### how much the nodes above a value may weigh -/
theorem wt_over_step {y : Int} {L : List Nd} (hy : 2 ≤ y) (h1 : y ≤ 9223372036854775807) (hL : ∀ n ∈ L, 1 ≤ n.1 ∧ n.1 ≤ 9223372036854775807) : wtF (overB y) L = sumAt (y / 2) L + wtF (overB (y / 2)) L := by
  induction L with
  | nil => rfl
  | cons n L ih =>
    have a := ih fun m hm => hL m (by simp [hm])
    have b := hL n (by simp)
    have key : (if overB y n.1 = true then n.2 else 0) = (if n.1 = y / 2 then n.2 else 0) + (if overB (y / 2) n.1 = true then n.2 else 0) := by
      by_cases e : n.1 = y / 2
      · have q1 : overB y n.1 = true := by
          unfold overB
          rw [e, above_step (by omega) (by omega) h1, above_self (by omega) (by omega)]
          have : ¬ y / 2 = y := by omega
          simp [this]
        have q2 : overB (y / 2) n.1 = false := by unfold overB; simp [e]
        rw [if_pos q1, if_pos e, q2]; simp
      · have q : overB y n.1 = overB (y / 2) n.1 := by
          unfold overB
          by_cases z : n.1 = y
          · have : aboveB n.1 (y / 2) = false := by
              cases w : aboveB n.1 (y / 2)
              · rfl
              · have := above_pos w (by omega); omega
            rw [z] at this
            simp only [z, this, beq_self_eq_true, Bool.not_true, Bool.false_and, Bool.and_false]
          · by_cases lt : n.1 < y
            · have z2 : (n.1 == y) = false := by simpa using z
              have e2 : (n.1 == y / 2) = false := by simpa using e
              rw [above_step b.1 lt h1, z2, e2]
            · have w1 : aboveB n.1 y = false := by
                cases w : aboveB n.1 y
                · rfl
                · have := above_pos w h1; omega
              have w2 : aboveB n.1 (y / 2) = false := by
                cases w : aboveB n.1 (y / 2)
                · rfl
                · have := above_pos w (by omega); omega
              simp [w1, w2]
        rw [q, if_neg e]; omega
    simp only [wtF, sumAt, key, a]
    omega
theorem wt_over_le {cap : Int} {L : List Nd} (hg : Good L) (h0 : 0 ≤ cap) (hL : ∀ n ∈ L, 1 ≤ n.1 ∧ n.1 ≤ 9223372036854775807) : ∀ (k : Nat) (y : Int), AtDep y k → y ≤ 9223372036854775807 → (∀ n ∈ L, overB y n.1 = true → n.2 ≤ cap) → wtF (overB y) L ≤ (k : Int) * cap := by
  intro k
  induction k with
  | zero =>
    intro y hd hy _
    have e := dep_zero hd
    have : wtF (overB y) L = 0 := by
      have q : wtF (overB y) L = wtF (fun _ => false) L := wtF_eq fun n hn => by
        have b := hL n hn
        unfold overB
        by_cases z : n.1 = y
        · simp [z]
        · have : aboveB n.1 y = false := by
            cases w : aboveB n.1 y
            · rfl
            · have := above_pos w hy; omega
          simp [this]
      have z : ∀ M : List Nd, wtF (fun _ => false) M = 0 := fun M => by
        induction M with
        | nil => rfl
        | cons n M ih => simp only [wtF, ih]; rfl
      rw [q, z]
    rw [this]; omega
  | succ k ih =>
    intro y hd hy hc
    have h2 : 2 ≤ y := by
      have := hd.1
      have p := two_pos k
      rw [two_succ] at this; omega
    have s := wt_over_step h2 hy hL
    have sub : ∀ n ∈ L, overB (y / 2) n.1 = true → n.2 ≤ cap := fun n hn q => by
      refine hc n hn ?_
      unfold overB at q ⊢
      have b := hL n hn
      have q2 : aboveB n.1 (y / 2) = true := by
        cases w : aboveB n.1 (y / 2)
        · rw [w] at q; simp at q
        · rfl
      have p := above_pos q2 (by omega)
      have ne : ¬ n.1 = y := by omega
      rw [above_step b.1 (by omega) hy, q2]
      simp [ne]
    have a := ih (y / 2) (dep_half hd) (by omega) sub
    have c : sumAt (y / 2) L ≤ cap := by
      by_cases z : sumAt (y / 2) L = 0
      · omega
      · obtain ⟨n, hn, e⟩ := sum_mem z
        have g := good_mem hg hn
        rw [e] at g
        rw [g]
        refine hc n hn ?_
        unfold overB
        rw [e, above_step (by omega) (by omega) hy, above_self (by omega) (by omega)]
        have : ¬ y / 2 = y := by omega
        simp [this]
    rw [s, Int.natCast_add, Int.add_mul]
    omega

end Go.Proofs.YtfilmblpikcpnaaGreat
