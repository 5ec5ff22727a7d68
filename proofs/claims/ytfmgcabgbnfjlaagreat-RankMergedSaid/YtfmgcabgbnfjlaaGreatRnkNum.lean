/- Plain facts of layer rank: the sums along a list, and the values at which they grow. No program is spoken of here. -/
import Derived.Test.YtfmgcabgbnfjlaaGreatDgN
namespace Go.Proofs.YtfmgcabgbnfjlaaGreat
set_option linter.unusedVariables false

theorem wtF_parts {P : Int → Bool} {l : Int} {L : List Nd} (h : RollC l L) (k : Nat) : 0 ≤ wtF P (L.take k) ∧ wtF P (L.take k) ≤ 72057594037927935 := by
  have nn : NonNeg L := good_nonneg (roll_good h)
  have b := wtF_bd P (L := L.take k) fun m hm => nn m (List.mem_of_mem_take hm)
  have e : sumC (L.take k) + sumC (L.drop k) = sumC L := by rw [← sumC_app, List.take_append_drop]
  have b2 := wtF_bd (fun _ => true) (L := L.drop k) fun m hm => nn m (List.mem_of_mem_drop hm)
  rw [wtF_all] at b2
  have s : sumC L ≤ 72057594037927935 := h.2.2.2.2
  exact ⟨b.1, by omega⟩
theorem wtF_all_parts {P : Int → Bool} {l : Int} {L : List Nd} (h : RollC l L) : 0 ≤ wtF P L ∧ wtF P L ≤ 72057594037927935 := by
  have q := wtF_parts (P := P) h L.length
  rwa [List.take_length] at q
def lowP (l y : Int) : Int → Bool := fun n => decide (hiN l n ≤ y)
def highP (l y : Int) : Int → Bool := fun n => decide (loN l n ≤ y)
theorem low_is (l : Int) (L : List Nd) (y : Int) : lowR l L y = wtF (lowP l y) L := rfl
theorem high_is (l : Int) (L : List Nd) (y : Int) : highR l L y = wtF (highP l y) L := rfl
theorem low_bd {l : Int} {L : List Nd} (h : RollC l L) (y : Int) : 0 ≤ lowR l L y ∧ lowR l L y ≤ 72057594037927935 := wtF_all_parts h
theorem high_bd {l : Int} {L : List Nd} (h : RollC l L) (y : Int) : 0 ≤ highR l L y ∧ highR l L y ≤ 72057594037927935 := wtF_all_parts h
theorem low_mono {l : Int} {L : List Nd} (h : RollC l L) {a b : Int} (hab : a ≤ b) : lowR l L a ≤ lowR l L b :=
  wtF_le (good_nonneg (roll_good h)) fun n _ q => decide_eq_true (Int.le_trans (of_decide_eq_true q) hab)
theorem high_mono {l : Int} {L : List Nd} (h : RollC l L) {a b : Int} (hab : a ≤ b) : highR l L a ≤ highR l L b :=
  wtF_le (good_nonneg (roll_good h)) fun n _ q => decide_eq_true (Int.le_trans (of_decide_eq_true q) hab)
theorem node_ends {l : Int} {L : List Nd} (h : RollC l L) {n : Nd} (hn : n ∈ L) : 0 ≤ loN l n.1 ∧ loN l n.1 ≤ hiN l n.1 ∧ hiN l n.1 < 2 ^ l.toNat := by
  have r : RightC l n.1 := of_decide_eq_true (h.2.2.1 n hn).1
  have m := right_max (h.2.2.1 n hn).1
  have e := end_yes r
  have b := wid_bd r m
  have p := wid_pos l n.1
  rw [e.1, e.2.1]
  exact ⟨by omega, by omega, by omega⟩
theorem low_high {l : Int} {L : List Nd} (h : RollC l L) (y : Int) : lowR l L y ≤ highR l L y :=
  wtF_le (good_nonneg (roll_good h)) fun n hn q => decide_eq_true (Int.le_trans (node_ends h hn).2.1 (of_decide_eq_true q))
/-- from the last value on both are all -/
theorem rank_last {l : Int} {L : List Nd} (h : RollC l L) {a : Int} (ha : 2 ^ l.toNat - 1 ≤ a) : lowR l L a = sumC L ∧ highR l L a = sumC L := by
  rw [← wtF_all]
  exact ⟨wtF_eq fun n hn => decide_eq_true (by have := node_ends h hn; omega), wtF_eq fun n hn => decide_eq_true (by have := node_ends h hn; omega)⟩
theorem wtF_none (L : List Nd) : wtF (fun _ => false) L = 0 := by
  induction L with
  | nil => rfl
  | cons n L ih => simp [wtF, ih]
theorem rank_first {l : Int} {L : List Nd} (h : RollC l L) {a : Int} (ha : a < 0) : lowR l L a = 0 ∧ highR l L a = 0 := by
  rw [← wtF_none L]
  exact ⟨wtF_eq fun n hn => decide_eq_false (by have := node_ends h hn; omega), wtF_eq fun n hn => decide_eq_false (by have := node_ends h hn; omega)⟩
/-- how far both may be apart -/
def slackN (l k : Int) (L : List Nd) : Int := l * (sumC L / k)
theorem slack_bd {l k : Int} {L : List Nd} (v : DgV l k L) : 0 ≤ sumC L / k ∧ sumC L / k ≤ 72057594037927935 ∧ 0 ≤ slackN l k L ∧ slackN l k L ≤ 3458764513820540880 := by
  have u : 1 ≤ l ∧ l ≤ 48 := of_decide_eq_true v.roll.1
  have s : sumC L ≤ 72057594037927935 := v.roll.2.2.2.2
  have s0 : 0 ≤ sumC L := by have := wtF_all_parts (P := fun _ => true) v.roll; rw [wtF_all] at this; exact this.1
  have k1 := v.k1
  have c0 : 0 ≤ sumC L / k := Int.ediv_nonneg s0 (by omega)
  have c1 : sumC L / k ≤ 72057594037927935 := Int.le_trans (Int.ediv_le_self _ s0) s
  have m : l * (sumC L / k) ≤ 48 * 72057594037927935 := Int.mul_le_mul u.2 c1 c0 (by omega)
  exact ⟨c0, c1, Int.mul_nonneg (by omega) c0, by unfold slackN; omega⟩
/-! ### the values at which the lower sum grows -/
def insS (x : Int) : List Int → List Int
  | [] => [x]
  | y :: ys => if y < x then y :: insS x ys else if y = x then y :: ys else x :: y :: ys
def stepsN (l : Int) (L : List Nd) : List Int := L.foldl (fun o n => insS (hiN l n.1) o) []
theorem steps_take (l : Int) {L : List Nd} {k : Nat} (hk : k < L.length) : stepsN l (L.take (k + 1)) = insS (hiN l (L.getD k nz).1) (stepsN l (L.take k)) := by
  have g : L.getD k nz = L[k] := by simp [List.getD_eq_getElem?_getD, hk]
  unfold stepsN
  rw [List.take_succ_eq_append_getElem hk, List.foldl_append, g]
  rfl
theorem insS_mem {x y : Int} : ∀ {T : List Int}, y ∈ insS x T ↔ y = x ∨ y ∈ T
  | [] => by simp [insS]
  | z :: T => by
    unfold insS
    split
    · rw [List.mem_cons, insS_mem, List.mem_cons]; constructor <;> (rintro (h | h | h) <;> simp [h])
    · split
      · rename_i h; subst h; simp
      · simp
theorem insS_len {x : Int} : ∀ {T : List Int}, (insS x T).length ≤ T.length + 1
  | [] => by simp [insS]
  | z :: T => by
    unfold insS
    have := insS_len (x := x) (T := T)
    split
    · simp; omega
    · split <;> simp
theorem steps_len (l : Int) (L : List Nd) : ∀ k : Nat, (stepsN l (L.take k)).length ≤ k
  | 0 => by simp [stepsN]
  | k + 1 => by
    have ih := steps_len l L k
    by_cases h : k < L.length
    · rw [steps_take l h]
      have := insS_len (x := hiN l (L.getD k nz).1) (T := stepsN l (L.take k))
      omega
    · rw [List.take_of_length_le (by omega)]
      rw [List.take_of_length_le (by omega)] at ih
      omega
theorem steps_mem (l : Int) (L : List Nd) (y : Int) : y ∈ stepsN l L ↔ ∃ n ∈ L, hiN l n.1 = y := by
  have key : ∀ (L : List Nd) (o : List Int), y ∈ L.foldl (fun o n => insS (hiN l n.1) o) o ↔ y ∈ o ∨ ∃ n ∈ L, hiN l n.1 = y := by
    intro L
    induction L with
    | nil => intro o; simp
    | cons n L ih =>
      intro o
      rw [List.foldl_cons, ih, insS_mem]
      constructor
      · rintro ((h | h) | ⟨m, hm, h⟩)
        · exact .inr ⟨n, by simp, h.symm⟩
        · exact .inl h
        · exact .inr ⟨m, by simp [hm], h⟩
      · rintro (h | ⟨m, hm, h⟩)
        · exact .inl (.inr h)
        · rcases List.mem_cons.1 hm with q | q
          · subst q; exact .inl (.inl h.symm)
          · exact .inr ⟨m, q, h⟩
  rw [stepsN, key]; simp
/-- rising -/
def RiseI : List Int → Prop
  | [] => True
  | x :: T => (∀ y ∈ T, x < y) ∧ RiseI T
theorem insS_rise {x : Int} : ∀ {T : List Int}, RiseI T → RiseI (insS x T)
  | [], _ => ⟨fun y h => by simp at h, trivial⟩
  | z :: T, ⟨h1, h2⟩ => by
    unfold insS
    split
    · rename_i hz
      refine ⟨fun y hy => ?_, insS_rise h2⟩
      rcases insS_mem.1 hy with q | q
      · omega
      · exact h1 y q
    · split
      · exact ⟨h1, h2⟩
      · refine ⟨fun y hy => ?_, h1, h2⟩
        rcases List.mem_cons.1 hy with q | q
        · omega
        · have := h1 y q; omega
theorem steps_rise (l : Int) (L : List Nd) : RiseI (stepsN l L) := by
  have key : ∀ (L : List Nd) (o : List Int), RiseI o → RiseI (L.foldl (fun o n => insS (hiN l n.1) o) o) := by
    intro L
    induction L with
    | nil => intro o h; exact h
    | cons n L ih => intro o h; exact ih _ (insS_rise h)
  exact key L [] trivial
/-- a rising list is told by what it has -/
theorem rise_uniq : ∀ {S T : List Int}, RiseI S → RiseI T → (∀ y, y ∈ S ↔ y ∈ T) → S = T
  | [], [], _, _, _ => rfl
  | [], y :: T, _, _, h => absurd ((h y).2 (by simp)) (by simp)
  | x :: S, [], _, _, h => absurd ((h x).1 (by simp)) (by simp)
  | x :: S, y :: T, ⟨a, b⟩, ⟨c, d⟩, h => by
    have e : x = y := by
      rcases List.mem_cons.1 ((h x).1 (by simp)) with p | p
      · exact p
      · rcases List.mem_cons.1 ((h y).2 (by simp)) with q | q
        · exact q.symm
        · have := a y q; have := c x p; omega
    subst e
    have r := rise_uniq b d fun z => by
      constructor
      · intro hz
        rcases List.mem_cons.1 ((h z).1 (List.mem_cons_of_mem _ hz)) with q | q
        · have := a z hz; omega
        · exact q
      · intro hz
        rcases List.mem_cons.1 ((h z).2 (List.mem_cons_of_mem _ hz)) with q | q
        · have := c z hz; omega
        · exact q
    rw [r]
theorem ins_at {x : Int} : ∀ {T : List Int} {k : Nat}, k ≤ T.length → (∀ j, j < k → T.getD j 0 < x) → (k = T.length ∨ ¬ T.getD k 0 < x) → insS x T = if k < T.length ∧ T.getD k 0 = x then T else T.take k ++ x :: T.drop k
  | [], k, hk, _, _ => by
    obtain rfl : k = 0 := by simpa using hk
    simp [insS]
  | y :: T, 0, _, _, h => by
    have hy : ¬ y < x := by rcases h with h | h; simp at h; simpa using h
    unfold insS
    rw [if_neg hy]
    by_cases e : y = x
    · rw [if_pos e, if_pos ⟨by simp, by simpa using e⟩]
    · rw [if_neg e, if_neg (by simp [e])]
      simp
  | y :: T, k + 1, hk, h1, h2 => by
    have hy : y < x := by simpa using h1 0 (by omega)
    have ih := ins_at (x := x) (T := T) (k := k) (by simpa using hk) (fun j hj => by simpa using h1 (j + 1) (by omega)) (by rcases h2 with h | h; exact .inl (by simpa using h); exact .inr (by simpa using h))
    unfold insS
    rw [if_pos hy, ih]
    by_cases c : k < T.length ∧ T.getD k 0 = x
    · rw [if_pos c, if_pos ⟨by simp; omega, by simpa using c.2⟩]
    · rw [if_neg c, if_neg (by simpa using c)]
      simp
theorem steps_bd {l : Int} {L : List Nd} (h : RollC l L) : ∀ y ∈ stepsN l L, 0 ≤ y ∧ y < 2 ^ l.toNat := fun y hy => by
  obtain ⟨n, hn, e⟩ := (steps_mem l L y).1 hy
  have := node_ends h hn
  omega

end Go.Proofs.YtfmgcabgbnfjlaaGreat
