/- Texts laid together: RnkNum, QuNum. -/
import Derived.Test.YtkhacpapkalkiaaGreatDgN
import Derived.Test.YtkhacpapkalkiaaGreatBgN
/- Plain facts of layer rank: the sums along a list, and the values at which they grow. No program is spoken of here. -/
namespace Go.Proofs.YtkhacpapkalkiaaGreat
set_option linter.unusedVariables false

theorem wtF_parts {P : Int → Bool} {l : Int} {L : List Nd} (h : RollC l L) (k : Nat) : 0 ≤ wtF P (L.take k) ∧ wtF P (L.take k) ≤ 72057594037927935 := by
  have nn : NonNeg L := good_nonneg (roll_good h)
  have b := wtF_bd P (L := L.take k) fun m hm => nn m (List.mem_of_mem_take hm)
  have e : sumC (L.take k) + sumC (L.drop k) = sumC L := by rw [← sumC_app, List.take_append_drop]
  have b2 := wtF_bd (fun _ => true) (L := L.drop k) fun m hm => nn m (List.mem_of_mem_drop hm)
  rw [wtF_all] at b2
  have s : sumC L ≤ 72057594037927935 := h.2.2.2.2
  exact ⟨b.1, by omega⟩
theorem wtF_all_parts {P : Int → Bool} {l : Int} {L : List Nd} (h : RollC l L) : 0 ≤ wtF P L ∧ wtF P L ≤ 72057594037927935 := by
  have q := wtF_parts (P := P) h L.length
  rwa [List.take_length] at q
def lowP (l y : Int) : Int → Bool := fun n => decide (hiN l n ≤ y)
def highP (l y : Int) : Int → Bool := fun n => decide (loN l n ≤ y)
theorem low_is (l : Int) (L : List Nd) (y : Int) : lowR l L y = wtF (lowP l y) L := rfl
theorem high_is (l : Int) (L : List Nd) (y : Int) : highR l L y = wtF (highP l y) L := rfl
theorem low_bd {l : Int} {L : List Nd} (h : RollC l L) (y : Int) : 0 ≤ lowR l L y ∧ lowR l L y ≤ 72057594037927935 := wtF_all_parts h
theorem high_bd {l : Int} {L : List Nd} (h : RollC l L) (y : Int) : 0 ≤ highR l L y ∧ highR l L y ≤ 72057594037927935 := wtF_all_parts h
theorem low_mono {l : Int} {L : List Nd} (h : RollC l L) {a b : Int} (hab : a ≤ b) : lowR l L a ≤ lowR l L b :=
  wtF_le (good_nonneg (roll_good h)) fun n _ q => decide_eq_true (Int.le_trans (of_decide_eq_true q) hab)
theorem high_mono {l : Int} {L : List Nd} (h : RollC l L) {a b : Int} (hab : a ≤ b) : highR l L a ≤ highR l L b :=
  wtF_le (good_nonneg (roll_good h)) fun n _ q => decide_eq_true (Int.le_trans (of_decide_eq_true q) hab)
theorem node_ends {l : Int} {L : List Nd} (h : RollC l L) {n : Nd} (hn : n ∈ L) : 0 ≤ loN l n.1 ∧ loN l n.1 ≤ hiN l n.1 ∧ hiN l n.1 < 2 ^ l.toNat := by
  have r : RightC l n.1 := of_decide_eq_true (h.2.2.1 n hn).1
  have m := right_max (h.2.2.1 n hn).1
  have e := end_yes r
  have b := wid_bd r m
  have p := wid_pos l n.1
  rw [e.1, e.2.1]
  exact ⟨by omega, by omega, by omega⟩
theorem low_high {l : Int} {L : List Nd} (h : RollC l L) (y : Int) : lowR l L y ≤ highR l L y :=
  wtF_le (good_nonneg (roll_good h)) fun n hn q => decide_eq_true (Int.le_trans (node_ends h hn).2.1 (of_decide_eq_true q))
/-- from the last value on both are all -/
theorem rank_last {l : Int} {L : List Nd} (h : RollC l L) {a : Int} (ha : 2 ^ l.toNat - 1 ≤ a) : lowR l L a = sumC L ∧ highR l L a = sumC L := by
  rw [← wtF_all]
  exact ⟨wtF_eq fun n hn => decide_eq_true (by have := node_ends h hn; omega), wtF_eq fun n hn => decide_eq_true (by have := node_ends h hn; omega)⟩
theorem wtF_none (L : List Nd) : wtF (fun _ => false) L = 0 := by
  induction L with
  | nil => rfl
  | cons n L ih => simp [wtF, ih]
theorem rank_first {l : Int} {L : List Nd} (h : RollC l L) {a : Int} (ha : a < 0) : lowR l L a = 0 ∧ highR l L a = 0 := by
  rw [← wtF_none L]
  exact ⟨wtF_eq fun n hn => decide_eq_false (by have := node_ends h hn; omega), wtF_eq fun n hn => decide_eq_false (by have := node_ends h hn; omega)⟩
/-- how far both may be apart -/
def slackN (l k : Int) (L : List Nd) : Int := l * (sumC L / k)
theorem slack_bd {l k : Int} {L : List Nd} (v : DgV l k L) : 0 ≤ sumC L / k ∧ sumC L / k ≤ 72057594037927935 ∧ 0 ≤ slackN l k L ∧ slackN l k L ≤ 3458764513820540880 := by
  have u : 1 ≤ l ∧ l ≤ 48 := of_decide_eq_true v.roll.1
  have s : sumC L ≤ 72057594037927935 := v.roll.2.2.2.2
  have s0 : 0 ≤ sumC L := by have := wtF_all_parts (P := fun _ => true) v.roll; rw [wtF_all] at this; exact this.1
  have k1 := v.k1
  have c0 : 0 ≤ sumC L / k := Int.ediv_nonneg s0 (by omega)
  have c1 : sumC L / k ≤ 72057594037927935 := Int.le_trans (Int.ediv_le_self _ s0) s
  have m : l * (sumC L / k) ≤ 48 * 72057594037927935 := Int.mul_le_mul u.2 c1 c0 (by omega)
  exact ⟨c0, c1, Int.mul_nonneg (by omega) c0, by unfold slackN; omega⟩
/-! ### the values at which the lower sum grows -/
def insS (x : Int) : List Int → List Int
  | [] => [x]
  | y :: ys => if y < x then y :: insS x ys else if y = x then y :: ys else x :: y :: ys
def stepsN (l : Int) (L : List Nd) : List Int := L.foldl (fun o n => insS (hiN l n.1) o) []
theorem steps_take (l : Int) {L : List Nd} {k : Nat} (hk : k < L.length) : stepsN l (L.take (k + 1)) = insS (hiN l (L.getD k nz).1) (stepsN l (L.take k)) := by
  have g : L.getD k nz = L[k] := by simp [List.getD_eq_getElem?_getD, hk]
  unfold stepsN
  rw [List.take_succ_eq_append_getElem hk, List.foldl_append, g]
  rfl
theorem insS_mem {x y : Int} : ∀ {T : List Int}, y ∈ insS x T ↔ y = x ∨ y ∈ T
  | [] => by simp [insS]
  | z :: T => by
    unfold insS
    split
    · rw [List.mem_cons, insS_mem, List.mem_cons]; constructor <;> (rintro (h | h | h) <;> simp [h])
    · split
      · rename_i h; subst h; simp
      · simp
theorem insS_len {x : Int} : ∀ {T : List Int}, (insS x T).length ≤ T.length + 1
  | [] => by simp [insS]
  | z :: T => by
    unfold insS
    have := insS_len (x := x) (T := T)
    split
    · simp; omega
    · split <;> simp
theorem steps_len (l : Int) (L : List Nd) : ∀ k : Nat, (stepsN l (L.take k)).length ≤ k
  | 0 => by simp [stepsN]
  | k + 1 => by
    have ih := steps_len l L k
    by_cases h : k < L.length
    · rw [steps_take l h]
      have := insS_len (x := hiN l (L.getD k nz).1) (T := stepsN l (L.take k))
      omega
    · rw [List.take_of_length_le (by omega)]
      rw [List.take_of_length_le (by omega)] at ih
      omega
theorem steps_mem (l : Int) (L : List Nd) (y : Int) : y ∈ stepsN l L ↔ ∃ n ∈ L, hiN l n.1 = y := by
  have key : ∀ (L : List Nd) (o : List Int), y ∈ L.foldl (fun o n => insS (hiN l n.1) o) o ↔ y ∈ o ∨ ∃ n ∈ L, hiN l n.1 = y := by
    intro L
    induction L with
    | nil => intro o; simp
    | cons n L ih =>
      intro o
      rw [List.foldl_cons, ih, insS_mem]
      constructor
      · rintro ((h | h) | ⟨m, hm, h⟩)
        · exact .inr ⟨n, by simp, h.symm⟩
        · exact .inl h
        · exact .inr ⟨m, by simp [hm], h⟩
      · rintro (h | ⟨m, hm, h⟩)
        · exact .inl (.inr h)
        · rcases List.mem_cons.1 hm with q | q
          · subst q; exact .inl (.inl h.symm)
          · exact .inr ⟨m, q, h⟩
  rw [stepsN, key]; simp
/-- rising -/
def RiseI : List Int → Prop
  | [] => True
  | x :: T => (∀ y ∈ T, x < y) ∧ RiseI T
theorem insS_rise {x : Int} : ∀ {T : List Int}, RiseI T → RiseI (insS x T)
  | [], _ => ⟨fun y h => by simp at h, trivial⟩
  | z :: T, ⟨h1, h2⟩ => by
    unfold insS
    split
    · rename_i hz
      refine ⟨fun y hy => ?_, insS_rise h2⟩
      rcases insS_mem.1 hy with q | q
      · omega
      · exact h1 y q
    · split
      · exact ⟨h1, h2⟩
      · refine ⟨fun y hy => ?_, h1, h2⟩
        rcases List.mem_cons.1 hy with q | q
        · omega
        · have := h1 y q; omega
theorem steps_rise (l : Int) (L : List Nd) : RiseI (stepsN l L) := by
  have key : ∀ (L : List Nd) (o : List Int), RiseI o → RiseI (L.foldl (fun o n => insS (hiN l n.1) o) o) := by
    intro L
    induction L with
    | nil => intro o h; exact h
    | cons n L ih => intro o h; exact ih _ (insS_rise h)
  exact key L [] trivial
/-- a rising list is told by what it has -/
theorem rise_uniq : ∀ {S T : List Int}, RiseI S → RiseI T → (∀ y, y ∈ S ↔ y ∈ T) → S = T
  | [], [], _, _, _ => rfl
  | [], y :: T, _, _, h => absurd ((h y).2 (by simp)) (by simp)
  | x :: S, [], _, _, h => absurd ((h x).1 (by simp)) (by simp)
  | x :: S, y :: T, ⟨a, b⟩, ⟨c, d⟩, h => by
    have e : x = y := by
      rcases List.mem_cons.1 ((h x).1 (by simp)) with p | p
      · exact p
      · rcases List.mem_cons.1 ((h y).2 (by simp)) with q | q
        · exact q.symm
        · have := a y q; have := c x p; omega
    subst e
    have r := rise_uniq b d fun z => by
      constructor
      · intro hz
        rcases List.mem_cons.1 ((h z).1 (List.mem_cons_of_mem _ hz)) with q | q
        · have := a z hz; omega
        · exact q
      · intro hz
        rcases List.mem_cons.1 ((h z).2 (List.mem_cons_of_mem _ hz)) with q | q
        · have := c z hz; omega
        · exact q
    rw [r]
theorem ins_at {x : Int} : ∀ {T : List Int} {k : Nat}, k ≤ T.length → (∀ j, j < k → T.getD j 0 < x) → (k = T.length ∨ ¬ T.getD k 0 < x) → insS x T = if k < T.length ∧ T.getD k 0 = x then T else T.take k ++ x :: T.drop k
  | [], k, hk, _, _ => by
    obtain rfl : k = 0 := by simpa using hk
    simp [insS]
  | y :: T, 0, _, _, h => by
    have hy : ¬ y < x := by rcases h with h | h; simp at h; simpa using h
    unfold insS
    rw [if_neg hy]
    by_cases e : y = x
    · rw [if_pos e, if_pos ⟨by simp, by simpa using e⟩]
    · rw [if_neg e, if_neg (by simp [e])]
      simp
  | y :: T, k + 1, hk, h1, h2 => by
    have hy : y < x := by simpa using h1 0 (by omega)
    have ih := ins_at (x := x) (T := T) (k := k) (by simpa using hk) (fun j hj => by simpa using h1 (j + 1) (by omega)) (by rcases h2 with h | h; exact .inl (by simpa using h); exact .inr (by simpa using h))
    unfold insS
    rw [if_pos hy, ih]
    by_cases c : k < T.length ∧ T.getD k 0 = x
    · rw [if_pos c, if_pos ⟨by simp; omega, by simpa using c.2⟩]
    · rw [if_neg c, if_neg (by simpa using c)]
      simp
theorem steps_bd {l : Int} {L : List Nd} (h : RollC l L) : ∀ y ∈ stepsN l L, 0 ≤ y ∧ y < 2 ^ l.toNat := fun y hy => by
  obtain ⟨n, hn, e⟩ := (steps_mem l L y).1 hy
  have := node_ends h hn
  omega

end Go.Proofs.YtkhacpapkalkiaaGreat

/- Plain facts of layer quant: the least value up to which so much weighs. No program is spoken of here. -/
namespace Go.Proofs.YtkhacpapkalkiaaGreat
set_option linter.unusedVariables false

/-- what those nodes weigh whose end is at most y -/
def wtE (e : Int → Int) (L : List Nd) (y : Int) : Int := wtF (fun n => decide (e n ≤ y)) L
theorem low_wtE (l : Int) (L : List Nd) (y : Int) : lowR l L y = wtE (hiN l) L y := rfl
theorem high_wtE (l : Int) (L : List Nd) (y : Int) : highR l L y = wtE (loN l) L y := rfl
/-- of the ends the least one that will do, by definition -/
def bestS (e : Int → Int) (A : List Nd) (r b : Int) (n : Nd) : Int := if r ≤ wtE e A (e n.1) ∧ (b < 0 ∨ e n.1 < b) then e n.1 else b
def bestE (e : Int → Int) (A : List Nd) (r : Int) (P : List Nd) : Int := P.foldl (bestS e A r) (-1)
theorem best_take (e : Int → Int) (A : List Nd) (r : Int) {P : List Nd} {k : Nat} (hk : k < P.length) : bestE e A r (P.take (k + 1)) = bestS e A r (bestE e A r (P.take k)) (P.getD k nz) := by
  have g : P.getD k nz = P[k] := by simp [List.getD_eq_getElem?_getD, hk]
  unfold bestE
  rw [List.take_succ_eq_append_getElem hk, List.foldl_append, g]
  rfl
theorem best_spec {e : Int → Int} {A : List Nd} {r : Int} (he : ∀ n ∈ A, 0 ≤ e n.1) : ∀ (P Q : List Nd) (b : Int), (∀ n ∈ P, n ∈ A) → (∀ n ∈ Q, n ∈ A) →
    ((b = -1 ∧ ∀ n ∈ Q, wtE e A (e n.1) < r) ∨ (∃ m ∈ A, b = e m.1 ∧ r ≤ wtE e A b ∧ ∀ n ∈ Q, r ≤ wtE e A (e n.1) → b ≤ e n.1)) →
    ((P.foldl (bestS e A r) b = -1 ∧ ∀ n ∈ Q ++ P, wtE e A (e n.1) < r) ∨ (∃ m ∈ A, P.foldl (bestS e A r) b = e m.1 ∧ r ≤ wtE e A (e m.1) ∧ ∀ n ∈ Q ++ P, r ≤ wtE e A (e n.1) → e m.1 ≤ e n.1))
  | [], Q, b, _, _, h => by
    rcases h with ⟨h1, h2⟩ | ⟨m, hm, h1, h2, h3⟩
    · exact .inl ⟨h1, by simpa using h2⟩
    · subst h1; exact .inr ⟨m, hm, rfl, h2, by simpa using h3⟩
  | x :: P, Q, b, hP, hQ, h => by
    have hx := hP x (by simp)
    have h0 := he x hx
    have k : ((bestS e A r b x = -1 ∧ ∀ n ∈ Q ++ [x], wtE e A (e n.1) < r) ∨ (∃ m ∈ A, bestS e A r b x = e m.1 ∧ r ≤ wtE e A (bestS e A r b x) ∧ ∀ n ∈ Q ++ [x], r ≤ wtE e A (e n.1) → bestS e A r b x ≤ e n.1)) := by
      unfold bestS
      by_cases c : r ≤ wtE e A (e x.1) ∧ (b < 0 ∨ e x.1 < b)
      · rw [if_pos c]
        refine .inr ⟨x, hx, rfl, c.1, fun n hn hr => ?_⟩
        rcases List.mem_append.1 hn with q | q
        · rcases h with ⟨_, h2⟩ | ⟨m, hm, h1, _, h3⟩
          · have := h2 n q; omega
          · have a := h3 n q hr
            have z := he m hm
            omega
        · rw [List.mem_singleton.1 q]; omega
      · rw [if_neg c]
        rcases h with ⟨h1, h2⟩ | ⟨m, hm, h1, h2, h3⟩
        · refine .inl ⟨h1, fun n hn => ?_⟩
          rcases List.mem_append.1 hn with q | q
          · exact h2 n q
          · rw [List.mem_singleton.1 q]; omega
        · refine .inr ⟨m, hm, h1, h2, fun n hn hr => ?_⟩
          rcases List.mem_append.1 hn with q | q
          · exact h3 n q hr
          · rw [List.mem_singleton.1 q] at hr ⊢; omega
    have r2 := best_spec he P (Q ++ [x]) (bestS e A r b x) (fun n hn => hP n (by simp [hn])) (fun n hn => by
      rcases List.mem_append.1 hn with q | q
      · exact hQ n q
      · rw [List.mem_singleton.1 q]; exact hx) k
    rw [List.append_assoc] at r2
    exact r2
/-- the greatest end at most z -/
theorem end_under {e : Int → Int} {z : Int} : ∀ {L : List Nd}, (∃ n ∈ L, e n.1 ≤ z) → ∃ n ∈ L, e n.1 ≤ z ∧ ∀ m ∈ L, e m.1 ≤ z → e m.1 ≤ e n.1
  | [], h => by obtain ⟨n, h, _⟩ := h; simp at h
  | x :: L, h => by
    by_cases c : ∃ n ∈ L, e n.1 ≤ z
    · obtain ⟨n, hn, h1, h2⟩ := end_under c
      by_cases d : e x.1 ≤ z ∧ e n.1 < e x.1
      · refine ⟨x, by simp, d.1, fun m hm hz => ?_⟩
        rcases List.mem_cons.1 hm with q | q
        · rw [q]; omega
        · have := h2 m q hz; omega
      · refine ⟨n, by simp [hn], h1, fun m hm hz => ?_⟩
        rcases List.mem_cons.1 hm with q | q
        · rw [q] at hz ⊢; omega
        · exact h2 m q hz
    · obtain ⟨n, hn, h1⟩ := h
      have hx : n = x := by
        rcases List.mem_cons.1 hn with q | q
        · exact q
        · exact absurd ⟨n, q, h1⟩ c
      subst hx
      refine ⟨n, by simp, h1, fun m hm hz => ?_⟩
      rcases List.mem_cons.1 hm with q | q
      · rw [q]; omega
      · exact absurd ⟨m, q, hz⟩ c
theorem wtE_at {e : Int → Int} {L : List Nd} {z : Int} (h : 1 ≤ wtE e L z) : ∃ n ∈ L, e n.1 ≤ z ∧ wtE e L (e n.1) = wtE e L z := by
  have c : ∃ n ∈ L, e n.1 ≤ z := Classical.byContradiction fun c => by
    have : wtE e L z = wtF (fun _ => false) L := wtF_eq fun n hn => decide_eq_false fun q => c ⟨n, hn, q⟩
    rw [this, wtF_none] at h
    omega
  obtain ⟨n, hn, h1, h2⟩ := end_under c
  refine ⟨n, hn, h1, wtF_eq fun m hm => ?_⟩
  by_cases q : e m.1 ≤ z
  · rw [decide_eq_true q, decide_eq_true (h2 m hm q)]
  · rw [decide_eq_false q, decide_eq_false (by omega)]
theorem wtE_mono {e : Int → Int} {L : List Nd} (h : NonNeg L) {a b : Int} (hab : a ≤ b) : wtE e L a ≤ wtE e L b :=
  wtF_le h fun n _ q => decide_eq_true (Int.le_trans (of_decide_eq_true q) hab)
/-- y is the least up to which so much weighs -/
structure AtP (e : Int → Int) (L : List Nd) (r y : Int) : Prop where
  is : r ≤ wtE e L y
  least : ∀ z, z < y → wtE e L z < r
theorem AtP.uniq {e : Int → Int} {L : List Nd} {r x y : Int} (a : AtP e L r x) (b : AtP e L r y) : x = y := by
  rcases Int.lt_trichotomy x y with h | h | h
  · have := b.least x h; have := a.is; omega
  · exact h
  · have := a.least y h; have := b.is; omega
theorem AtP.mono {e : Int → Int} {L : List Nd} {r s x y : Int} (a : AtP e L r x) (b : AtP e L s y) (h : r ≤ s) : x ≤ y := by
  rcases Int.lt_or_le y x with q | q
  · have := a.least y q; have := b.is; omega
  · exact q
theorem AtP.le {e : Int → Int} {L : List Nd} {r x z : Int} (a : AtP e L r x) (h : r ≤ wtE e L z) : x ≤ z := by
  rcases Int.lt_or_le z x with q | q
  · have := a.least z q; omega
  · exact q
/-- the best one is it -/
theorem best_at {e : Int → Int} {L : List Nd} {r : Int} (he : ∀ n ∈ L, 0 ≤ e n.1) (nn : NonNeg L) (h1 : 1 ≤ r) (h2 : r ≤ sumC L) : AtP e L r (bestE e L r L) ∧ ∃ m ∈ L, bestE e L r L = e m.1 := by
  have s := best_spec (r := r) he L [] (-1) (fun n h => h) (fun n h => by simp at h) (.inl ⟨rfl, fun n h => by simp at h⟩)
  -- up to a great number all of it weighs
  have top : ∃ Z, ∀ n ∈ L, e n.1 ≤ Z := by
    clear s h2 nn he
    induction L with
    | nil => exact ⟨0, fun n h => by simp at h⟩
    | cons x L ih =>
      obtain ⟨Z, hZ⟩ := ih
      refine ⟨max Z (e x.1), fun n hn => ?_⟩
      rcases List.mem_cons.1 hn with q | q
      · rw [q]; omega
      · have := hZ n q; omega
  obtain ⟨Z, hZ⟩ := top
  have all : wtE e L Z = sumC L := by rw [← wtF_all]; exact wtF_eq fun n hn => decide_eq_true (hZ n hn)
  obtain ⟨n, hn, _, hw⟩ := wtE_at (e := e) (L := L) (z := Z) (by omega)
  rcases s with ⟨_, s⟩ | ⟨m, hm, s1, s2, s3⟩
  · have := s n (by simpa using hn); omega
  · have eb : bestE e L r L = e m.1 := s1
    refine ⟨⟨by rw [eb]; exact s2, fun z hz => ?_⟩, m, hm, eb⟩
    rcases Int.lt_or_le (wtE e L z) r with q | q
    · exact q
    · obtain ⟨n, hn, hz2, hw2⟩ := wtE_at (e := e) (L := L) (z := z) (by omega)
      have := s3 n (by simpa using hn) (by omega)
      rw [eb] at hz
      omega
/-- the values of a rank: the least whose Low, and whose High, isn't below it -/
def atN (l : Int) (L : List Nd) (r : Int) : Int := bestE (hiN l) L r L
def fstQ (l : Int) (L : List Nd) (r : Int) : Int := bestE (loN l) L r L
theorem at_is {l : Int} {L : List Nd} {r : Int} (h : RollC l L) (h1 : 1 ≤ r) (h2 : r ≤ sumC L) : AtP (hiN l) L r (atN l L r) ∧ 0 ≤ atN l L r ∧ atN l L r < 2 ^ l.toNat := by
  obtain ⟨a, m, hm, e⟩ := best_at (e := hiN l) (fun n hn => by have := node_ends h hn; omega) (good_nonneg (roll_good h)) h1 h2
  have z := node_ends h hm
  refine ⟨a, ?_, ?_⟩ <;> (unfold atN; rw [e]; omega)
theorem fst_isQ {l : Int} {L : List Nd} {r : Int} (h : RollC l L) (h1 : 1 ≤ r) (h2 : r ≤ sumC L) : AtP (loN l) L r (fstQ l L r) ∧ 0 ≤ fstQ l L r ∧ fstQ l L r < 2 ^ l.toNat := by
  obtain ⟨a, m, hm, e⟩ := best_at (e := loN l) (fun n hn => by have := node_ends h hn; omega) (good_nonneg (roll_good h)) h1 h2
  have z := node_ends h hm
  refine ⟨a, ?_, ?_⟩ <;> (unfold fstQ; rw [e]; omega)
/-- the span's ends are in order -/
theorem fst_at {l : Int} {L : List Nd} {r : Int} (h : RollC l L) (h1 : 1 ≤ r) (h2 : r ≤ sumC L) : fstQ l L r ≤ atN l L r := by
  have a := (at_is h h1 h2).1
  have b := (fst_isQ h h1 h2).1
  refine b.le ?_
  have c := low_high h (atN l L r)
  have d := a.is
  rw [low_wtE, high_wtE] at c
  omega
/-- the true value of the rank is in the span; the value that is told has the rank, the one ahead of it is below that and the slack -/
theorem quant_holds {l k r x : Int} {L T : List Nd} (v : DgV l k L) (s : DgS l L T) (h1 : 1 ≤ r) (h2 : r ≤ sumC L) (hx : r ≤ betN T 0 x) (hl : ∀ z, z < x → betN T 0 z < r) :
    r ≤ betN T 0 (atN l L r) ∧ betN T 0 (atN l L r - 1) < r + slackN l k L ∧ fstQ l L r ≤ x ∧ x ≤ atN l L r := by
  have a := (at_is v.roll h1 h2).1
  have b := (fst_isQ v.roll h1 h2).1
  have r1 := std_rank (y := atN l L r) s.std v.roll s.bag
  have r2 := std_rank (y := atN l L r - 1) s.std v.roll s.bag
  have r3 := std_rank (y := x) s.std v.roll s.bag
  have g := rank_gap (y := atN l L r - 1) v.roll (slack_bd v).1 v.light
  have g2 : highR l L (atN l L r - 1) - lowR l L (atN l L r - 1) ≤ slackN l k L := g.2
  have c := a.least (atN l L r - 1) (by omega)
  have d := a.is
  rw [← low_wtE] at c d
  have m1 : r ≤ betN T 0 (atN l L r) := by omega
  refine ⟨m1, by omega, b.le (by rw [← high_wtE]; omega), ?_⟩
  rcases Int.lt_or_le (atN l L r) x with q | q
  · have := hl _ q; omega
  · exact q
/-- the last of a rising list is its greatest -/
theorem rise_last : ∀ {S : List Int} (h : S ≠ []), RiseI S → S.getLast h ∈ S ∧ ∀ y ∈ S, y ≤ S.getLast h
  | [x], _, _ => ⟨by simp, fun y hy => by simp at hy; simp [hy]⟩
  | x :: z :: S, _, ⟨a, b⟩ => by
    have r := rise_last (S := z :: S) (by simp) b
    rw [List.getLast_cons (by simp)]
    refine ⟨List.mem_cons_of_mem _ r.1, fun y hy => ?_⟩
    rcases List.mem_cons.1 hy with q | q
    · rw [q]; exact Int.le_of_lt (a _ r.1)
    · exact r.2 y q
theorem wtF_one {m : Nd} : ∀ {L : List Nd}, NonNeg L → m ∈ L → m.2 ≤ wtF (fun n => decide (n = m.1)) L
  | [], _, h => by simp at h
  | x :: L, nn, h => by
    have n2 : NonNeg L := fun y hy => nn y (by simp [hy])
    have b := wtF_bd (fun n => decide (n = m.1)) n2
    rcases List.mem_cons.1 h with q | q
    · subst q; simp only [wtF, decide_true, if_true]; omega
    · have i := wtF_one n2 q
      have hx := nn x (by simp)
      simp only [wtF]; split <;> omega
/-- the value of all is where the last node ends -/
theorem at_all {l : Int} {L : List Nd} (h : RollC l L) (h1 : 1 ≤ sumC L) : ∃ hn : stepsN l L ≠ [], (stepsN l L).getLast hn = atN l L (sumC L) := by
  have a := at_is h h1 (Int.le_refl _)
  obtain ⟨n0, hn0⟩ : ∃ n, n ∈ L := by
    cases L with
    | nil => simp [sumC] at h1
    | cons x L => exact ⟨x, by simp⟩
  have ne : stepsN l L ≠ [] := fun e => by
    have := (steps_mem l L (hiN l n0.1)).2 ⟨n0, hn0, rfl⟩
    rw [e] at this; simp at this
  refine ⟨ne, ?_⟩
  have r := rise_last ne (steps_rise l L)
  obtain ⟨m, hm, em⟩ := (steps_mem l L _).1 r.1
  refine AtP.uniq ⟨?_, fun z hz => ?_⟩ a.1
  · have : wtE (hiN l) L ((stepsN l L).getLast ne) = sumC L := by
      rw [← wtF_all]
      exact wtF_eq fun n hn => decide_eq_true (r.2 _ ((steps_mem l L _).2 ⟨n, hn, rfl⟩))
    omega
  · have nn := good_nonneg (roll_good h)
    have e := wtF_not (fun n => decide (hiN l n ≤ z)) L
    have p : 1 ≤ wtF (fun n => !(decide (hiN l n ≤ z))) L := by
      have q := (roll_good h).pos m hm
      have one : wtF (fun n => decide (n = m.1)) L ≤ wtF (fun n => !(decide (hiN l n ≤ z))) L := wtF_le nn fun n _ d => by
        have d := of_decide_eq_true d
        rw [d, em]; simp; omega
      have two := wtF_one nn hm
      omega
    show wtF (fun n => decide (hiN l n ≤ z)) L < sumC L
    omega

end Go.Proofs.YtkhacpapkalkiaaGreat
