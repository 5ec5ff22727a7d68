/- Texts laid together: PrNum, PrNum2, PrNum3, PrMem, Pr, Pr2, Pr3, Pr4, Pr5. -/
import Derived.Test.YtelekchdbiimiaaGreatFoQ
import Derived.Deep.LoopGhost
import Derived.Test.YtelekchdbiimiaaGreatPoQ
namespace Go.Proofs.YtelekchdbiimiaaGreat
set_option linter.unusedVariables false
def cntF (f : Int → Int) : List Nd → Int
  | [] => 0
  | n :: L => f n.1 + cntF f L
theorem cntF_rem (f : Int → Int) {L : List Nd} (h : Good L) (a : Int) : cntF f (remW L a) = cntF f L - (if sumAt a L = 0 then 0 else f a) := by
  induction L with
  | nil => simp [remW, cntF, sumAt]
  | cons n L ih =>
    have g := nd_tail h
    have p := h.pos n (by simp)
    have q0 := (List.pairwise_cons.1 h.ids).1
    rw [rem_cons]
    by_cases q : n.1 = a
    · have e : sumAt a L = 0 := good_none fun m hm => by have := q0 m hm; omega
      rw [if_pos q, ih g, if_pos e, sumAt, if_pos q, e, if_neg (by omega)]
      simp only [cntF, q]; omega
    · rw [if_neg q, sumAt, if_neg q]
      simp only [cntF, ih g]
      have e : (0 : Int) + sumAt a L = sumAt a L := by omega
      rw [e]; omega
theorem cntF_ins (f : Int → Int) {L : List Nd} (h : Good L) (id c : Int) : cntF f (insW L id c) = cntF f L + (if sumAt id L = 0 then f id else 0) := by
  induction L with
  | nil => simp [insW, cntF, sumAt]
  | cons n L ih =>
    have g := nd_tail h
    have p := h.pos n (by simp)
    have q0 := (List.pairwise_cons.1 h.ids).1
    unfold insW
    split
    · rename_i q
      rw [if_pos (by rw [sumAt, if_neg (by omega), good_none fun m hm => by have := q0 m hm; omega]; rfl)]
      simp only [cntF]; omega
    · split
      · rename_i q
        have := good_sum_pos g (id := id)
        rw [if_neg (by rw [sumAt, if_pos q]; omega)]
        simp only [cntF, q]; omega
      · rename_i q
        rw [sumAt, if_neg q]
        simp only [cntF, ih g]
        have e : (0 : Int) + sumAt id L = sumAt id L := by omega
        rw [e]; omega
def wtF (P : Int → Bool) : List Nd → Int
  | [] => 0
  | n :: L => (if P n.1 = true then n.2 else 0) + wtF P L
theorem wtF_rem (P : Int → Bool) (L : List Nd) (a : Int) : wtF P (remW L a) = wtF P L - (if P a = true then sumAt a L else 0) := by
  induction L with
  | nil => simp [remW, wtF, sumAt]
  | cons n L ih =>
    rw [rem_cons]
    by_cases q : n.1 = a
    · rw [if_pos q, ih, sumAt, if_pos q]
      simp only [wtF, q]
      split <;> omega
    · rw [if_neg q, sumAt, if_neg q]
      simp only [wtF, ih]
      split <;> split <;> omega
theorem wtF_ins (P : Int → Bool) (L : List Nd) (id c : Int) : wtF P (insW L id c) = wtF P L + (if P id = true then c else 0) := by
  induction L with
  | nil => simp [insW, wtF]
  | cons n L ih =>
    unfold insW
    split
    · simp only [wtF]; omega
    · split
      · rename_i q
        simp only [wtF, q]
        split <;> omega
      · simp only [wtF, ih]; omega
theorem wtF_all (L : List Nd) : wtF (fun _ => true) L = sumC L := by
  induction L with
  | nil => rfl
  | cons n L ih => simp only [wtF, sumC, ih, if_true]
theorem log_kid {id : Int} (h : 1 ≤ id) (h1 : 2 * id + 1 ≤ 9223372036854775807) : logN (2 * id) = logN id + 1 ∧ logN (2 * id + 1) = logN id + 1 := by
  obtain ⟨k, _, e, _, d⟩ := dep_of h (by omega)
  obtain ⟨a, b⟩ := dep_kids d
  rw [(dep_is a (by omega)).1, (dep_is b (by omega)).1, e]
  exact ⟨by omega, by omega⟩
def phi (L : List Nd) : Int := cntF logN L
theorem phi_fold {l : Int} {L : List Nd} (h : RollC l L) {id : Int} (h0 : pairW l L id ≠ 0) (h1 : id ≤ 9223372036854775807) : phi (foldW l L id) + 1 ≤ phi L := by
  have hk := pair_is h0
  have kb := kid_bd hk h1
  have m := (mass_bd h id).1
  have e : pairW l L id = sumAt (2 * id) L + sumAt (2 * id + 1) L := if_pos (kid_yes hk).2.2
  have g := roll_good h
  have g1 := rem_good (id := 2 * id) g
  have g2 := rem_good (id := 2 * id + 1) g1
  have lk := log_kid kb.1 (by omega)
  have r1 := cntF_rem logN g (2 * id)
  have r2 := cntF_rem logN g1 (2 * id + 1)
  have s1 := rem_sum (2 * id + 1) L (2 * id)
  rw [if_neg (by omega)] at s1
  have a := cntF_ins logN g2 id (pairW l L id)
  have lb := (log_bd (id := id) h1).1
  unfold phi
  rw [(fold_is h hk).1]
  unfold addW
  rw [if_neg h0, a, r2, r1, s1, lk.1, lk.2]
  split <;> split <;> split <;> omega
theorem phi_bd {l : Int} {L : List Nd} (h : RollC l L) : 0 ≤ phi L ∧ phi L ≤ l * (L.length : Int) := by
  have key : ∀ n ∈ L, 0 ≤ logN n.1 ∧ logN n.1 ≤ l := fun n hn => by
    have r : RightC l n.1 := of_decide_eq_true (h.2.2.1 n hn).1
    have q := right_max (h.2.2.1 n hn).1
    exact ⟨(log_bd q).1, r.2.2.2⟩
  unfold phi
  clear h
  induction L with
  | nil => simp [cntF]
  | cons n L ih =>
    have a := key n (by simp)
    have b := ih fun m hm => key m (by simp [hm])
    have e : l * (((n :: L).length : Nat) : Int) = l * (L.length : Int) + l := by rw [List.length_cons, Int.natCast_add, Int.mul_add]; omega
    simp only [cntF]
    omega
/-- what a fold leaves of the weight of nodes that lie below one -/
theorem wt_fold {l : Int} {L : List Nd} (h : RollC l L) {id : Int} (P : Int → Bool) (hP : P id = true → P (2 * id) = true ∧ P (2 * id + 1) = true) : wtF P (foldW l L id) ≤ wtF P L := by
  by_cases h0 : pairW l L id = 0
  · rw [pair_zero h h0]; omega
  · have hk := pair_is h0
    have e : pairW l L id = sumAt (2 * id) L + sumAt (2 * id + 1) L := if_pos (kid_yes hk).2.2
    have nn := good_nonneg (roll_good h)
    have n1 := (sum_le nn (2 * id)).1
    have n2 := (sum_le nn (2 * id + 1)).1
    have s1 := rem_sum (2 * id + 1) L (2 * id)
    rw [if_neg (by omega)] at s1
    rw [(fold_is h hk).1]
    unfold addW
    rw [if_neg h0, wtF_ins, wtF_rem, wtF_rem, s1, e]
    by_cases hp : P id = true
    · obtain ⟨p1, p2⟩ := hP hp
      rw [if_pos hp, if_pos p1, if_pos p2]; omega
    · rw [if_neg hp]
      split <;> split <;> omega
theorem ready_par {l : Int} {L : List Nd} (h : RollC l L) {y most : Int} (hr : readyB l L y most = true) : y ∈ parH L := by
  have q := (of_decide_eq_true hr).1
  have hk := pair_is (l := l) (L := L) (id := y) (by omega)
  have hp := kid_pos hk
  have e : pairW l L y = sumAt (2 * y) L + sumAt (2 * y + 1) L := if_pos (kid_yes hk).2.2
  have ex : ∃ n ∈ L, n.1 = 2 * y ∨ n.1 = 2 * y + 1 := by
    by_cases a : sumAt (2 * y) L = 0
    · by_cases b : sumAt (2 * y + 1) L = 0
      · omega
      · refine Classical.byContradiction fun c => b (sumAt_none fun n hn hq => c ⟨n, hn, .inr hq⟩)
    · refine Classical.byContradiction fun c => a (sumAt_none fun n hn hq => c ⟨n, hn, .inl hq⟩)
  obtain ⟨n, hn, hq⟩ := ex
  refine (agH_mem [] (upsH L) y).2 (.inr ⟨hp, ?_⟩)
  unfold upsH
  exact List.mem_map.2 ⟨n, List.mem_filter.2 ⟨hn, decide_eq_true (by omega)⟩, by omega⟩
theorem fst_mem {l : Int} {L : List Nd} {most : Int} {T : List Int} (h : fstB l L most T = true) : fstN l L most T ∈ T ∧ readyB l L (fstN l L most T) most = true := by
  induction T with
  | nil => cases h
  | cons x T ih =>
    by_cases q : readyB l L x most = true
    · simp only [fstN, if_pos q]
      exact ⟨by simp, q⟩
    · simp only [fstB, if_neg q] at h
      simp only [fstN, if_neg q]
      exact ⟨List.mem_cons_of_mem _ (ih h).1, (ih h).2⟩
theorem fst_none {l : Int} {L : List Nd} {most : Int} {T : List Int} (h : fstB l L most T = false) : ∀ y ∈ T, readyB l L y most = false := by
  induction T with
  | nil => intro y hy; simp at hy
  | cons x T ih =>
    by_cases q : readyB l L x most = true
    · simp only [fstB, if_pos q] at h; cases h
    · simp only [fstB, if_neg q] at h
      intro y hy
      rcases List.mem_cons.1 hy with rfl | hy
      · simpa using q
      · exact ih h y hy
theorem fst_no {l : Int} {L : List Nd} {most : Int} {T : List Int} (h : ∀ y ∈ T, readyB l L y most = false) : fstB l L most T = false := by
  cases q : fstB l L most T
  · rfl
  · have r := fst_mem q
    rw [h _ r.1] at r
    cases r.2
/-- a ready one ahead of which none is ready is the first -/
theorem fst_is {l : Int} {L : List Nd} {most x : Int} {T : List Int} (hs : SrtH T) (hx : x ∈ T) (hr : readyB l L x most = true) (h : ∀ y ∈ T, Ah y x → readyB l L y most = false) : fstN l L most T = x ∧ fstB l L most T = true := by
  induction T with
  | nil => simp at hx
  | cons y T ih =>
    obtain ⟨h1, h2⟩ := List.pairwise_cons.1 hs
    rcases List.mem_cons.1 hx with e | q
    · subst e
      simp only [fstN, fstB, if_pos hr, and_self]
    · have hy := h y (by simp) (h1 x q)
      simp only [fstN, fstB, hy]
      exact ih h2 q fun z hz a => h z (List.mem_cons_of_mem _ hz) a
/-- .. among all nodes -/
theorem first_is {l : Int} {L : List Nd} {most x : Int} (h : RollC l L) (hr : readyB l L x most = true) (ha : ∀ y, readyB l L y most = true → ¬ Ah y x) : fstN l L most (parH L) = x ∧ fstB l L most (parH L) = true :=
  fst_is (parH_srt L) (ready_par h hr) hr fun y hy a => by
    cases q : readyB l L y most
    · rfl
    · exact absurd a (ha y q)
theorem none_is {l : Int} {L : List Nd} {most : Int} (h : ∀ y, readyB l L y most = false) : fstB l L most (parH L) = false := fst_no fun y _ => h y
theorem none_all {l : Int} {L : List Nd} {most : Int} (h : RollC l L) (hf : fstB l L most (parH L) = false) (y : Int) : readyB l L y most = false := by
  cases q : readyB l L y most
  · rfl
  · rw [fst_none hf y (ready_par h q)] at q; cases q
end Go.Proofs.YtelekchdbiimiaaGreat
namespace Go.Proofs.YtelekchdbiimiaaGreat
set_option linter.unusedVariables false
theorem good_mem {L : List Nd} (h : Good L) {n : Nd} (hn : n ∈ L) : sumAt n.1 L = n.2 := by
  induction L with
  | nil => simp at hn
  | cons m L ih =>
    have g := nd_tail h
    have q0 := (List.pairwise_cons.1 h.ids).1
    rcases List.mem_cons.1 hn with e | q
    · subst e
      rw [sumAt, if_pos rfl, good_none fun m hm => by have := q0 m hm; omega]; omega
    · have := q0 n q
      rw [sumAt, if_neg (by omega), ih g q]; omega
theorem sum_mem {L : List Nd} {i : Int} (h : sumAt i L ≠ 0) : ∃ n ∈ L, n.1 = i :=
  Classical.byContradiction fun c => h (sumAt_none fun n hn hq => c ⟨n, hn, hq⟩)
def fstX (l cap : Int) (L : List Nd) : Int := fstN l L cap (parH L)
def hasX (l cap : Int) (L : List Nd) : Bool := fstB l L cap (parH L)
def preA (l cap : Int) (L : List Nd) : Nat → List Nd
  | 0 => L
  | j + 1 => foldW l (preA l cap L j) (fstX l cap (preA l cap L j))
def preS (l cap : Int) (L : List Nd) : Nat → List Int
  | 0 => []
  | j + 1 => preS l cap L j ++ [fstX l cap (preA l cap L j)]
def Live (l cap : Int) (L : List Nd) (j : Nat) : Prop := ∀ i, i < j → hasX l cap (preA l cap L i) = true
theorem preS_len (l cap : Int) (L : List Nd) (j : Nat) : (preS l cap L j).length = j := by
  induction j with
  | zero => rfl
  | succ j ih => simp [preS, ih]
theorem live_uniq {l cap : Int} {L : List Nd} {j k : Nat} (hj : Live l cap L j) (hk : Live l cap L k) (sj : hasX l cap (preA l cap L j) = false) (sk : hasX l cap (preA l cap L k) = false) : j = k := by
  rcases Nat.lt_trichotomy j k with q | q | q
  · rw [hk j q] at sj; cases sj
  · exact q
  · rw [hj k q] at sk; cases sk
theorem live_step {l cap : Int} {L : List Nd} {j : Nat} (h : Live l cap L j) (hs : hasX l cap (preA l cap L j) = true) : Live l cap L (j + 1) := fun i hi => by
  rcases Nat.lt_or_ge i j with q | q
  · exact h i q
  · obtain rfl : i = j := by omega
    exact hs
/-- the first one that is ready has children that weigh something -/
theorem has_pair {l cap : Int} {L : List Nd} (h : RollC l L) (hs : hasX l cap L = true) : pairW l L (fstX l cap L) ≠ 0 ∧ allW l L (fstX l cap L) ≤ cap ∧ 1 ≤ fstX l cap L ∧ fstX l cap L ≤ 9223372036854775807 := by
  have r := fst_mem hs
  have q := of_decide_eq_true r.2
  have b := parH_mem (nbds_roll h) _ r.1
  exact ⟨by have := q.1; show pairW l L (fstN l L cap (parH L)) ≠ 0; omega, q.2, b.1, b.2⟩
structure PreI (l cap : Int) (L : List Nd) (j : Nat) : Prop where
  roll : RollC l (preA l cap L j)
  tot : sumC (preA l cap L j) = sumC L
  len : (preA l cap L j).length ≤ L.length
  phi : phi (preA l cap L j) + (j : Int) ≤ phi L
theorem pre_inv {l cap : Int} {L : List Nd} (h : RollC l L) {j : Nat} (hl : Live l cap L j) : PreI l cap L j := by
  induction j with
  | zero => exact ⟨h, rfl, Nat.le_refl _, by simp [preA]⟩
  | succ j ih =>
    have q := ih fun i hi => hl i (by omega)
    have p := has_pair q.roll (hl j (Nat.lt_succ_self j))
    have f := phi_fold q.roll p.1 p.2.2.2
    exact ⟨roll_fold q.roll _, (foldW_tot q.roll _).trans q.tot, Nat.le_trans (foldW_len q.roll _) q.len, by have := q.phi; simp only [preA]; omega⟩
/-- as often as nodes times bits, and not oftener -/
theorem live_le {l cap : Int} {L : List Nd} (h : RollC l L) {j : Nat} (hl : Live l cap L j) : (j : Int) ≤ l * (L.length : Int) := by
  have q := pre_inv h hl
  have a := (phi_bd q.roll).1
  have b := (phi_bd h).2
  have c := q.phi
  omega
def sumL (f : Int → Int) : List Int → Int
  | [] => 0
  | p :: P => f p + sumL f P
theorem sumL_congr {f g : Int → Int} {P : List Int} (h : ∀ q ∈ P, f q = g q) : sumL f P = sumL g P := by
  induction P with
  | nil => rfl
  | cons p P ih => rw [sumL, sumL, h p (by simp), ih fun q hq => h q (List.mem_cons_of_mem _ hq)]
theorem sumL_add (f g : Int → Int) (P : List Int) : sumL (fun p => f p + g p) P = sumL f P + sumL g P := by
  induction P with
  | nil => rfl
  | cons p P ih => simp only [sumL, ih]; omega
theorem sumL_ge {f : Int → Int} {c : Int} {P : List Int} (h : ∀ q ∈ P, c ≤ f q) : c * (P.length : Int) ≤ sumL f P := by
  induction P with
  | nil => simp [sumL]
  | cons p P ih =>
    have a := h p (by simp)
    have b := ih fun q hq => h q (List.mem_cons_of_mem _ hq)
    rw [List.length_cons, Int.natCast_add, Int.mul_add, sumL]
    omega
theorem own_sum {P : List Int} (hP : P.Pairwise (· ≠ ·)) : ∀ {L : List Nd}, Good L → sumL (fun p => sumAt p L) P ≤ sumC L := by
  induction P with
  | nil => intro L h; exact Int.le_trans (sum_le (good_nonneg h) 0).1 (sum_le (good_nonneg h) 0).2
  | cons p P ih =>
    intro L h
    obtain ⟨h1, h2⟩ := List.pairwise_cons.1 hP
    have a := ih h2 (rem_good (id := p) h)
    have e : sumL (fun q => sumAt q (remW L p)) P = sumL (fun q => sumAt q L) P := sumL_congr fun q hq => by rw [rem_sum, if_neg (h1 q hq)]
    rw [e, rem_tot] at a
    rw [sumL]
    omega
theorem kids_sum {P : List Int} (hP : P.Pairwise (· ≠ ·)) : ∀ {L : List Nd}, Good L → sumL (fun p => sumAt (2 * p) L + sumAt (2 * p + 1) L) P ≤ sumC L := by
  induction P with
  | nil => intro L h; exact Int.le_trans (sum_le (good_nonneg h) 0).1 (sum_le (good_nonneg h) 0).2
  | cons p P ih =>
    intro L h
    obtain ⟨h1, h2⟩ := List.pairwise_cons.1 hP
    have g1 := rem_good (id := 2 * p) h
    have a := ih h2 (rem_good (id := 2 * p + 1) g1)
    have e : sumL (fun q => sumAt (2 * q) (remW (remW L (2 * p)) (2 * p + 1)) + sumAt (2 * q + 1) (remW (remW L (2 * p)) (2 * p + 1))) P = sumL (fun q => sumAt (2 * q) L + sumAt (2 * q + 1) L) P := sumL_congr fun q hq => by
      have := h1 q hq
      rw [rem_sum, if_neg (by omega), rem_sum, if_neg (by omega), rem_sum, if_neg (by omega), rem_sum, if_neg (by omega)]
    have s := rem_sum (2 * p + 1) L (2 * p)
    rw [if_neg (by omega)] at s
    rw [e, rem_tot, rem_tot, s] at a
    rw [sumL]
    omega
theorem len_kids {P : List Int} : ∀ {L : List Nd}, Good L → (∀ n ∈ L, 1 ≤ n.1 ∧ (1 < n.1 → n.1 / 2 ∈ P)) → L.length ≤ 2 * P.length + 1 := by
  induction P with
  | nil =>
    intro L h hn
    match L, h, hn with
    | [], _, _ => simp
    | [n], _, _ => simp
    | a :: b :: L, h, hn =>
      have p := (List.pairwise_cons.1 h.ids).1 b (by simp)
      have ha := hn a (by simp)
      have hb := hn b (by simp)
      have : b.1 / 2 ∈ ([] : List Int) := hb.2 (by omega)
      simp at this
  | cons p P ih =>
    intro L h hn
    have g1 := rem_good (id := 2 * p) h
    have a := ih (rem_good (id := 2 * p + 1) g1) fun n hm => by
      have m1 := List.mem_filter.1 hm
      have m2 := List.mem_filter.1 m1.1
      have q := hn n m2.1
      have e1 : n.1 ≠ 2 * p + 1 := by have := m1.2; simpa using this
      have e2 : n.1 ≠ 2 * p := by have := m2.2; simpa using this
      refine ⟨q.1, fun h1 => ?_⟩
      rcases List.mem_cons.1 (q.2 h1) with z | z
      · omega
      · exact z
    have r1 := rem_len (id := 2 * p) h
    have r2 := rem_len (id := 2 * p + 1) g1
    rw [List.length_cons]
    split at r1 <;> split at r2 <;> omega
theorem srt_ne {W : List Int} (h : SrtH W) : W.Pairwise (· ≠ ·) := h.imp fun {a b} q e => by subst e; exact ah_irr _ q
/-- each parent of a node in the store has children that weigh something -/
theorem par_kid {l : Int} {L : List Nd} (h : RollC l L) {p : Int} (hp : p ∈ parH L) : KidC l p ∧ 0 < pairW l L p := by
  rcases (agH_mem [] (upsH L) p).1 hp with q | ⟨p1, q⟩
  · simp at q
  unfold upsH at q
  obtain ⟨n, hn, rfl⟩ := List.mem_map.1 q
  obtain ⟨hn, h1⟩ := List.mem_filter.1 hn
  have h1 : 1 < n.1 := of_decide_eq_true h1
  have r : RightC l n.1 := of_decide_eq_true (h.2.2.1 n hn).1
  have hm := right_max (h.2.2.1 n hn).1
  have hid := right_id r hm
  have lk := log_kid (id := n.1 / 2) p1 (by omega)
  have e : n.1 = 2 * (n.1 / 2) ∨ n.1 = 2 * (n.1 / 2) + 1 := by omega
  have lg : logN n.1 = logN (n.1 / 2) + 1 := by
    rcases e with e | e
    · rw [← lk.1, ← e]
    · rw [← lk.2, ← e]
  have hl := r.2.2.2
  have hk : KidC l (n.1 / 2) := ⟨⟨r.1, r.2.1, p1, by omega⟩, fun c => by have := c.2.2.2; omega⟩
  refine ⟨hk, ?_⟩
  have ep : pairW l L (n.1 / 2) = sumAt (2 * (n.1 / 2)) L + sumAt (2 * (n.1 / 2) + 1) L := if_pos (kid_yes hk).2.2
  have g := roll_good h
  have nn := good_nonneg g
  have gm := good_mem g hn
  have gp := g.pos n hn
  have a := (sum_le nn (2 * (n.1 / 2))).1
  have b := (sum_le nn (2 * (n.1 / 2) + 1)).1
  rw [ep]
  rcases e with e | e
  · rw [e] at gm; omega
  · rw [e] at gm; omega
theorem tight_few {l k : Int} {L : List Nd} (h : RollC l L) (hk : 1 ≤ k) (ht : ∀ y, readyB l L y (sumC L / k) = false) : (L.length : Int) ≤ 4 * k - 1 := by
  have g := roll_good h
  have nn := good_nonneg g
  have s0 : 0 ≤ sumC L := Int.le_trans (sum_le nn 0).1 (sum_le nn 0).2
  have hP := srt_ne (parH_srt L)
  have a := own_sum hP g
  have b := kids_sum hP g
  have c := sumL_add (fun p => sumAt (2 * p) L + sumAt (2 * p + 1) L) (fun p => sumAt p L) (parH L)
  have hc0 : 0 ≤ sumC L / k := Int.ediv_nonneg s0 (by omega)
  have d := sumL_ge (f := fun p => sumAt (2 * p) L + sumAt (2 * p + 1) L + sumAt p L) (c := sumC L / k + 1) (P := parH L) fun p hp => by
    obtain ⟨q1, q2⟩ := par_kid h hp
    have e2 : allW l L p = sumAt (2 * p) L + sumAt (2 * p + 1) L + sumAt p L := if_pos (kid_yes q1).2.2
    have r := of_decide_eq_false (ht p)
    have : ¬ allW l L p ≤ sumC L / k := fun z => r ⟨q2, z⟩
    rw [e2] at this
    omega
  have e := len_kids (P := parH L) g fun n hn => by
    have r : RightC l n.1 := of_decide_eq_true (h.2.2.1 n hn).1
    refine ⟨r.2.2.1, fun h1 => (agH_mem [] (upsH L) _).2 (.inr ⟨by omega, ?_⟩)⟩
    unfold upsH
    exact List.mem_map.2 ⟨n, List.mem_filter.2 ⟨hn, decide_eq_true h1⟩, rfl⟩
  have f1 := Int.mul_ediv_add_emod (sumC L) k
  have f2 := Int.emod_lt_of_pos (sumC L) (show 0 < k by omega)
  have hlt : (parH L).length < 2 * k := by
    refine Classical.byContradiction fun z => ?_
    have z2 : 2 * k ≤ ((parH L).length : Int) := by omega
    have m1 := Int.mul_le_mul_of_nonneg_left z2 (show 0 ≤ sumC L / k + 1 by omega)
    have m2 : (sumC L / k + 1) * (2 * k) = 2 * (k * (sumC L / k)) + 2 * k := by
      rw [Int.add_mul, Int.one_mul, Int.mul_comm (sumC L / k) (2 * k), Int.mul_assoc]
    rw [m2] at m1
    omega
  omega
def LightC (l cap : Int) (L : List Nd) : Prop := ∀ n ∈ L, KidC l n.1 → n.2 ≤ cap
theorem light_fold {l cap : Int} {L : List Nd} (h : RollC l L) {id : Int} (hl : LightC l cap L) (ha : allW l L id ≤ cap) : LightC l cap (foldW l L id) := by
  by_cases h0 : pairW l L id = 0
  · rw [pair_zero h h0]; exact hl
  · intro m hm hk
    have gM := roll_good (roll_fold h id)
    have g := roll_good h
    have e := good_mem gM hm
    have p := gM.pos m hm
    rw [foldW_sum h (pair_is h0)] at e
    split at e
    · omega
    · split at e
      · rename_i q
        rw [q] at e
        have e2 := (foldW_all h h0).1
        rw [foldW_sum h (pair_is h0), if_neg (by omega), if_pos rfl] at e2
        omega
      · obtain ⟨n, hn, hq⟩ := sum_mem (L := L) (i := m.1) (by omega)
        have gn := good_mem g hn
        have := hl n hn (by rw [hq]; exact hk)
        rw [hq] at gn
        omega
theorem light_pre {l cap : Int} {L : List Nd} (h : RollC l L) {j : Nat} (hl : Live l cap L j) (hL : LightC l cap L) : LightC l cap (preA l cap L j) := by
  induction j with
  | zero => exact hL
  | succ j ih =>
    have q := pre_inv h (j := j) fun i hi => hl i (by omega)
    exact light_fold q.roll (ih fun i hi => hl i (by omega)) (has_pair q.roll (hl j (Nat.lt_succ_self j))).2.1
theorem wt_pre {l cap : Int} {L : List Nd} (h : RollC l L) {j : Nat} (hl : Live l cap L j) (P : Int → Bool) (hP : ∀ id, 1 ≤ id → id ≤ 562949953421311 → P id = true → P (2 * id) = true ∧ P (2 * id + 1) = true) : wtF P (preA l cap L j) ≤ wtF P L := by
  induction j with
  | zero => exact Int.le_refl _
  | succ j ih =>
    have q := pre_inv h (j := j) fun i hi => hl i (by omega)
    have p := has_pair q.roll (hl j (Nat.lt_succ_self j))
    have kb := kid_bd (pair_is p.1) p.2.2.2
    exact Int.le_trans (wt_fold q.roll P (hP _ kb.1 kb.2)) (ih fun i hi => hl i (by omega))
end Go.Proofs.YtelekchdbiimiaaGreat
namespace Go.Proofs.YtelekchdbiimiaaGreat
set_option linter.unusedVariables false
/-- far from the pair that is folded all stays as ready as it was -/
theorem ready_far {l : Int} {L : List Nd} (h : RollC l L) {x y most : Int} (h0 : pairW l L x ≠ 0) (h1 : y ≠ x) (h2 : y ≠ 2 * x) (h3 : y ≠ 2 * x + 1) (h4 : y ≠ x / 2) : readyB l (foldW l L x) y most = readyB l L y most := by
  have hk := pair_is h0
  have hp := kid_pos hk
  have e1 : sumAt (2 * y) (foldW l L x) = sumAt (2 * y) L := by rw [foldW_sum h hk, if_neg (by omega), if_neg (by omega)]; omega
  have e2 : sumAt (2 * y + 1) (foldW l L x) = sumAt (2 * y + 1) L := by rw [foldW_sum h hk, if_neg (by omega), if_neg (by omega)]; omega
  have e3 : sumAt y (foldW l L x) = sumAt y L := by rw [foldW_sum h hk, if_neg (by omega), if_neg (by omega)]; omega
  unfold readyB pairW allW
  rw [e1, e2, e3]
theorem ready_pos {l : Int} {L : List Nd} {x most : Int} (h : readyB l L x most = true) : pairW l L x ≠ 0 ∧ KidC l x ∧ 1 ≤ x := by
  have q := (of_decide_eq_true h).1
  have hk := pair_is (l := l) (L := L) (id := x) (by omega)
  exact ⟨by omega, hk, kid_pos hk⟩
/-- into an agenda, if it is ready -/
def putX (l most : Int) (M : List Nd) (W : List Int) (x : Int) : List Int := if readyB l M x most = true then withH W x else W
def putS (l most : Int) (M : List Nd) (W : List Int) : List Int → List Int
  | [] => W
  | x :: T => putS l most M (putX l most M W x) T
theorem putX_mem (l most : Int) (M : List Nd) (W : List Int) (x y : Int) : y ∈ putX l most M W x ↔ y ∈ W ∨ (y = x ∧ readyB l M y most = true) := by
  unfold putX
  split
  · rename_i q
    rw [with_mem]
    constructor
    · rintro (e | e)
      · exact .inr ⟨e, by rw [e]; exact q⟩
      · exact .inl e
    · rintro (e | e)
      · exact .inr e
      · exact .inl e.1
  · rename_i q
    constructor
    · exact .inl
    · rintro (e | ⟨e, r⟩)
      · exact e
      · rw [e] at r; exact absurd r q
theorem putS_mem (l most : Int) (M : List Nd) (T : List Int) : ∀ (W : List Int) (y : Int), y ∈ putS l most M W T ↔ y ∈ W ∨ (y ∈ T ∧ readyB l M y most = true) := by
  induction T with
  | nil => intro W y; simp [putS]
  | cons x T ih =>
    intro W y
    rw [putS, ih, putX_mem, List.mem_cons]
    constructor
    · rintro ((q | q) | q)
      · exact .inl q
      · exact .inr ⟨.inl q.1, q.2⟩
      · exact .inr ⟨.inr q.1, q.2⟩
    · rintro (q | ⟨q | q, r⟩)
      · exact .inl (.inl q)
      · exact .inl (.inr ⟨q, r⟩)
      · exact .inr ⟨q, r⟩
theorem putX_srt {l most : Int} {M : List Nd} {W : List Int} (h : SrtH W) (x : Int) : SrtH (putX l most M W x) := by
  unfold putX
  split
  · exact with_srt h x
  · exact h
theorem putX_len (l most : Int) (M : List Nd) (W : List Int) (x : Int) : (putX l most M W x).length ≤ W.length + 1 := by
  unfold putX
  split
  · exact with_le W x
  · omega
theorem putS_srt {l most : Int} {M : List Nd} (T : List Int) : ∀ {W : List Int}, SrtH W → SrtH (putS l most M W T) := by
  induction T with
  | nil => intro W h; exact h
  | cons x T ih => intro W h; exact ih (putX_srt h x)
theorem putS_len (l most : Int) (M : List Nd) (T : List Int) : ∀ (W : List Int), (putS l most M W T).length ≤ W.length + T.length := by
  induction T with
  | nil => intro W; simp [putS]
  | cons x T ih =>
    intro W
    have a := ih (putX l most M W x)
    have b := putX_len l most M W x
    rw [List.length_cons, putS]
    omega
theorem putS_snoc (l most : Int) (M : List Nd) (x : Int) (T : List Int) : ∀ (W : List Int), putS l most M W (T ++ [x]) = putX l most M (putS l most M W T) x := by
  induction T with
  | nil => intro W; rfl
  | cons y T ih => intro W; exact ih _
/-- all that is ready waits in the agenda, in the order of folding -/
structure AgI (l cap : Int) (M : List Nd) (W : List Int) : Prop where
  all : ∀ y, readyB l M y cap = true → y ∈ W
  srt : SrtH W
  bds : ∀ y ∈ W, 1 ≤ y ∧ y ≤ 9223372036854775807
theorem agI_start {l cap : Int} {L : List Nd} (h : RollC l L) : AgI l cap L (parH L) := ⟨fun y hy => ready_par h hy, parH_srt L, parH_mem (nbds_roll h)⟩
theorem parH_again {L : List Nd} (h : NBds L) : agH [] (parH L) = parH L :=
  srtH_uniq (agH_srt List.Pairwise.nil _) (parH_srt L) fun x => by
    rw [agH_mem]
    constructor
    · rintro (q | q)
      · simp at q
      · exact q.2
    · intro q
      exact .inr ⟨(parH_mem h x q).1, q⟩
theorem agI_skip {l cap : Int} {M : List Nd} {x : Int} {W : List Int} (a : AgI l cap M (x :: W)) (h : readyB l M x cap = false) : AgI l cap M W :=
  ⟨fun y hy => by
    rcases List.mem_cons.1 (a.all y hy) with q | q
    · rw [q, h] at hy; cases hy
    · exact q, (List.pairwise_cons.1 a.srt).2, fun y hy => a.bds y (List.mem_cons_of_mem _ hy)⟩
theorem agI_end {l cap : Int} {M : List Nd} (a : AgI l cap M []) : hasX l cap M = false := none_is fun y => by
  cases q : readyB l M y cap
  · rfl
  · have := a.all y q; simp at this
theorem agI_hit {l cap : Int} {M : List Nd} {x : Int} {W : List Int} (h : RollC l M) (a : AgI l cap M (x :: W)) (hr : readyB l M x cap = true) : fstX l cap M = x ∧ hasX l cap M = true := by
  refine first_is h hr fun y hy q => ?_
  rcases List.mem_cons.1 (a.all y hy) with e | e
  · rw [e] at q; exact ah_irr _ q
  · exact ah_asym q ((List.pairwise_cons.1 a.srt).1 y e)
theorem agI_fold {l cap : Int} {M : List Nd} {x : Int} {W : List Int} (h : RollC l M) (a : AgI l cap M (x :: W)) (hr : readyB l M x cap = true) (u : Int) (hu : 1 < x → u = x / 2) : AgI l cap (foldW l M x) (putS l cap (foldW l M x) W [2 * x, 2 * x + 1, u]) := by
  have r := ready_pos hr
  refine ⟨fun y hy => ?_, putS_srt _ (List.pairwise_cons.1 a.srt).2, fun y hy => ?_⟩
  · rw [putS_mem]
    have py := ready_pos hy
    by_cases e1 : y = 2 * x
    · exact .inr ⟨by simp [e1], hy⟩
    by_cases e2 : y = 2 * x + 1
    · exact .inr ⟨by simp [e2], hy⟩
    by_cases e3 : y = x / 2
    · have : 1 < x := by omega
      exact .inr ⟨by rw [e3, hu this]; simp, hy⟩
    by_cases e4 : y = x
    · rw [e4, foldW_not h x cap] at hy; cases hy
    · rw [ready_far h r.1 e4 e1 e2 e3] at hy
      rcases List.mem_cons.1 (a.all y hy) with q | q
      · exact absurd q e4
      · exact .inl q
  · rcases (putS_mem l cap (foldW l M x) _ W y).1 hy with q | ⟨_, q⟩
    · exact a.bds y (List.mem_cons_of_mem _ q)
    · have b := parH_mem (nbds_roll (roll_fold h x)) y (ready_par (roll_fold h x) q)
      exact b
theorem tUp_one {x : Int} (h : 1 ≤ x) (h1 : x ≤ 9223372036854775807) : (1 < x → tUpN x 1 = x / 2) ∧ 0 ≤ tUpN x 1 ∧ tUpN x 1 ≤ 9223372036854775807 := by
  by_cases q : 1 < x
  · rw [(upp_yes q h1).1]
    exact ⟨fun _ => rfl, by omega, by omega⟩
  · rw [(upp_no q).1]
    exact ⟨fun e => absurd e q, by omega, by omega⟩
/-- how many rounds are still to come, at most -/
def rndN (M : List Nd) (W : List Int) : Nat := 4 * (phi M).toNat + W.length
theorem rnd_fold {l cap : Int} {M : List Nd} {x : Int} {W : List Int} (h : RollC l M) (hr : readyB l M x cap = true) (hx : x ≤ 9223372036854775807) (T : List Int) (hT : T.length ≤ 3) : rndN (foldW l M x) (putS l cap (foldW l M x) W T) < rndN M (x :: W) := by
  have r := ready_pos hr
  have p := phi_fold h r.1 hx
  have b := (phi_bd (roll_fold h x)).1
  have c := putS_len l cap (foldW l M x) T W
  unfold rndN
  rw [List.length_cons]
  omega
theorem rnd_skip (M : List Nd) (x : Int) (W : List Int) : rndN M W < rndN M (x :: W) := by unfold rndN; rw [List.length_cons]; omega
end Go.Proofs.YtelekchdbiimiaaGreat
namespace Go.Proofs.YtelekchdbiimiaaGreat
set_option linter.unusedVariables false
set_option maxRecDepth 100000
open Go.RowKit
/-- the blocks of a pool -/
def poF (p g h : Nat) : Nat → Prop := fun k => k = p ∨ k = g ∨ k = h
theorem Chg.kp {g h : Nat} {w w' : World} (c : Chg g h w w') : Kp (fun k => k = g ∨ k = h) w w' := ⟨c.os, c.tape, c.output, c.size, fun k hk hn => c.block k hk (fun e => hn (.inl e)) fun e => hn (.inr e)⟩
theorem chg_kp {g h : Nat} {w w' : World} (c : Kp (fun k => k = g ∨ k = h) w w') : Chg g h w w' := ⟨c.os, c.tape, c.output, c.size, fun k hk h1 h2 => c.block k hk (fun e => e.elim h1 h2)⟩
theorem PoA.kp {w w' : World} {B p g h : Nat} {kd l : Int} {n : Nat} {L : List Nd} {F : Nat → Prop} (d : PoA w B p g h kd l n L) (k : Kp F w w') (f : ∀ i, F i → ¬ poF p g h i) : PoA w' B p g h kd l n L := by
  have fp : ¬ F p := fun q => f p q (.inl rfl)
  have fg : ¬ F g := fun q => f g q (.inr (.inl rfl))
  have fh : ¬ F h := fun q => f h q (.inr (.inr rfl))
  have key : ∀ {q : Nat} {k2 m : Nat}, ¬ F q → ∀ i, (Value.slice (some ⟨q, 0, none⟩) k2 m).ownBlock = some i → ¬ F i := fun hq i e => by
    simp only [Value.ownBlock, Option.some.injEq] at e; subst e; exact hq
  refine ⟨d.roll, d.len, d.st.imp (fun ⟨a, b, c, e⟩ => ⟨a, b, own_kp c k (key fp), ⟨own_kp e.top k (key fg), own_kp e.row k (key fh), e.ne⟩⟩) (fun ⟨a, c, b, S, e, t, z⟩ => ⟨a, own_kp c k (key fp), b, S, ⟨own_kp e.top k (key fg), own_kp e.row k (key fh), e.ne⟩, t, z⟩)⟩
theorem ag_at2 {w : World} {v v' : Value} {b m k : Nat} (h : At2 w v v') (f : agF b m v' k) : agF b m v k ∨ w.heap.size ≤ k := by
  rcases f with (f | f) | f
  · exact .inl (.inl (.inl f))
  · rcases h k f with q | q
    · exact .inl (.inl (.inr q))
    · exact .inr q
  · exact .inl (.inr f)
/-- a call that is told of each fold: what it keeps (TL: in which blocks, what it was told) -/
structure Teller (F q : Nat) (TL : World → (Nat → Prop) → List Int → Prop) : Prop where
  eg : ∀ args w, (callFunc F args).run Tryz.prog w = .ok (.enter F args) w
  kp : ∀ {w w' : World} {T G : Nat → Prop} {P : List Int}, TL w T P → Kp G w w' → (∀ k, G k → ¬ T k) → TL w' T P
  lt : ∀ {w : World} {T : Nat → Prop} {P : List Int}, TL w T P → ∀ k, T k → k < w.heap.size
  call : ∀ {w : World} {T : Nat → Prop} {P : List Int} (x : Int), TL w T P → P.length ≤ 20000 → 1 ≤ x → x ≤ 9223372036854775807 → Calls Tryz.prog F #[.int .i64 x, .pointer (some ⟨q, 0, none⟩)] w fun e w' => e = .returned (.tuple #[]) ∧ ∃ T', TL w' T' (P ++ [x]) ∧ Kp T w w' ∧ ∀ k, T' k → T k ∨ w.heap.size ≤ k
/-- a pool, an agenda, and what was told, in memory, apart from one another -/
structure Trio (TL : World → (Nat → Prop) → List Int → Prop) (w : World) (B p g h : Nat) (kd l : Int) (n : Nat) (M : List Nd) (Ba b m na : Nat) (v : Value) (Q W : List Int) (T : Nat → Prop) (P : List Int) : Prop where
  po : PoA w B p g h kd l n M
  ag : Agd w Ba b m na v Q W
  tl : TL w T P
  pa : ∀ k, agF b m v k → ¬ poF p g h k
  pt : ∀ k, T k → ¬ poF p g h k
  at' : ∀ k, agF b m v k → ¬ T k
section
variable {F q : Nat} {TL : World → (Nat → Prop) → List Int → Prop} {w w' : World} {B p g h : Nat} {kd l : Int} {n : Nat} {M : List Nd} {Ba b m na : Nat} {v : Value} {Q W : List Int} {T : Nat → Prop} {P : List Int}
theorem poF_lt (d : PoA w B p g h kd l n M) : ∀ k, poF p g h k → k < w.heap.size := fun k f => by
  have := d.lt
  rcases f with f | f | f <;> omega
theorem Trio.below (t : Trio TL w B p g h kd l n M Ba b m na v Q W T P) (tt : Teller F q TL) (hb : Below w.heap.size w w') : Trio TL w' B p g h kd l n M Ba b m na v Q W T P :=
  ⟨t.po.below hb, t.ag.below hb, tt.kp t.tl (Kp.of (F := fun _ => False) hb) (fun _ f => f.elim), t.pa, t.pt, t.at'⟩
/-- the agenda has turned -/
theorem Trio.ag' {na' : Nat} {v' : Value} {Q' W' : List Int} (t : Trio TL w B p g h kd l n M Ba b m na v Q W T P) (tt : Teller F q TL) (d : Agd w' Ba b m na' v' Q' W') (k : Kp (agF b m v) w w') (a : At2 w v v') : Trio TL w' B p g h kd l n M Ba b m na' v' Q' W' T P :=
  ⟨t.po.kp k t.pa, d, tt.kp t.tl k t.at', fun i f => by
    rcases ag_at2 a f with q | q
    · exact t.pa i q
    · exact fun c => by have := poF_lt t.po i c; omega, t.pt, fun i f => by
    rcases ag_at2 a f with q | q
    · exact t.at' i q
    · exact fun c => by have := tt.lt t.tl i c; omega⟩
/-- the pool has turned -/
theorem Trio.po' {h' n' : Nat} {M' : List Nd} (t : Trio TL w B p g h kd l n M Ba b m na v Q W T P) (tt : Teller F q TL) (d : PoA w' B p g h' kd l n' M') (c : Chg g h w w') (hh : h' = h ∨ w.heap.size ≤ h') : Trio TL w' B p g h' kd l n' M' Ba b m na v Q W T P := by
  have key : ∀ k, k < w.heap.size → ¬ poF p g h k → ¬ poF p g h' k := fun k hk h1 h2 => by
    rcases h2 with e | e | e
    · exact h1 (.inl e)
    · exact h1 (.inr (.inl e))
    · rcases hh with q | q
      · exact h1 (.inr (.inr (e.trans q)))
      · omega
  have key2 : ∀ k, k = g ∨ k = h → poF p g h k := fun k e => .inr e
  refine ⟨d, t.ag.kp c.kp fun k f e => t.pa k f (key2 k e), tt.kp t.tl c.kp fun k e f => t.pt k f (key2 k e), fun k f => key k (t.ag.blocks k f).2 (t.pa k f), fun k f => key k (tt.lt t.tl k f) (t.pt k f), t.at'⟩
/-- one more was told -/
theorem Trio.tl' {T' : Nat → Prop} {P' : List Int} (t : Trio TL w B p g h kd l n M Ba b m na v Q W T P) (d : TL w' T' P') (k : Kp T w w') (a : ∀ i, T' i → T i ∨ w.heap.size ≤ i) : Trio TL w' B p g h kd l n M Ba b m na v Q W T' P' :=
  ⟨t.po.kp k t.pt, t.ag.kp k fun i f => t.at' i f, d, t.pa, fun i f => by
    rcases a i f with q | q
    · exact t.pt i q
    · exact fun c => by have := poF_lt t.po i c; omega, fun i f c => by
    rcases a i c with q | q
    · exact t.at' i f q
    · have := (t.ag.blocks i f).2; omega⟩
end
end Go.Proofs.YtelekchdbiimiaaGreat
namespace Go.Proofs.YtelekchdbiimiaaGreat
set_option linter.unusedVariables false
set_option maxRecDepth 100000
open Go.RowKit
/-- is there such a k? -/
def kIs (k : Int) : Bool := decide (1 ≤ k ∧ k ≤ 1048576)
theorem prFits_any (k : Int) (w : World) : Calls Tryz.prog 137 #[.int .i64 k] w fun e w' => e = .returned (.bool (kIs k)) ∧ w = w' := by
  unfold kIs
  by_cases h1 : 1 ≤ k
  · have c1 : decide (1 ≤ k) = true := decide_eq_true h1
    by_cases h2 : k ≤ 1048576
    · have c2 : decide (k ≤ 1048576) = true := decide_eq_true h2
      have H := Lib.hid (decide_eq_true (p := 1 ≤ k ∧ k ≤ 1048576) ⟨h1, h2⟩)
      clear h1 h2
      go_enter Tryz.func137, Tryz.ntmps137
      go_wp2_with fail
      go_ret
      exact ⟨by rw [H.out]; rfl, rfl⟩
    · have c2 : decide (k ≤ 1048576) = false := decide_eq_false h2
      have H := Lib.hid (decide_eq_false (p := 1 ≤ k ∧ k ≤ 1048576) fun q => h2 q.2)
      clear h1 h2
      go_enter Tryz.func137, Tryz.ntmps137
      go_wp2_with fail
      go_ret
      exact ⟨by rw [H.out]; rfl, rfl⟩
  · have c1 : decide (1 ≤ k) = false := decide_eq_false h1
    have H := Lib.hid (decide_eq_false (p := 1 ≤ k ∧ k ≤ 1048576) fun q => h1 q.1)
    clear h1
    go_enter Tryz.func137, Tryz.ntmps137
    go_wp2_with fail
    go_ret
    exact ⟨by rw [H.out]; rfl, rfl⟩
theorem prCheck_any (p : Nat) (k : Int) (w : World) : Calls Tryz.prog 94 #[.pointer (some ⟨p, 0, none⟩), .int .i64 k] w fun e w' => e = .returned (.int .i64 (if kIs k = true then 0 else 2)) ∧ w = w' := by
  have FT := Lib.hid (fun w => prFits_any k w)
  cases h : kIs k
  · rw [h] at FT
    clear h
    go_enter Tryz.func94, Tryz.ntmps94
    go_wp2_with (go_at_call 137; refine (FT.out _).mono ?_; rintro e w1 ⟨rfl, rfl⟩)
    go_ret
    exact ⟨rfl, rfl⟩
  · rw [h] at FT
    clear h
    go_enter Tryz.func94, Tryz.ntmps94
    go_wp2_with (go_at_call 137; refine (FT.out _).mono ?_; rintro e w1 ⟨rfl, rfl⟩)
    go_ret
    exact ⟨rfl, rfl⟩
/-- the cap of a store -/
def capW (L : List Nd) (k : Int) : Int := sumC L / k
theorem cap_quo {l : Int} {L : List Nd} (h : RollC l L) {k : Int} (hk : kIs k = true) : quoN (sumC L) k = capW L k := by
  have q := of_decide_eq_true hk
  have nn := good_nonneg (roll_good h)
  have s0 : 0 ≤ sumC L := Int.le_trans (sum_le nn 0).1 (sum_le nn 0).2
  exact (quo_yes (a := sumC L) (b := k) ⟨by omega, by omega⟩).1
theorem cap_bd {l : Int} {L : List Nd} (h : RollC l L) {k : Int} (hk : kIs k = true) : 0 ≤ capW L k ∧ capW L k ≤ sumC L ∧ sumC L ≤ 72057594037927935 := by
  have q := of_decide_eq_true hk
  have nn := good_nonneg (roll_good h)
  have s0 : 0 ≤ sumC L := Int.le_trans (sum_le nn 0).1 (sum_le nn 0).2
  exact ⟨Int.ediv_nonneg s0 (by omega), Int.ediv_le_self _ s0, h.2.2.2.2⟩
theorem tot_bel {B p g h : Nat} {kd l : Int} {n : Nat} {L : List Nd} {w : World} (d : PoA w B p g h kd l n L) (hn : n ≤ 1000) (w1 : World) (q : Below w.heap.size w w1) :
    Calls Tryz.prog 48 #[.pointer (some ⟨p, 0, none⟩)] w1 fun e w' => e = .returned (.int .i64 (sumC L)) ∧ Below w.heap.size w w' :=
  (poTotal_any w1 (d.below q) hn).mono fun e w' ⟨h1, m, h2⟩ => ⟨h1, by rw [h2]; exact drewN_below q m⟩
end Go.Proofs.YtelekchdbiimiaaGreat
namespace Go.Proofs.YtelekchdbiimiaaGreat
set_option linter.unusedVariables false
set_option maxRecDepth 100000
open Go.RowKit
theorem three_at {a b c : Int} {k : Nat} (h : k < 3) : [a, b, c].take (k + 1) = [a, b, c].take k ++ [[a, b, c].getD k 0] := by
  match k, h with
  | 0, _ => rfl
  | 1, _ => rfl
  | 2, _ => rfl
theorem three_box (w : World) (e : TypeId) (a b c : Int) : (w.alloc (.cells #[.int .i64 a, .int .i64 b, .int .i64 c] e)).ownsRow w.heap.size e 1 (.slice (some ⟨w.heap.size, 0, none⟩) 3 3) 3 [.int .i64 a, .int .i64 b, .int .i64 c] :=
  World.ownsRow_lit (base := w.heap.size) (e := e) (size := 1) w #[.int .i64 a, .int .i64 b, .int .i64 c] 3 (Nat.le_refl _) (by unfold maxLen; omega) rfl
set_option maxHeartbeats 3200000 in
theorem prAround_any {B p g h : Nat} {kd l : Int} {n : Nat} {M : List Nd} {Ba b m na : Nat} {v : Value} {Q W : List Int} (id most : Int) (w : World) (d : PoA w B p g h kd l n M) (a : Agd w Ba b m na v Q W) (pa : ∀ k, agF b m v k → ¬ poF p g h k)
    (hn : n ≤ 1000) (hna : na ≤ 70000) (hk : KidC l id) (A1 : id ≤ 9223372036854775807) :
    Calls Tryz.prog 196 #[.pointer (some ⟨b, 0, none⟩), .pointer (some ⟨p, 0, none⟩), .int .i64 id, .int .i64 most] w fun e w' => e = .returned (.tuple #[]) ∧ ∃ v' Q', Agd w' Ba b m (na + 3) v' Q' (putS l most M W [2 * id, 2 * id + 1, tUpN id 1]) ∧ Kp (agF b m v) w w' ∧ At2 w v v' := by
  have u := d.uni
  have LL := Lib.hid (l_bel d hn)
  have kb := kid_bd hk A1
  obtain ⟨k1, k2, k3⟩ := kid_yes hk
  have KD := Lib.hid (fun w => kids_any l id w (by omega) (by omega) (by omega) A1)
  rw [k1, k2, k3] at KD
  have tb := tUp_one (x := id) kb.1 A1
  have UP := Lib.hid (fun w => tUp_any id 1 w (by omega) A1 (by omega) (by omega))
  generalize tUpN id 1 = up at *
  generalize tUpB id 1 = upb at *
  have D := Lib.hid d
  have AG := Lib.hid a
  have PA := Lib.hid pa
  have HBD : Hid (∀ y ∈ [2 * id, 2 * id + 1, up], -9223372036854775808 ≤ y ∧ y ≤ 9223372036854775807) := fun y hy => by
    simp only [List.mem_cons, List.not_mem_nil, or_false] at hy
    omega
  clear d a pa hk tb k1 k2 k3
  generalize 2 * id = x1 at *
  generalize hx2 : x1 + 1 = x2 at *
  clear hx2
  go_enter Tryz.func196, Tryz.ntmps196
  go_wp2_with (first
    | (go_at_call 98; refine (LL.out _ (Below.refl _ _)).mono ?_; rintro e w5 ⟨rfl, hb5⟩)
    | (go_at_call 97; refine (KD.out _).mono ?_; rintro e w6 ⟨rfl, rfl⟩)
    | (go_at_call 211; refine (UP.out _).mono ?_; rintro e w7 ⟨rfl, rfl⟩))
  have HB5 := Lib.hid hb5
  have R0 : Hid ((w5.alloc (.cells #[.int .i64 x1, .int .i64 x2, .int .i64 up] 3)).ownsRow w5.heap.size 3 1 (.slice (some ⟨w5.heap.size, 0, none⟩) 3 3) 3 [.int .i64 x1, .int .i64 x2, .int .i64 up]) := three_box w5 3 x1 x2 up
  have A5 := Lib.hid (AG.out.below (hb5.alloc hb5.size (.cells #[.int .i64 x1, .int .i64 x2, .int .i64 up] 3)))
  have HZ5 : Hid (w.heap.size ≤ w5.heap.size) := hb5.size
  have B5 := Lib.hid (hb5.alloc hb5.size (.cells #[.int .i64 x1, .int .i64 x2, .int .i64 up] 3))
  have D5 := Lib.hid (D.out.below B5.out)
  clear hb5
  generalize hq : w5.heap.size = q at *
  generalize w5.alloc (.cells #[.int .i64 x1, .int .i64 x2, .int .i64 up] 3) = W5 at *
  have HQ : Hid (w.heap.size ≤ q ∧ q < W5.heap.size) := ⟨by have := HZ5.out; omega, (R0.out.lt q rfl).2⟩
  have HA0 : Hid (∀ i, agF b m v i → ¬ poF p g h i ∧ i ≠ q) := fun i f => ⟨PA.out i f, fun e => by have := (AG.out.blocks i f).2; have := HQ.out; omega⟩
  have KP0 : Hid (Kp (agF b m v) w W5) := Kp.of B5.out
  have hlen : na + 3 ≤ 80000 := by omega
  clear hq LL KD UP HB5 AG B5
  go_loopw [33] (fun i wr => ∃ (k : Nat) (v' : Value) (Q' : List Int), k ≤ 3 ∧ i = .int .i64 k ∧ Agd wr Ba b m (na + k) v' Q' (putS l most M W ([x1, x2, up].take k)) ∧ wr.ownsRow q 3 1 (.slice (some ⟨q, 0, none⟩) 3 3) 3 [.int .i64 x1, .int .i64 x2, .int .i64 up] ∧ PoA wr B p g h kd l n M ∧ Kp (agF b m v) w wr ∧ At2 w v v' ∧ (∀ i, agF b m v' i → ¬ poF p g h i ∧ i ≠ q)) (fun i _ => 3 - (intOf i).toNat)
  case atStart => exact ⟨0, v, Q, by omega, rfl, A5.out, R0.out, D5.out, KP0.out, At2.refl _ _, HA0.out⟩
  case round =>
    rename_i wr
    obtain ⟨k, v1, Q1, hk, rfl, ha, hr, hd, hkp, hat, hdis⟩ := hrel
    have AA := Lib.hid ha
    have RR := Lib.hid hr
    have DD := Lib.hid hd
    have KK := Lib.hid hkp
    have AT := Lib.hid hat
    have DI := Lib.hid hdis
    have HZ := Lib.hid hkp.size
    clear ha hd hkp hat hdis
    by_cases hlt : k < 3
    · have TK := Lib.hid (three_at (a := x1) (b := x2) (c := up) hlt)
      have e0 : wr.cell? ⟨q, k, none⟩ = some (.int .i64 ([x1, x2, up].getD k 0)) := by
        have h := hr.cellAt k (by omega)
        rw [h]
        match k, hlt with
        | 0, _ => rfl
        | 1, _ => rfl
        | 2, _ => rfl
      have hx := HBD.out ([x1, x2, up].getD k 0) (by
        match k, hlt with
        | 0, _ => simp
        | 1, _ => simp
        | 2, _ => simp)
      generalize [x1, x2, up].getD k 0 = x at *
      have RD := Lib.hid (foReady_any x most wr DD.out hn hx.1 hx.2)
      have PX : Hid (putS l most M W ([x1, x2, up].take (k + 1)) = putX l most M (putS l most M W ([x1, x2, up].take k)) x) := by show _ = _; rw [TK.out, putS_snoc]
      have k1 : (k : Int) < 3 := by omega
      unfold putX at PX
      clear hr
      cases hq : readyB l M x most
      · rw [hq] at RD PX
        clear hq
        go_wp2_with (go_at_call 194; refine RD.out.mono ?_; rintro e w1 ⟨rfl, hb1⟩)
        go_roundw
        case rel =>
          refine ⟨k + 1, v1, Q1, by omega, by go_num, ?_, own_below RR.out hb1, DD.out.below hb1, KK.out.trans (Kp.of (F := fun _ => False) hb1) (fun _ _ f => f.elim), AT.out, DI.out⟩
          have z := (AA.out.below hb1).more (show na + k ≤ na + (k + 1) by omega)
          rw [PX.out]
          exact z
        case measure => simp [intOf]; omega
      · rw [hq] at RD PX
        have x0 := (ready_pos hq).2.2
        clear hq
        go_wp2_with (go_at_call 194; refine RD.out.mono ?_; rintro e w1 ⟨rfl, hb1⟩)
        have A1' := Lib.hid (AA.out.below hb1)
        have HZ1 : Hid (wr.heap.size ≤ w1.heap.size) := hb1.size
        have R1 := Lib.hid (own_below RR.out hb1)
        have D1 := Lib.hid (DD.out.below hb1)
        have K1 := Lib.hid (KK.out.trans (Kp.of (F := fun _ => False) hb1) (fun _ _ f => f.elim))
        clear hb1
        go_wp2_with fail
        refine (foPut_any x A1'.out (by omega) hx.1 hx.2).mono ?_
        rintro e w2 ⟨rfl, v2, Q2, hd2, hk2, ha2⟩
        rw [if_pos x0] at hd2
        have R2 := Lib.hid (own_kp R1.out hk2 (fun i e f => by
          simp only [Value.ownBlock, Option.some.injEq] at e
          exact (DI.out i f).2 e.symm))
        have D2 := Lib.hid (D1.out.kp hk2 (fun i f => (DI.out i f).1))
        have K2 := Lib.hid (K1.out.trans hk2 (fun i hi f => by
          rcases ag_at2 AT.out f with z | z
          · exact z
          · omega))
        have A2 := Lib.hid (AT.out.trans ha2 (Nat.le_trans HZ.out HZ1.out))
        have DI2 : Hid (∀ i, agF b m v2 i → ¬ poF p g h i ∧ i ≠ q) := fun i f => by
          rcases ag_at2 ha2 f with z | z
          · exact DI.out i z
          · exact ⟨fun c => by have := poF_lt D1.out i c; omega, fun c => by have := (R1.out.lt q rfl).2; omega⟩
        have AG2 := Lib.hid hd2
        clear hd2 hk2 ha2
        go_wp2_with fail
        go_roundw
        case rel =>
          refine ⟨k + 1, v2, Q2, by omega, by go_num, ?_, R2.out, D2.out, K2.out, A2.out, DI2.out⟩
          rw [PX.out]
          exact AG2.out
        case measure => simp [intOf]; omega
    · obtain rfl : k = 3 := by omega
      go_wp2_with fail
      go_end0
      exact ⟨rfl, v1, Q1, AA.out, KK.out, AT.out⟩
end Go.Proofs.YtelekchdbiimiaaGreat
namespace Go.Proofs.YtelekchdbiimiaaGreat
set_option linter.unusedVariables false
set_option maxRecDepth 100000
open Go.RowKit
/-- what all folds leave: the pool as it is then, and all that was told -/
def AllPost (TL : World → (Nat → Prop) → List Int → Prop) (B p g h : Nat) (kd l : Int) (n : Nat) (L : List Nd) (cap : Int) (T : Nat → Prop) (w : World) (e : Ending) (w' : World) : Prop :=
  e = .returned (.int .i64 0) ∧ ∃ j h' T', (Live l cap L j ∧ hasX l cap (preA l cap L j) = false) ∧ PoA w' B p g h' kd l n (preA l cap L j) ∧ TL w' T' (preS l cap L j) ∧ Kp (fun i => T i ∨ i = g ∨ i = h) w w' ∧ (h' = h ∨ w.heap.size ≤ h') ∧ ∀ i, T' i → T i ∨ w.heap.size ≤ i
/-- between two rounds -/
structure AllI (TL : World → (Nat → Prop) → List Int → Prop) (w wr : World) (B p g h : Nat) (kd l : Int) (n : Nat) (L : List Nd) (cap : Int) (T : Nat → Prop) (b m j : Nat) (v : Value) (Q W U : List Int) (T' : Nat → Prop) (h' : Nat) (M : List Nd) : Prop where
  trio : Trio TL wr B p g h' kd l n M w.heap.size b m (n + 3 * j) v Q U T' (preS l cap L j)
  pre : M = preA l cap L j
  live : Live l cap L j
  ag : AgI l cap M W
  kp : Kp (fun i => T i ∨ i = g ∨ i = h) w wr
  new : h' = h ∨ w.heap.size ≤ h'
  told : ∀ i, T' i → T i ∨ w.heap.size ≤ i
section
variable {F q : Nat} {TL : World → (Nat → Prop) → List Int → Prop} {w wr w' : World} {B p g h : Nat} {kd l : Int} {n : Nat} {L : List Nd} {cap : Int} {T : Nat → Prop} {b m j : Nat} {v : Value} {Q W U : List Int} {T' : Nat → Prop} {h' : Nat} {M : List Nd}
theorem AllI.below (i : AllI TL w wr B p g h kd l n L cap T b m j v Q W U T' h' M) (tt : Teller F q TL) (hb : Below wr.heap.size wr w') : AllI TL w w' B p g h kd l n L cap T b m j v Q W U T' h' M :=
  ⟨i.trio.below tt hb, i.pre, i.live, i.ag, i.kp.trans (Kp.of (F := fun _ => False) hb) (fun _ _ f => f.elim), i.new, i.told⟩
/-- the next one is taken -/
theorem AllI.pop {v' : Value} {Q' U' : List Int} (i : AllI TL w wr B p g h kd l n L cap T b m j v Q W U T' h' M) (tt : Teller F q TL) (d : Agd w' w.heap.size b m (n + 3 * j) v' Q' U') (k : Kp (agF b m v) wr w') (a : At2 wr v v') : AllI TL w w' B p g h kd l n L cap T b m j v' Q' W U' T' h' M :=
  ⟨i.trio.ag' tt d k a, i.pre, i.live, i.ag, i.kp.trans k (fun z hz f => by have := (i.trio.ag.blocks z f).1; omega), i.new, i.told⟩
end
set_option maxHeartbeats 6400000 in
theorem prFoldAll_any {F q : Nat} {TL : World → (Nat → Prop) → List Int → Prop} (tt : Teller F q TL) {B p g h : Nat} {kd l : Int} {n : Nat} {L : List Nd} {T : Nat → Prop} (k : Int) (w : World) (d : PoA w B p g h kd l n L) (t : TL w T []) (pt : ∀ i, T i → ¬ poF p g h i) (hn : n ≤ 400) (hk : kIs k = true) :
    Calls Tryz.prog 164 #[.pointer (some ⟨p, 0, none⟩), .int .i64 k, .func (.func F) #[] #[.pointer (some ⟨q, 0, none⟩)]] w (AllPost TL B p g h kd l n L (capW L k) T w) := by
  have CK := Lib.hid (fun w => prCheck_any p k w)
  rw [hk] at CK
  have kb := of_decide_eq_true hk
  have TB := Lib.hid (tot_bel d (by omega))
  have cb := cap_bd d.roll hk
  have CP := Lib.hid (fun w => foCap_any (sumC L) k w (by omega) (by omega) (by omega) (by omega))
  rw [cap_quo d.roll hk] at CP
  have CPB := Lib.hid cb
  have D := Lib.hid d
  have TL0 := Lib.hid t
  have PT := Lib.hid pt
  have LL := Lib.hid d.len
  have u := d.uni
  have NB := Lib.hid (nbds_roll d.roll)
  have PRS := Lib.hid (fun w1 (hb : Below w.heap.size w w1) => (foParents_any w1 (d.below hb) (by omega)).mono (R' := fun e w' => ∃ A7 m7 c7, e = .returned (.slice A7 m7 c7) ∧ IntsAt w' (.slice A7 m7 c7) (parH L) ∧ m7 ≤ 1000 ∧ Below w1.heap.size w1 w') fun e w' ⟨v, h1, h2, h3⟩ => by
    obtain ⟨A7, m7, c7, h4⟩ := own_slice h2
    subst h4
    have hl := parH_len L
    have hl2 := d.len
    exact ⟨A7, m7, c7, h1, ownI_ints h2, by have := (ints_cells (ownI_ints h2)).1; omega, h3⟩)
  have eg := tt.eg
  clear d t pt cb hk
  generalize capW L k = cap at *
  go_enter Tryz.func164, Tryz.ntmps164
  go_wp2_with (first
    | (go_at_call 94; refine (CK.out _).mono ?_; rintro e w1 ⟨rfl, rfl⟩)
    | (go_at_call 48; refine (TB.out _ (Below.refl _ _)).mono ?_; rintro e w2 ⟨rfl, hb2⟩)
    | (go_at_call 95; refine (CP.out _).mono ?_; rintro e w3 ⟨rfl, rfl⟩)
    | (go_at_call 192; refine (PRS.out _ hb2).mono ?_; rintro e w4 ⟨A7, m7, c7, rfl, hi7, hm7, hb4⟩)
    | (go_at_call 191; refine (foNew_any A7 m7 c7 (parH L) _ hi7 (fun x hx => by have := parH_mem NB.out x hx; omega) (by omega)).mono ?_; rintro e w5 ⟨b, m, v, Q, rfl, ha5, hb5⟩))
  have HB4 := Lib.hid (hb2.trans (hb4.mono hb2.size))
  have B5 := Lib.hid (HB4.out.trans (hb5.mono HB4.out.size))
  have I5 : Hid (AllI TL w w5 B p g h kd l n L cap T b m 0 v Q (parH L) (parH L) T h L) := by
    have ha := (ha5.base (B2 := w.heap.size) HB4.out.size).more (show m7 ≤ n + 3 * 0 by have := (ints_cells hi7).1; have := parH_len L; have := LL.out; omega)
    rw [parH_again NB.out] at ha
    refine ⟨⟨D.out.below B5.out, ha, tt.kp TL0.out (Kp.of (F := fun _ => False) B5.out) (fun _ f => f.elim), fun i f c => ?_, PT.out, fun i f c => ?_⟩, rfl, fun i hi => absurd hi (Nat.not_lt_zero i), agI_start D.out.roll, Kp.of B5.out, .inl rfl, fun i f => .inl f⟩
    · have := (ha.blocks i f).1
      have := poF_lt D.out i c
      omega
    · have := (ha.blocks i f).1
      have := tt.lt TL0.out i c
      omega
  have RL := Lib.hid D.out.roll
  clear hb2 hb4 hb5 ha5 hi7 hm7 HB4 B5 D TL0 PT CK TB CP PRS
  go_wp2_with fail
  refine (foPop_any I5.out.trio.ag (by omega)).mono ?_
  rintro e w6 ⟨rfl, v6, Q6, hd6, hk6, ha6⟩
  have I6 := Lib.hid (I5.out.pop tt hd6 hk6 ha6)
  clear hd6 hk6 ha6 I5
  go_wp2_with fail
  go_loopg [10, 11] (rndN L (parH L)) (fun gk id ok wr => ∃ (j : Nat) (v : Value) (Q W : List Int) (T' : Nat → Prop) (h' : Nat) (M : List Nd), id = .int .i64 (hdH W) ∧ ok = .bool (neH W) ∧ AllI TL w wr B p g h kd l n L cap T b m j v Q W W.tail T' h' M ∧ rndN M W ≤ gk)
  case atStart => exact ⟨0, v6, Q6, parH L, T, h, L, rfl, rfl, I6.out, Nat.le_refl _⟩
  case round =>
    obtain ⟨j, v1, Q1, W, T1, h1, M, rfl, rfl, hi, hg⟩ := hrel
    have II := Lib.hid hi
    have HG := Lib.hid hg
    have PI := Lib.hid (pre_inv RL.out hi.live)
    have JL := live_le RL.out hi.live
    have JL2 : j ≤ 19200 := by
      have a1 := LL.out
      have a2 : l * (L.length : Int) ≤ 48 * (L.length : Int) := Int.mul_le_mul_of_nonneg_right u.2 (by omega)
      omega
    clear hi hg JL
    cases W with
    | nil =>
      rw [show hdH [] = 0 from rfl, show neH [] = false from rfl]
      go_wp2_with fail
      go_ret
      refine ⟨rfl, j, h1, T1, ⟨II.out.live, ?_⟩, ?_, II.out.trio.tl, II.out.kp, II.out.new, II.out.told⟩
      · have := agI_end II.out.ag
        rw [II.out.pre] at this
        exact this
      · have := II.out.trio.po
        rw [II.out.pre] at this
        exact this
    | cons x W =>
      have hx := II.out.ag.bds x (by simp)
      change Hid (AllI TL w wr B p g h kd l n L cap T b m j v1 Q1 (x :: W) W T1 h1 M) at II
      rw [show hdH (x :: W) = x from rfl, show neH (x :: W) = true from rfl]
      have RD := Lib.hid (foReady_any x cap wr II.out.trio.po (by omega) (by omega) hx.2)
      cases hr : readyB l M x cap
      · rw [hr] at RD
        have SK := Lib.hid (agI_skip II.out.ag hr)
        clear hr
        go_wp2_with (go_at_call 194; refine RD.out.mono ?_; rintro e w7 ⟨rfl, hb7⟩)
        have I7 := Lib.hid (II.out.below tt hb7)
        clear hb7
        go_wp2_with fail
        refine (foPop_any I7.out.trio.ag (by omega)).mono ?_
        rintro e w8 ⟨rfl, v8, Q8, hd8, hk8, ha8⟩
        have I8 := Lib.hid (I7.out.pop tt hd8 hk8 ha8)
        clear hd8 hk8 ha8
        go_wp2_with fail
        go_roundg (rndN M W)
        case rel => exact ⟨j, v8, Q8, W, T1, h1, M, rfl, rfl, ⟨I8.out.trio, I8.out.pre, I8.out.live, SK.out, I8.out.kp, I8.out.new, I8.out.told⟩, Nat.le_refl _⟩
        case measure => exact Nat.lt_of_lt_of_le (rnd_skip M x W) HG.out
      · rw [hr] at RD
        have HR := Lib.hid hr
        have RP := Lib.hid (ready_pos hr)
        have RM : Hid (RollC l M) := by
          have z := PI.out.roll
          rw [← II.out.pre] at z
          exact z
        have HIT := Lib.hid (agI_hit RM.out II.out.ag hr)
        have tb := tUp_one (x := x) hx.1 hx.2
        have AF := Lib.hid (agI_fold RM.out II.out.ag hr (tUpN x 1) tb.1)
        have RN := Lib.hid (rnd_fold (W := W) RM.out hr hx.2 [2 * x, 2 * x + 1, tUpN x 1] (by simp))
        have PL := Lib.hid (preS_len l cap L j)
        clear hr tb
        go_wp2_with (go_at_call 194; refine RD.out.mono ?_; rintro e w7 ⟨rfl, hb7⟩)
        have I7 := Lib.hid (II.out.below tt hb7)
        clear hb7 RD
        go_wp2_with fail
        refine (foDo_n x w7 I7.out.trio.po (by omega) (by omega) hx.2).mono ?_
        rintro e w8 ⟨rfl, h8, hd8, hc8, hh8⟩
        have T8 := Lib.hid (I7.out.trio.po' tt hd8 hc8 hh8)
        have K8 : Hid (Kp (fun i => T i ∨ i = g ∨ i = h) w w8) := I7.out.kp.trans hc8.kp (fun i hi f => by
          rcases f with f | f
          · exact .inr (.inl f)
          · rcases I7.out.new with z | z
            · exact .inr (.inr (f.trans z))
            · omega)
        have N8 : Hid (h8 = h ∨ w.heap.size ≤ h8) := by
          have z := I7.out.kp.size
          rcases hh8 with f | f
          · rcases I7.out.new with y | y
            · exact .inl (f.trans y)
            · exact .inr (by omega)
          · exact .inr (by omega)
        clear hd8 hc8 hh8
        go_wp2_with (go_at_fn F; refine (tt.call x T8.out.tl (by have := PL.out; omega) hx.1 hx.2).mono ?_; rintro e w9 ⟨rfl, T9, ht9, hk9, hn9⟩)
        have T9' := Lib.hid (T8.out.tl' ht9 hk9 hn9)
        have K9 : Hid (Kp (fun i => T i ∨ i = g ∨ i = h) w w9) := K8.out.trans hk9 (fun i hi f => by
          rcases I7.out.told i f with z | z
          · exact .inl z
          · omega)
        have N9 : Hid (∀ i, T9 i → T i ∨ w.heap.size ≤ i) := fun i f => by
          have z := K8.out.size
          rcases hn9 i f with y | y
          · exact I7.out.told i y
          · exact .inr (by omega)
        clear ht9 hk9 hn9 T8 K8
        go_wp2_with fail
        refine (prAround_any x cap w9 T9'.out.po T9'.out.ag T9'.out.pa (by omega) (by omega) RP.out.2.1 hx.2).mono ?_
        rintro e wa ⟨rfl, va, Qa, hda, hka, haa⟩
        have Ta := Lib.hid (T9'.out.ag' tt hda hka haa)
        have Ka : Hid (Kp (fun i => T i ∨ i = g ∨ i = h) w wa) := K9.out.trans hka (fun i hi f => by have := (T9'.out.ag.blocks i f).1; omega)
        have Ia : Hid (AllI TL w wa B p g h kd l n L cap T b m (j + 1) va Qa (putS l cap (foldW l M x) W [2 * x, 2 * x + 1, tUpN x 1]) (putS l cap (foldW l M x) W [2 * x, 2 * x + 1, tUpN x 1]) T9 h8 (foldW l M x)) := by
          have e1 : fstX l cap (preA l cap L j) = x := by rw [← II.out.pre]; exact HIT.out.1
          refine ⟨?_, ?_, live_step II.out.live (by rw [← II.out.pre]; exact HIT.out.2), AF.out, Ka.out, N8.out, N9.out⟩
          · have z := Ta.out
            rw [show n + 3 * j + 3 = n + 3 * (j + 1) by omega] at z
            have e2 : preS l cap L (j + 1) = preS l cap L j ++ [x] := by simp only [preS, e1]
            rw [e2]
            exact z
          · simp only [preA, e1, II.out.pre]
        clear hda hka haa T9' K9 Ta Ka N8 N9
        generalize putS l cap (foldW l M x) W [2 * x, 2 * x + 1, tUpN x 1] = W9 at *
        go_wp2_with fail
        refine (foPop_any Ia.out.trio.ag (by omega)).mono ?_
        rintro e wb ⟨rfl, vb, Qb, hdb, hkb, hab⟩
        have Ib := Lib.hid (Ia.out.pop tt hdb hkb hab)
        clear hdb hkb hab
        go_wp2_with fail
        go_roundg (rndN (foldW l M x) W9)
        case rel => exact ⟨j + 1, vb, Qb, W9, T9, h8, foldW l M x, rfl, rfl, Ib.out, Nat.le_refl _⟩
        case measure => exact Nat.lt_of_lt_of_le RN.out HG.out
end Go.Proofs.YtelekchdbiimiaaGreat
namespace Go.Proofs.YtelekchdbiimiaaGreat
set_option linter.unusedVariables false
set_option maxRecDepth 100000
open Go.RowKit
/-- how many were told: one box -/
def TlN (q : Nat) (w : World) (T : Nat → Prop) (P : List Int) : Prop := w.ownsRow 0 3 1 (.slice (some ⟨q, 0, none⟩) 1 1) 1 [.int .i64 (P.length : Int)] ∧ ∀ k, T k ↔ k = q
set_option maxHeartbeats 1600000 in
theorem prRun1_any (q : Nat) (w : World) (T : Nat → Prop) (P : List Int) (x : Int) (h : TlN q w T P) (hP : P.length ≤ 20000) :
    Calls Tryz.prog 165 #[.int .i64 x, .pointer (some ⟨q, 0, none⟩)] w fun e w' => e = .returned (.tuple #[]) ∧ ∃ T', TlN q w' T' (P ++ [x]) ∧ Kp T w w' ∧ ∀ k, T' k → T k ∨ w.heap.size ≤ k := by
  obtain ⟨hr, ht⟩ := h
  have c0 := hr.cellAt 0 (by omega)
  have f0 := hr.frozenAt 0
  have R := Lib.hid (hr.stored 0 (.int .i64 ((P.length : Int) + 1))).1
  have HT := Lib.hid ht
  have hw : IntKind.i64.wrap ((P.length : Int) + 1) = (P.length : Int) + 1 := wrap_lit rfl (by omega) (by omega)
  have HL : Hid (((P ++ [x]).length : Int) = (P.length : Int) + 1) := by show _ = _; simp
  clear hr ht
  simp only [List.getElem?_cons_zero] at c0
  go_enter Tryz.func165, Tryz.ntmps165
  go_wp2_with fail
  go_end0
  refine ⟨rfl, T, ⟨?_, HT.out⟩, (Kp.setCell w ⟨q, 0, none⟩ _).mono (fun k _ e => (HT.out k).2 e), fun k e => .inl e⟩
  have z := R.out
  rw [HL.out]
  exact z
theorem run_teller (q : Nat) : Teller 165 q (TlN q) :=
  ⟨fun args w => by kernel_rfl, fun {w w' T G P} h k f => ⟨own_kp h.1 k (fun i e c => f i c ((h.2 i).2 (by simp only [Value.ownBlock, Option.some.injEq] at e; exact e.symm))), h.2⟩, fun {w T P} h k e => by rw [(h.2 k).1 e]; exact (h.1.lt q rfl).2, fun {w T P} x h hP _ _ => prRun1_any q w T P x h hP⟩
/-- what Run leaves -/
def RunPost (B p g h : Nat) (kd l : Int) (n : Nat) (L : List Nd) (cap : Int) (w : World) (e : Ending) (w' : World) : Prop :=
  ∃ (j : Nat) (h' : Nat), e = .returned (.tuple #[.int .i64 (j : Int), .int .i64 0]) ∧ (Live l cap L j ∧ hasX l cap (preA l cap L j) = false) ∧ PoA w' B p g h' kd l n (preA l cap L j) ∧ Chg g h w w' ∧ (h' = h ∨ w.heap.size ≤ h')
theorem int_box (w : World) (a : Value) (e : TypeId) : (w.alloc (.cells #[a] e)).ownsRow 0 e 1 (.slice (some ⟨w.heap.size, 0, none⟩) 1 1) 1 [a] := own_low (box1 w e a) (Nat.zero_le _)
set_option maxHeartbeats 1600000 in
theorem prRun_any {B p g h : Nat} {kd l : Int} {n : Nat} {L : List Nd} (k : Int) (w : World) (d : PoA w B p g h kd l n L) (hn : n ≤ 400) (hk : kIs k = true) :
    Calls Tryz.prog 119 #[.pointer (some ⟨p, 0, none⟩), .int .i64 k] w (RunPost B p g h kd l n L (capW L k) w) := by
  have hb : Below w.heap.size w (w.alloc (.cells #[.int .i64 0] 3)) := (Below.refl _ _).alloc (Nat.le_refl _) _
  have HB := Lib.hid hb
  have LT := Lib.hid (poF_lt d)
  have FA := Lib.hid (prFoldAll_any (run_teller w.heap.size) (T := fun k => k = w.heap.size) k (w.alloc (.cells #[.int .i64 0] 3)) (d.below hb) ⟨int_box w _ _, fun i => Iff.rfl⟩ (fun i e c => by have := poF_lt d i c; omega) hn hk)
  clear d hb
  generalize capW L k = cap at *
  go_enter Tryz.func119, Tryz.ntmps119
  go_wp2_with fail
  refine FA.out.mono ?_
  rintro e w1 ⟨rfl, j, h1, T1, hl, hd, ht, hk1, hh, hn1⟩
  have c0 := ht.1.cellAt 0 (by omega)
  rw [preS_len] at c0
  simp only [List.getElem?_cons_zero] at c0
  have HD := Lib.hid hd
  have HLV := Lib.hid hl
  have HC : Hid (Chg g h w w1) := by
    have z := HB.out
    have z1 := (Kp.of (F := fun i => i = w.heap.size ∨ i = g ∨ i = h) HB.out).trans hk1 (fun _ _ f => f)
    exact chg_kp (z1.mono (fun i hi f => by rcases f with f | f; · omega
                                            · exact f))
  have HH : Hid (h1 = h ∨ w.heap.size ≤ h1) := hh.imp (fun q => q) fun q => by have := HB.out.size; omega
  clear hl hd ht hk1 hh hn1
  go_wp2_with fail
  go_ret2
  exact ⟨j, h1, rfl, HLV.out, HD.out, HC.out, HH.out⟩
end Go.Proofs.YtelekchdbiimiaaGreat
namespace Go.Proofs.YtelekchdbiimiaaGreat
set_option linter.unusedVariables false
set_option maxRecDepth 100000
open Go.RowKit Go.Shelf
attribute [local go_sem] Oper.semAt_some
instance (l cap : Int) (L : List Nd) : Decidable (LightC l cap L) := by unfold LightC; exact inferInstance
/-- is it light? -/
def lightB (l : Int) (L : List Nd) (k : Int) : Bool := kIs k && decide (LightC l (capW L k) L)
/-- blocks other than one box -/
def FrR (q : Nat) (W : World) (k : Nat) : Prop := (∃ o : Obj, W.heap[k]? = some o ∧ o.isCells = true) ∧ k ≠ q
theorem frR (q : Nat) : Frm (FrR q) := by
  refine ⟨fun h => h.1, fun {W W' row k} hg hr h => ?_⟩
  obtain ⟨⟨o, ho, hc⟩, hk⟩ := h
  have e1 : W'.heap[k]? = W.heap[k]? := hg.block k (Array.getElem?_eq_some_iff.1 ho).1 (fun e => by
    obtain ⟨ob, h1, h2⟩ := hr k e.symm
    rw [ho] at h1; injection h1 with h1; rw [← h1, hc] at h2; cases h2)
  exact ⟨⟨o, e1.trans ho, hc⟩, hk⟩
theorem kpF_below {Fr : World → Nat → Prop} (F : Frm Fr) {W W' : World} (hb : Below W.heap.size W W') : KpF Fr W W' := ⟨hb.size, fun k hk hf => ⟨hb.block k hk, F.below hb hf⟩⟩
/-- what a loop was handed is light -/
def LtW (l cap : Int) (pre : List Nd) : Prop := ∀ x ∈ pre, KidC l (wrap64 x.1) → wrap64 x.2 ≤ cap
theorem ltW_snoc {l cap : Int} {pre : List Nd} (h : LtW l cap pre) {x : Nd} (hx : KidC l (wrap64 x.1) → wrap64 x.2 ≤ cap) : LtW l cap (pre ++ [x]) := fun y hy => by
  rcases List.mem_append.1 hy with q | q
  · exact h y q
  · rw [List.mem_singleton.1 q]; exact hx
theorem ltW_all {l cap : Int} {L : List Nd} (hB : NBds L) : LtW l cap L ↔ LightC l cap L := by
  have key : ∀ n ∈ L, wrap64 n.1 = n.1 ∧ wrap64 n.2 = n.2 := fun n hn => by
    have b := hB n hn
    exact ⟨wrap_in b.1.1 b.1.2, wrap_in b.2.1 b.2.2⟩
  constructor
  · intro h n hn hk
    have q := h n hn
    rw [(key n hn).1, (key n hn).2] at q
    exact q hk
  · intro h n hn hk
    rw [(key n hn).1] at hk
    rw [(key n hn).2]
    exact h n hn hk
/-- the two boxes that a call of Light begins with: the pool, and what it answers -/
structure LgI (w W : World) (x : Value) (b : Bool) : Prop where
  px : W.ownsRow w.heap.size 108 1 (.slice (some ⟨w.heap.size, 0, none⟩) 1 1) 1 [x]
  rx : W.ownsRow w.heap.size 4 1 (.slice (some ⟨w.heap.size + 1, 0, none⟩) 1 1) 1 [.bool b]
  b : Below w.heap.size w W
theorem lgI_new (w : World) (x : Value) : LgI w ((w.alloc (.cells #[x] 108)).alloc (.cells #[.bool false] 4)) x false := by
  have ez : (w.alloc (.cells #[x] 108)).heap.size = w.heap.size + 1 := by simp
  refine ⟨(box1 w _ _).alloc _, ?_, ((Below.refl _ _).alloc (Nat.le_refl _) _).alloc (by simp) _⟩
  have q := box1 (w.alloc (.cells #[x] 108)) 4 (.bool false)
  rw [ez] at q
  exact own_low q (by omega)
theorem LgI.below {w W W' : World} {x : Value} {b : Bool} (h : LgI w W x b) (hb : Below W.heap.size W W') : LgI w W' x b := ⟨own_below h.px hb, own_below h.rx hb, h.b.trans (hb.mono h.b.size)⟩
theorem LgI.grown {w W W' : World} {x : Value} {b : Bool} {row : Option Nat} (h : LgI w W x b) (hB : Below w.heap.size w W → Below w.heap.size w W') (hg : W.grownBy W' row) (hr : ∀ r, row = some r → ∃ o : Obj, W.heap[r]? = some o ∧ o.isCells = false) : LgI w W' x b := ⟨row_grown h.px hg hr, row_grown h.rx hg hr, hB h.b⟩
theorem LgI.cells {w W : World} {x : Value} {b : Bool} (h : LgI w W x b) : W.cell? ⟨w.heap.size, 0, none⟩ = some x ∧ W.cell? ⟨w.heap.size + 1, 0, none⟩ = some (.bool b) ∧ W.frozen? ⟨w.heap.size + 1, 0, none⟩ = false := ⟨h.px.cellAt 0 (by omega), h.rx.cellAt 0 (by omega), h.rx.frozenAt 0⟩
set_option maxHeartbeats 1600000 in
theorem prLight_no_in (p : Nat) (k : Int) (w : World) (hk : kIs k = false) : CallsIn Fence.wide 5 Tryz.prog 53 #[.pointer (some ⟨p, 0, none⟩), .int .i64 k] w fun e w' => e = .returned (.bool false) ∧ Below w.heap.size w w' := by
  have I0 := Lib.hid (lgI_new w (.pointer (some ⟨p, 0, none⟩)))
  have CK := Lib.hid (fun w => prCheck_any p k w)
  rw [hk] at CK
  clear hk
  refine callsIn_of_wp_marks Tryz.func53 rfl trivial ?_ rfl
  simp only [Tryz.ntmps53, List.size_toArray, List.length_cons, List.length_nil, Nat.reduceAdd, Nat.reduceSub, Array.replicate_succ, Array.replicate_zero, List.push_toArray, List.append_toArray, List.nil_append, List.cons_append]
  gi_wp2
  refine ⟨trivial, (callsIn_wide.2 (CK.out _)).mono ?_⟩
  generalize (w.alloc (.cells #[.pointer (some ⟨p, 0, none⟩)] 108)).alloc (.cells #[.bool false] 4) = W0 at *
  rintro e w1 ⟨rfl, rfl⟩
  obtain ⟨c0, c1, f1⟩ := I0.out.cells
  have BB := Lib.hid I0.out.b
  gi_wp2
  have hc5 := World.cell?_setCell_same' W0 ⟨w.heap.size + 1, 0, none⟩ (.bool false) (by rw [c1]; rfl)
  exact ⟨.bool false, by simp [results, Tryz.f53, go_sem, hc5], rfl, BB.out.setCell (p := ⟨w.heap.size + 1, 0, none⟩) (Nat.le_succ _) _⟩
set_option maxHeartbeats 3200000 in
theorem prLight_in {B p g h : Nat} {kd l : Int} {n : Nat} {L : List Nd} (k : Int) (w : World) (d : PoA w B p g h kd l n L) (hn : n ≤ 500) (hk : kIs k = true) :
    CallsIn Fence.wide 5 Tryz.prog 53 #[.pointer (some ⟨p, 0, none⟩), .int .i64 k] w fun e w' => e = .returned (.bool (decide (LightC l (capW L k) L))) ∧ Below w.heap.size w w' := by
  have I0 := Lib.hid (lgI_new w (.pointer (some ⟨p, 0, none⟩)))
  have CK := Lib.hid (fun w => prCheck_any p k w)
  rw [hk] at CK
  have kb := of_decide_eq_true hk
  have u := d.uni
  have cb := cap_bd d.roll hk
  have CP := Lib.hid (fun w => foCap_any (sumC L) k w (by omega) (by omega) (by omega) (by omega))
  rw [cap_quo d.roll hk] at CP
  have NB := Lib.hid (nbds_roll d.roll)
  have D := Lib.hid d
  have LH := Lib.hid (ltW_all (l := l) (cap := capW L k) NB.out)
  clear d hk
  generalize capW L k = cap at *
  refine callsIn_of_wp_marks Tryz.func53 rfl trivial ?_ rfl
  simp only [Tryz.ntmps53, List.size_toArray, List.length_cons, List.length_nil, Nat.reduceAdd, Nat.reduceSub, Array.replicate_succ, Array.replicate_zero, List.push_toArray, List.append_toArray, List.nil_append, List.cons_append]
  gi_wp2
  refine ⟨trivial, (callsIn_wide.2 (CK.out _)).mono ?_⟩
  generalize (w.alloc (.cells #[.pointer (some ⟨p, 0, none⟩)] 108)).alloc (.cells #[.bool false] 4) = W0 at *
  rintro e w1 ⟨rfl, rfl⟩
  obtain ⟨c0, c1, f1⟩ := I0.out.cells
  have D0 := Lib.hid (D.out.below I0.out.b)
  gi_wp2
  refine ⟨trivial, (callsIn_wide.2 (tot_bel D0.out (by omega) _ (Below.refl _ _))).mono ?_⟩
  rintro e w2 ⟨rfl, hb2⟩
  have I2 := Lib.hid (I0.out.below hb2)
  clear c0 c1 f1 hb2 I0 D0
  obtain ⟨c0, c1, f1⟩ := I2.out.cells
  have hx0 : w.heap.size < w2.heap.size := (I2.out.px.lt _ rfl).2
  have hx1 : w.heap.size + 1 < w2.heap.size := (I2.out.rx.lt _ rfl).2
  gi_wp2
  refine ⟨trivial, (callsIn_wide.2 (CP.out _)).mono ?_⟩
  rintro e w3 ⟨rfl, rfl⟩
  gi_wp2
  refine ⟨trivial, (callsIn_wide.2 (poEach_any _ _)).mono ?_⟩
  rintro e w3 ⟨rfl, rfl⟩
  have hza : (w2.alloc (.cells #[.int .i64 cap] 3)).heap.size = w2.heap.size + 1 := by simp
  have hba : Below w2.heap.size w2 ((w2.alloc (.cells #[.int .i64 cap] 3)).alloc (.cells #[.pointer (some ⟨p, 0, none⟩)] 108)) := ((Below.refl _ _).alloc (Nat.le_refl _) _).alloc (by simp) _
  have NR : Hid (((w2.alloc (.cells #[.int .i64 cap] 3)).alloc (.cells #[.pointer (some ⟨p, 0, none⟩)] 108)).ownsRow w.heap.size 3 1 (.slice (some ⟨w2.heap.size, 0, none⟩) 1 1) 1 [.int .i64 cap]) := own_low ((box1 w2 3 (.int .i64 cap)).alloc (.cells #[.pointer (some ⟨p, 0, none⟩)] 108)) (by omega)
  have hc1 : ((w2.alloc (.cells #[.int .i64 cap] 3)).alloc (.cells #[.pointer (some ⟨p, 0, none⟩)] 108)).cell? ⟨w2.heap.size + 1, 0, none⟩ = some (.pointer (some ⟨p, 0, none⟩)) := by
    have q := (box1 (w2.alloc (.cells #[.int .i64 cap] 3)) 108 (.pointer (some ⟨p, 0, none⟩))).cellAt 0 (by omega)
    rw [hza] at q
    exact q
  have hz1 : w2.heap.size + 1 < ((w2.alloc (.cells #[.int .i64 cap] 3)).alloc (.cells #[.pointer (some ⟨p, 0, none⟩)] 108)).heap.size := by simp
  have I3 := Lib.hid (I2.out.below hba)
  have P3 := Lib.hid (D.out.below I3.out.b)
  clear hba hza c0 c1 f1 hx0 I2
  gi_wp2
  generalize (w2.alloc (.cells #[.int .i64 cap] 3)).alloc (.cells #[.pointer (some ⟨p, 0, none⟩)] 108) = W1 at *
  have hN : ∀ W W2 k, Below W1.heap.size W1 W → Below W.heap.size W W2 → W.heap.size ≤ k → (∃ o : Obj, W2.heap[k]? = some o ∧ o.isCells = true) → FrR (w.heap.size + 1) W2 k := by
    intro W W2 k h1 h2' h3 h4
    have := h1.size
    exact ⟨h4, by omega⟩
  refine wpIn_rangeFunc_ownF rfl (by decide) (gf := 139) (lb := #[.pointer (some ⟨w2.heap.size + 1, 0, none⟩)]) rfl trivial (enters_of Tryz.func139 (by kernel_rfl) rfl)
    (each_stops 4 (w2.heap.size + 1) p B g h (show n ≤ 1000 by omega) (FrR (w.heap.size + 1)) (frR _) W1 hc1 hz1 P3.out hN) kpF_t (fun W l' o o' _ hl ho _ => kpF_b (frR _) W l' o o' hl ho) (Below.refl _ _) (fun _ => rfl)
    (fun pre W => (((W.ownsRow w.heap.size 108 1 (.slice (some ⟨w.heap.size, 0, none⟩) 1 1) 1 [.pointer (some ⟨p, 0, none⟩)] ∧ W.ownsRow w.heap.size 4 1 (.slice (some ⟨w.heap.size + 1, 0, none⟩) 1 1) 1 [.bool false]) ∧ W.ownsRow w.heap.size 3 1 (.slice (some ⟨w2.heap.size, 0, none⟩) 1 1) 1 [.int .i64 cap] ∧ PoA W B p g h kd l n L) ∧ LtW l cap pre) ∧ Below w.heap.size w W)
    (fun cd pre W => (W.ownsRow w.heap.size 4 1 (.slice (some ⟨w.heap.size + 1, 0, none⟩) 1 1) 1 [.bool false] ∧ cd = .ret ∧ ¬ LtW l cap pre) ∧ Below w.heap.size w W)
    (OwnFrom.and (Own.from (fun s A C row ⟨⟨⟨r1, r2⟩, r3, r4⟩, hp⟩ hg hr => ⟨⟨⟨row_grown r1 hg hr, row_grown r2 hg hr⟩, row_grown r3 hg hr, r4.grown hg hr⟩, hp⟩) _) (ownFrom_below (Nat.le_refl _) I3.out.b.size))
    (fun cd => OwnFrom.and (Own.from (fun s A C row ⟨r1, q1, q2⟩ hg hr => ⟨row_grown r1 hg hr, q1, q2⟩) _) (ownFrom_below (Nat.le_refl _) I3.out.b.size))
    ⟨⟨⟨⟨I3.out.px, I3.out.rx⟩, NR.out, P3.out⟩, fun x hx => by simp at hx⟩, I3.out.b⟩
    ?a1 ?assign ?body ?done ?stop
  case assign =>
    intro l' x W K hK
    gi_wp2
    exact hK
  case body =>
    rintro l' pre x W ⟨⟨⟨⟨r1, r2⟩, r3, r4⟩, hp⟩, hB⟩ hpl
    have bd := wrap_bd x.1
    have bd2 := wrap_bd x.2
    have KD := Lib.hid (fun w => kids_any l (wrap64 x.1) w (by omega) (by omega) bd.1 bd.2)
    have SN := Lib.hid (fun h => ltW_snoc (x := x) hp h)
    have NO : Hid (KidC l (wrap64 x.1) → cap < wrap64 x.2 → ¬ LtW l cap (pre ++ [x])) := fun h1 h2 h3 => by have := h3 x (by simp) h1; omega
    have n0 : W.cell? ⟨w.heap.size, 0, none⟩ = some (.pointer (some ⟨p, 0, none⟩)) := r1.cellAt 0 (by omega)
    have n1 : W.cell? ⟨w.heap.size + 1, 0, none⟩ = some (.bool false) := r2.cellAt 0 (by omega)
    have n2 := r2.frozenAt 0
    have n3 : W.cell? ⟨w2.heap.size, 0, none⟩ = some (.int .i64 cap) := r3.cellAt 0 (by omega)
    have R1 := Lib.hid r1
    have R2 := Lib.hid r2
    have R3 := Lib.hid r3
    have R4 := Lib.hid r4
    have BB := Lib.hid hB
    clear r1 r2 r3 r4 hB hp
    generalize wrap64 x.1 = id at *
    generalize wrap64 x.2 = ct at *
    have hx1' : w.heap.size + 1 < W.heap.size := (R2.out.lt _ rfl).2
    by_cases hk : KidC l id
    · obtain ⟨k1, k2, k3⟩ := kid_yes hk
      rw [k1, k2, k3] at KD
      clear k1 k2 k3
      by_cases hc : cap < ct
      · have c1 : decide (ct > cap) = true := decide_eq_true hc
        have NX := Lib.hid (NO.out hk hc)
        clear hk hc
        gi_wp2
        refine ⟨trivial, (CallsIn.inRound l' (callsIn_wide.2 (l_bel R4.out (by omega) _ (Below.refl _ _)))).mono ?_⟩
        rintro e w4 ⟨rfl, hb4⟩
        have R24 := own_below R2.out hb4
        have m1 : w4.cell? ⟨w.heap.size + 1, 0, none⟩ = some (.bool false) := R24.cellAt 0 (by omega)
        have m2 := R24.frozenAt 0
        have m3 : w4.cell? ⟨w2.heap.size, 0, none⟩ = some (.int .i64 cap) := (own_below R3.out hb4).cellAt 0 (by omega)
        have KO := Lib.hid (keepsOthers_below hb4)
        have B4 := Lib.hid (BB.out.trans (hb4.mono BB.out.size))
        have RR := Lib.hid R24
        clear hb4 n0 n1 n2 n3 R24
        gi_wp2
        refine ⟨trivial, (CallsIn.inRound l' (callsIn_wide.2 (KD.out _))).mono ?_⟩
        rintro e w5 ⟨rfl, rfl⟩
        gi_wp2
        exact ⟨KO.out.trans (KeepsOthers.setCell _ _ _), ⟨(RR.out.stored 0 (.bool false)).1, rfl, NX.out⟩, B4.out.setCell (p := ⟨w.heap.size + 1, 0, none⟩) (Nat.le_succ _) _⟩
      · have c1 : decide (ct > cap) = false := decide_eq_false hc
        have NX := Lib.hid (SN.out fun _ => by omega)
        clear hk hc
        gi_wp2
        refine ⟨trivial, (CallsIn.inRound l' (callsIn_wide.2 (l_bel R4.out (by omega) _ (Below.refl _ _)))).mono ?_⟩
        rintro e w4 ⟨rfl, hb4⟩
        have m3 : w4.cell? ⟨w2.heap.size, 0, none⟩ = some (.int .i64 cap) := (own_below R3.out hb4).cellAt 0 (by omega)
        have KO := Lib.hid (keepsOthers_below hb4)
        have KF := Lib.hid (kpF_below (frR (w.heap.size + 1)) hb4)
        have B4 := Lib.hid (BB.out.trans (hb4.mono BB.out.size))
        have RR := Lib.hid (And.intro (And.intro (own_below R1.out hb4) (own_below R2.out hb4)) (And.intro (own_below R3.out hb4) (R4.out.below hb4)))
        clear hb4 n0 n1 n2 n3
        gi_wp2
        refine ⟨trivial, (CallsIn.inRound l' (callsIn_wide.2 (KD.out _))).mono ?_⟩
        rintro e w5 ⟨rfl, rfl⟩
        gi_wp2
        exact ⟨KO.out, KF.out, ⟨RR.out, NX.out⟩, B4.out⟩
    · obtain ⟨k1, k2, k3⟩ := kid_no hk
      rw [k1, k2, k3] at KD
      have NX := Lib.hid (SN.out fun h => absurd h hk)
      clear hk k1 k2 k3
      gi_wp2
      refine ⟨trivial, (CallsIn.inRound l' (callsIn_wide.2 (l_bel R4.out (by omega) _ (Below.refl _ _)))).mono ?_⟩
      rintro e w4 ⟨rfl, hb4⟩
      have KO := Lib.hid (keepsOthers_below hb4)
      have KF := Lib.hid (kpF_below (frR (w.heap.size + 1)) hb4)
      have B4 := Lib.hid (BB.out.trans (hb4.mono BB.out.size))
      have RR := Lib.hid (And.intro (And.intro (own_below R1.out hb4) (own_below R2.out hb4)) (And.intro (own_below R3.out hb4) (R4.out.below hb4)))
      clear hb4 n0 n1 n2 n3
      gi_wp2
      refine ⟨trivial, (CallsIn.inRound l' (callsIn_wide.2 (KD.out _))).mono ?_⟩
      rintro e w5 ⟨rfl, rfl⟩
      gi_wp2
      exact ⟨KO.out, KF.out, ⟨RR.out, NX.out⟩, B4.out⟩
  case done =>
    rintro D' ys W hD hys ⟨⟨⟨⟨r1, r2⟩, r3, r4⟩, hp⟩, hB⟩ hK
    rw [hys] at hp
    have c1 : W.cell? ⟨w.heap.size + 1, 0, none⟩ = some (.bool false) := r2.cellAt 0 (by omega)
    have f1 := r2.frozenAt 0
    have HL := Lib.hid (decide_eq_true (LH.out.1 hp))
    have BB := Lib.hid hB
    have HD := Lib.hid hD
    have HKK := Lib.hid hK
    clear r1 r2 r3 r4 hp hB hK hD hys
    gi_wp2
    have hK' := (KeepsOthers.setCell W ⟨w.heap.size + 1, 0, none⟩ (.bool true)).same D' _ HKK.out rfl
    refine ⟨by simp, .inl ⟨_, _, rfl, run_takeDeferred hK', ?_⟩⟩
    have hc5 := cell_kept (World.cell?_setCell_same' W ⟨w.heap.size + 1, 0, none⟩ (.bool true) (by rw [c1]; rfl)) (grownBy_putObj' _ D' (.deferred none)) (fun r e => by cases e; exact ⟨_, hK', rfl⟩)
    refine ⟨.bool true, ?_, by rw [HL.out], (BB.out.setCell (p := ⟨w.heap.size + 1, 0, none⟩) (Nat.le_succ _) _).trans (belowK_b (w := W1) I3.out.b.size _ D' _ _ HD.out hK' rfl rfl)⟩
    simp [results, Tryz.f53, go_sem, hc5]
  case stop =>
    rintro D' cd pre W hD hpre ⟨⟨r2, rfl, hnp⟩, hB⟩ hK
    have c1 : W.cell? ⟨w.heap.size + 1, 0, none⟩ = some (.bool false) := r2.cellAt 0 (by omega)
    have HL := Lib.hid (decide_eq_false fun h => hnp fun x hx => LH.out.2 h x (hpre.subset hx))
    have BB := Lib.hid hB
    have HD := Lib.hid hD
    have HKK := Lib.hid hK
    clear r2 hnp hpre hB hK hD
    gi_wp2
    refine ⟨by simp, .inl ⟨_, _, rfl, run_takeDeferred HKK.out, ?_⟩⟩
    have hc5 := cell_kept c1 (grownBy_putObj' _ D' (.deferred none)) (fun r e => by cases e; exact ⟨_, HKK.out, rfl⟩)
    refine ⟨.bool false, ?_, by rw [HL.out], BB.out.trans (belowK_b (w := W1) I3.out.b.size _ D' _ _ HD.out HKK.out rfl rfl)⟩
    simp [results, Tryz.f53, go_sem, hc5]
theorem prLight_any {B p g h : Nat} {kd l : Int} {n : Nat} {L : List Nd} (k : Int) (w : World) (d : PoA w B p g h kd l n L) (hn : n ≤ 500) :
    Calls Tryz.prog 53 #[.pointer (some ⟨p, 0, none⟩), .int .i64 k] w fun e w' => e = .returned (.bool (lightB l L k)) ∧ Below w.heap.size w w' := by
  unfold lightB
  cases hk : kIs k
  · exact callsIn_wide.1 (prLight_no_in p k w hk)
  · exact callsIn_wide.1 (prLight_in k w d hn hk)
end Go.Proofs.YtelekchdbiimiaaGreat
