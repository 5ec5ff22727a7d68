/- Plain facts of layer bound: the ends of nodes, what values come to, where a digest tells least. No program is spoken of here. -/
import Derived.Test.YtkoefclkpdpdpaaGreatDgQ
namespace Go.Proofs.YtkoefclkpdpdpaaGreat
set_option linter.unusedVariables false

/-! ### the least and the greatest ends -/
def mnS (e : Int → Int) (m : Int) (n : Nd) : Int := if e n.1 < m then e n.1 else m
def mxS (e : Int → Int) (m : Int) (n : Nd) : Int := if m < e n.1 then e n.1 else m
def boMn (e : Int → Int) (P : List Nd) : Int := P.foldl (mnS e) 281474976710656
def boMx (e : Int → Int) (P : List Nd) : Int := P.foldl (mxS e) (-1)
theorem boMn_take (e : Int → Int) {P : List Nd} {k : Nat} (hk : k < P.length) : boMn e (P.take (k + 1)) = mnS e (boMn e (P.take k)) (P.getD k nz) := by
  have g : P.getD k nz = P[k] := by simp [List.getD_eq_getElem?_getD, hk]
  unfold boMn
  rw [List.take_succ_eq_append_getElem hk, List.foldl_append, g]
  rfl
theorem boMx_take (e : Int → Int) {P : List Nd} {k : Nat} (hk : k < P.length) : boMx e (P.take (k + 1)) = mxS e (boMx e (P.take k)) (P.getD k nz) := by
  have g : P.getD k nz = P[k] := by simp [List.getD_eq_getElem?_getD, hk]
  unfold boMx
  rw [List.take_succ_eq_append_getElem hk, List.foldl_append, g]
  rfl
theorem mn_spec (e : Int → Int) : ∀ (P : List Nd) (m : Int), P.foldl (mnS e) m ≤ m ∧ (∀ n ∈ P, P.foldl (mnS e) m ≤ e n.1) ∧ (P.foldl (mnS e) m = m ∨ ∃ n ∈ P, P.foldl (mnS e) m = e n.1)
  | [], m => ⟨Int.le_refl _, fun n h => by simp at h, .inl rfl⟩
  | x :: P, m => by
    obtain ⟨a, b, c⟩ := mn_spec e P (mnS e m x)
    have d : mnS e m x ≤ m ∧ mnS e m x ≤ e x.1 ∧ (mnS e m x = m ∨ mnS e m x = e x.1) := by unfold mnS; split <;> omega
    refine ⟨Int.le_trans a d.1, fun n hn => ?_, ?_⟩
    · rcases List.mem_cons.1 hn with q | q
      · rw [q]; exact Int.le_trans a d.2.1
      · exact b n q
    · rcases c with c | ⟨n, hn, c⟩
      · rcases d.2.2 with q | q
        · exact .inl (c.trans q)
        · exact .inr ⟨x, by simp, c.trans q⟩
      · exact .inr ⟨n, by simp [hn], c⟩
theorem mx_spec (e : Int → Int) : ∀ (P : List Nd) (m : Int), m ≤ P.foldl (mxS e) m ∧ (∀ n ∈ P, e n.1 ≤ P.foldl (mxS e) m) ∧ (P.foldl (mxS e) m = m ∨ ∃ n ∈ P, P.foldl (mxS e) m = e n.1)
  | [], m => ⟨Int.le_refl _, fun n h => by simp at h, .inl rfl⟩
  | x :: P, m => by
    obtain ⟨a, b, c⟩ := mx_spec e P (mxS e m x)
    have d : m ≤ mxS e m x ∧ e x.1 ≤ mxS e m x ∧ (mxS e m x = m ∨ mxS e m x = e x.1) := by unfold mxS; split <;> omega
    refine ⟨Int.le_trans d.1 a, fun n hn => ?_, ?_⟩
    · rcases List.mem_cons.1 hn with q | q
      · rw [q]; exact Int.le_trans d.2.1 a
      · exact b n q
    · rcases c with c | ⟨n, hn, c⟩
      · rcases d.2.2 with q | q
        · exact .inl (c.trans q)
        · exact .inr ⟨x, by simp, c.trans q⟩
      · exact .inr ⟨n, by simp [hn], c⟩
theorem boMn_bd (e : Int → Int) {P : List Nd} (h : ∀ n ∈ P, 0 ≤ e n.1) : 0 ≤ boMn e P ∧ boMn e P ≤ 281474976710656 := by
  obtain ⟨a, b, c⟩ := mn_spec e P 281474976710656
  refine ⟨?_, a⟩
  rcases c with c | ⟨n, hn, c⟩
  · show 0 ≤ P.foldl (mnS e) _; rw [c]; omega
  · have := h n hn; show 0 ≤ P.foldl (mnS e) _; rw [c]; exact this
theorem boMx_bd (e : Int → Int) {P : List Nd} (h : ∀ n ∈ P, e n.1 < 281474976710656) : -1 ≤ boMx e P ∧ boMx e P < 281474976710656 := by
  obtain ⟨a, b, c⟩ := mx_spec e P (-1)
  refine ⟨a, ?_⟩
  rcases c with c | ⟨n, hn, c⟩
  · show P.foldl (mxS e) _ < _; rw [c]; omega
  · have := h n hn; show P.foldl (mxS e) _ < _; rw [c]; exact this
/-- the least of an end: none is less, and one is it -/
theorem boMn_is {l : Int} {L : List Nd} (h : RollC l L) (hne : L ≠ []) : (∀ n ∈ L, boMn (loN l) L ≤ loN l n.1) ∧ (∃ n ∈ L, boMn (loN l) L = loN l n.1) ∧ (∀ n ∈ L, boMn (hiN l) L ≤ hiN l n.1) ∧ ∃ n ∈ L, boMn (hiN l) L = hiN l n.1 := by
  have u : 1 ≤ l ∧ l ≤ 48 := of_decide_eq_true h.1
  have p : (2 : Int) ^ l.toNat ≤ 281474976710656 := two_le l.toNat 48 (by omega)
  obtain ⟨n0, hn0⟩ := List.exists_mem_of_ne_nil L hne
  have e0 := node_ends h hn0
  obtain ⟨a, b, c⟩ := mn_spec (loN l) L 281474976710656
  obtain ⟨a2, b2, c2⟩ := mn_spec (hiN l) L 281474976710656
  refine ⟨b, ?_, b2, ?_⟩
  · rcases c with c | c
    · have := b n0 hn0; rw [c] at this; omega
    · exact c
  · rcases c2 with c | c
    · have := b2 n0 hn0; rw [c] at this; omega
    · exact c
theorem boMx_is {l : Int} {L : List Nd} (h : RollC l L) (hne : L ≠ []) : (∀ n ∈ L, loN l n.1 ≤ boMx (loN l) L) ∧ (∃ n ∈ L, boMx (loN l) L = loN l n.1) ∧ (∀ n ∈ L, hiN l n.1 ≤ boMx (hiN l) L) ∧ ∃ n ∈ L, boMx (hiN l) L = hiN l n.1 := by
  obtain ⟨n0, hn0⟩ := List.exists_mem_of_ne_nil L hne
  have e0 := node_ends h hn0
  obtain ⟨a, b, c⟩ := mx_spec (loN l) L (-1)
  obtain ⟨a2, b2, c2⟩ := mx_spec (hiN l) L (-1)
  refine ⟨b, ?_, b2, ?_⟩
  · rcases c with c | c
    · have := b n0 hn0; rw [c] at this; omega
    · exact c
  · rcases c2 with c | c
    · have := b2 n0 hn0; rw [c] at this; omega
    · exact c
/-! ### what all values come to -/
def suF (e : Int → Int) : List Nd → Int
  | [] => 0
  | n :: L => e n.1 * n.2 + suF e L
theorem suF_snoc (e : Int → Int) (L : List Nd) (n : Nd) : suF e (L ++ [n]) = suF e L + e n.1 * n.2 := by
  induction L with
  | nil => simp [suF]
  | cons x L ih => simp only [List.cons_append, suF, ih]; omega
theorem suF_take (e : Int → Int) {L : List Nd} {k : Nat} (hk : k < L.length) : suF e (L.take (k + 1)) = suF e (L.take k) + e (L.getD k nz).1 * (L.getD k nz).2 := by
  have g : L.getD k nz = L[k] := by simp [List.getD_eq_getElem?_getD, hk]
  rw [List.take_succ_eq_append_getElem hk, suF_snoc, g]
theorem suF_bd (e : Int → Int) {M : Int} : ∀ {L : List Nd}, NonNeg L → (∀ n ∈ L, 0 ≤ e n.1 ∧ e n.1 ≤ M) → 0 ≤ suF e L ∧ suF e L ≤ M * sumC L
  | [], _, _ => by simp [suF, sumC]
  | n :: L, nn, h => by
    have ih := suF_bd e (L := L) (fun m hm => nn m (by simp [hm])) fun m hm => h m (by simp [hm])
    have a := h n (by simp)
    have b := nn n (by simp)
    have c := Int.mul_nonneg a.1 b
    have d := Int.mul_le_mul_of_nonneg_right a.2 b
    simp only [suF, sumC]
    rw [Int.mul_add]
    omega
/-- a sum over the values from 0 on -/
def ck (g : Int → Int) : Nat → Int
  | 0 => 0
  | m + 1 => ck g m + g m
theorem ck_add (f g : Int → Int) : ∀ m, ck (fun y => f y + g y) m = ck f m + ck g m
  | 0 => rfl
  | m + 1 => by simp only [ck, ck_add f g m]; omega
theorem ck_mono {f g : Int → Int} : ∀ {m : Nat}, (∀ y : Nat, y < m → f y ≤ g y) → ck f m ≤ ck g m
  | 0, _ => Int.le_refl _
  | m + 1, h => by
    have a := ck_mono (m := m) fun y hy => h y (by omega)
    have b := h m (by omega)
    simp only [ck]; omega
theorem ck_eq {f g : Int → Int} {m : Nat} (h : ∀ y : Nat, y < m → f y = g y) : ck f m = ck g m :=
  Int.le_antisymm (ck_mono fun y hy => Int.le_of_eq (h y hy)) (ck_mono fun y hy => Int.le_of_eq (h y hy).symm)
theorem ck_one {v c : Int} (h : 0 ≤ v) : ∀ m : Nat, ck (fun y => if y < v then c else 0) m = (if v ≤ m then v else (m : Int)) * c
  | 0 => by
    simp only [ck]
    split
    · have : v = 0 := by omega
      rw [this]; simp
    · simp
  | m + 1 => by
    simp only [ck, ck_one h m]
    by_cases a : v ≤ m
    · rw [if_pos a, if_neg (by omega), if_pos (by omega)]; omega
    · rw [if_neg a, if_pos (by omega)]
      by_cases b : v ≤ (m + 1 : Nat)
      · rw [if_pos b]
        have : v = (m : Int) + 1 := by omega
        rw [this, Int.add_mul]; omega
      · rw [if_neg b]
        rw [Int.natCast_succ, Int.add_mul]; omega
theorem ck_zero : ∀ m : Nat, ck (fun _ => 0) m = 0
  | 0 => rfl
  | m + 1 => by simp only [ck, ck_zero m]; rfl
theorem su_ck {e : Int → Int} {m : Nat} : ∀ {L : List Nd}, (∀ n ∈ L, 0 ≤ e n.1 ∧ e n.1 ≤ m) → suF e L = ck (fun y => wtF (fun a => decide (y < e a)) L) m
  | [], _ => (ck_zero m).symm
  | n :: L, h => by
    have ih := su_ck (e := e) (m := m) (L := L) fun k hk => h k (by simp [hk])
    have a := h n (by simp)
    have one := ck_one (v := e n.1) (c := n.2) a.1 m
    rw [if_pos a.2] at one
    simp only [suF, wtF]
    rw [ih, ← one, ← ck_add]
    exact ck_eq fun y _ => by simp
/-- what the values come to is between what the first, and what the last values of nodes come to -/
theorem std_sum {l : Int} {L T : List Nd} (h : Std l L T) (hr : RollC l L) (hT : BagC l T) : suF (loN l) L ≤ suF (fun v => v) T ∧ suF (fun v => v) T ≤ suF (hiN l) L := by
  have u : 1 ≤ l ∧ l ≤ 48 := of_decide_eq_true hr.1
  obtain ⟨m, hm⟩ : ∃ m : Nat, (m : Int) = 2 ^ l.toNat := ⟨2 ^ l.toNat, by rw [Int.natCast_pow]; rfl⟩
  have a := su_ck (e := loN l) (m := m) (L := L) fun n hn => by have := node_ends hr hn; omega
  have b := su_ck (e := hiN l) (m := m) (L := L) fun n hn => by have := node_ends hr hn; omega
  have c := su_ck (e := fun v => v) (m := m) (L := T) fun n hn => by have := hT.val n hn; unfold ValC at this; omega
  rw [a, b, c]
  have wn : ∀ (e : Int → Int) (y : Int) (A : List Nd), wtF (fun a => decide (y < e a)) A = sumC A - wtF (fun a => decide (e a ≤ y)) A := fun e y A => by
    have q := wtF_not (fun a => decide (e a ≤ y)) A
    have r : wtF (fun a => decide (y < e a)) A = wtF (fun a => !(decide (e a ≤ y))) A := wtF_eq fun n hn => by rw [Bool.eq_iff_iff]; simp
    omega
  have wt : ∀ y : Int, wtF (fun v => decide (v ≤ y)) T = betN T 0 y := fun y => by
    have : ∀ A : List Nd, (∀ n ∈ A, 0 ≤ n.1) → wtF (fun v => decide (v ≤ y)) A = betN A 0 y := fun A => by
      induction A with
      | nil => intro _; rfl
      | cons n A ih =>
        intro h
        have := h n (by simp)
        simp only [wtF, betN, ih fun k hk => h k (by simp [hk]), decide_eq_true_eq]
        congr 1
        by_cases q : n.1 ≤ y
        · rw [if_pos q, if_pos ⟨this, q⟩]
        · rw [if_neg q, if_neg (fun k => q k.2)]
    exact this T fun n hn => (hT.val n hn).2.2.1
  refine ⟨ck_mono fun y _ => ?_, ck_mono fun y _ => ?_⟩
  · have s := std_rank (y := (y : Int)) h hr hT
    have t := h.tot
    rw [wn, wn, wt]
    have e : wtF (fun a => decide (loN l a ≤ (y : Int))) L = highR l L y := rfl
    omega
  · have s := std_rank (y := (y : Int)) h hr hT
    have t := h.tot
    rw [wn (fun v => v), wn (hiN l), wt]
    have e : wtF (fun a => decide (hiN l a ≤ (y : Int))) L = lowR l L y := rfl
    omega
/-! ### where a digest tells least -/
def gW (l : Int) (L : List Nd) (y : Int) : Int := highR l L y - lowR l L y
def woS (l : Int) (A : List Nd) (s : Int × Int) (n : Nd) : Int × Int := if s.2 < gW l A (loN l n.1) ∨ (gW l A (loN l n.1) = s.2 ∧ loN l n.1 < s.1) then (loN l n.1, gW l A (loN l n.1)) else s
def woF (l : Int) (A P : List Nd) : Int × Int := P.foldl (woS l A) (0, gW l A 0)
theorem woF_take (l : Int) (A : List Nd) {P : List Nd} {k : Nat} (hk : k < P.length) : woF l A (P.take (k + 1)) = woS l A (woF l A (P.take k)) (P.getD k nz) := by
  have g : P.getD k nz = P[k] := by simp [List.getD_eq_getElem?_getD, hk]
  unfold woF
  rw [List.take_succ_eq_append_getElem hk, List.foldl_append, g]
  rfl
theorem wo_spec {l : Int} {A : List Nd} : ∀ (P : List Nd) (s : Int × Int), gW l A s.1 = s.2 →
    gW l A (P.foldl (woS l A) s).1 = (P.foldl (woS l A) s).2 ∧ s.2 ≤ (P.foldl (woS l A) s).2 ∧ (∀ n ∈ P, gW l A (loN l n.1) ≤ (P.foldl (woS l A) s).2) ∧ ((P.foldl (woS l A) s).1 = s.1 ∨ ∃ n ∈ P, (P.foldl (woS l A) s).1 = loN l n.1)
      ∧ (s.2 = (P.foldl (woS l A) s).2 → (P.foldl (woS l A) s).1 ≤ s.1) ∧ (∀ n ∈ P, gW l A (loN l n.1) = (P.foldl (woS l A) s).2 → (P.foldl (woS l A) s).1 ≤ loN l n.1)
  | [], s, h => ⟨h, Int.le_refl _, fun n hn => by simp at hn, .inl rfl, fun _ => Int.le_refl _, fun n hn => by simp at hn⟩
  | x :: P, s, h => by
    have d : gW l A (woS l A s x).1 = (woS l A s x).2 ∧ s.2 ≤ (woS l A s x).2 ∧ gW l A (loN l x.1) ≤ (woS l A s x).2 ∧ ((woS l A s x).1 = s.1 ∨ (woS l A s x).1 = loN l x.1)
        ∧ (s.2 = (woS l A s x).2 → (woS l A s x).1 ≤ s.1) ∧ (gW l A (loN l x.1) = (woS l A s x).2 → (woS l A s x).1 ≤ loN l x.1) := by
      unfold woS
      split
      · rename_i c
        refine ⟨rfl, by simp only; omega, Int.le_refl _, .inr rfl, fun e => ?_, fun _ => Int.le_refl _⟩
        simp only at e ⊢; omega
      · rename_i c
        refine ⟨h, Int.le_refl _, by omega, .inl rfl, fun _ => Int.le_refl _, fun e => by omega⟩
    obtain ⟨d1, d2, d3, d4, d5, d6⟩ := d
    obtain ⟨a1, a2, a3, a4, a5, a6⟩ := wo_spec P (woS l A s x) d1
    have f : (x :: P).foldl (woS l A) s = P.foldl (woS l A) (woS l A s x) := rfl
    rw [f]
    refine ⟨a1, Int.le_trans d2 a2, fun n hn => ?_, ?_, fun e => ?_, fun n hn e => ?_⟩
    · rcases List.mem_cons.1 hn with q | q
      · rw [q]; exact Int.le_trans d3 a2
      · exact a3 n q
    · rcases a4 with q | ⟨n, hn, q⟩
      · rcases d4 with r | r
        · exact .inl (q.trans r)
        · exact .inr ⟨x, by simp, q.trans r⟩
      · exact .inr ⟨n, by simp [hn], q⟩
    · have e1 : s.2 = (woS l A s x).2 := by omega
      have e2 : (woS l A s x).2 = (P.foldl (woS l A) (woS l A s x)).2 := by omega
      exact Int.le_trans (a5 e2) (d5 e1)
    · rcases List.mem_cons.1 hn with q | q
      · rw [q] at e ⊢
        have e2 : (woS l A s x).2 = (P.foldl (woS l A) (woS l A s x)).2 := by omega
        exact Int.le_trans (a5 e2) (d6 (by omega))
      · exact a6 n q e
/-- the least value at which the gap is the greatest, and that -/
structure WoP (l : Int) (L : List Nd) (x g : Int) : Prop where
  val : 0 ≤ x ∧ x < 2 ^ l.toNat
  at' : gW l L x = g
  most : ∀ y, gW l L y ≤ g
  least : ∀ y, 0 ≤ y → y < x → gW l L y < g
theorem WoP.uniq {l x g y h : Int} {L : List Nd} (a : WoP l L x g) (b : WoP l L y h) : x = y ∧ g = h := by
  have e : g = h := Int.le_antisymm (by rw [← a.at']; exact b.most x) (by rw [← b.at']; exact a.most y)
  refine ⟨?_, e⟩
  rcases Int.lt_trichotomy x y with q | q | q
  · have := b.least x a.val.1 q; have := a.at'; omega
  · exact q
  · have := a.least y b.val.1 q; have := b.at'; omega
theorem gap_under {l : Int} {L : List Nd} (h : RollC l L) (y : Int) : gW l L y ≤ 0 ∨ ∃ n ∈ L, loN l n.1 ≤ y ∧ gW l L y ≤ gW l L (loN l n.1) := by
  by_cases c : 1 ≤ highR l L y
  · obtain ⟨n, hn, h1, h2⟩ := wtE_at (e := loN l) (L := L) (z := y) (by rw [← high_wtE]; exact c)
    rw [← high_wtE, ← high_wtE] at h2
    have m := low_mono h h1
    exact .inr ⟨n, hn, h1, by unfold gW; omega⟩
  · have b := low_bd h y
    exact .inl (by unfold gW; omega)
theorem wo_is {l : Int} {L : List Nd} (h : RollC l L) : WoP l L (woF l L L).1 (woF l L L).2 := by
  have p0 : (0 : Int) < 2 ^ l.toNat := two_pos _
  obtain ⟨a1, a2, a3, a4, a5, a6⟩ := wo_spec (l := l) (A := L) L (0, gW l L 0) rfl
  have g0 : 0 ≤ gW l L 0 := by have := low_high h 0; unfold gW; omega
  refine ⟨?_, a1, fun y => ?_, fun y y0 yx => ?_⟩
  · rcases a4 with q | ⟨n, hn, q⟩
    · have q' : (woF l L L).1 = 0 := q
      rw [q']; exact ⟨Int.le_refl _, p0⟩
    · have e := node_ends h hn
      have q' : (woF l L L).1 = loN l n.1 := q
      rw [q']; omega
  · rcases gap_under h y with q | ⟨n, hn, _, q⟩
    · exact Int.le_trans q (Int.le_trans g0 a2)
    · exact Int.le_trans q (a3 n hn)
  · rcases gap_under h y with q | ⟨n, hn, hl, q⟩
    · rcases Int.lt_or_le (gW l L y) (woF l L L).2 with r | r
      · exact r
      · have e : (0, gW l L 0).2 = (woF l L L).2 := by
          show gW l L 0 = _
          have : gW l L 0 ≤ (woF l L L).2 := a2
          omega
        have := a5 e
        have : (woF l L L).1 ≤ 0 := this
        omega
    · rcases Int.lt_or_le (gW l L y) (woF l L L).2 with r | r
      · exact r
      · have e : gW l L (loN l n.1) = (woF l L L).2 := Int.le_antisymm (a3 n hn) (by omega)
        have : (woF l L L).1 ≤ loN l n.1 := a6 n hn e
        omega

end Go.Proofs.YtkoefclkpdpdpaaGreat
