/- Plain facts of layer bound: what the project's closures gather; where it looks for the worst gap. No program is spoken of here. -/
import Derived.Test.YtkoefclkpdpdpaaGreatBoNum
namespace Go.Proofs.YtkoefclkpdpdpaaGreat
set_option linter.unusedVariables false

/-- what is gathered of one end of all nodes -/
def gaF (f : Int → Int → Int) (e : Int → Int) (m : Int) (P : List Nd) : Int := P.foldl (fun a n => f a (e n.1)) m
theorem gaF_take (f : Int → Int → Int) (e : Int → Int) (m : Int) {P : List Nd} {k : Nat} (hk : k < P.length) : gaF f e m (P.take (k + 1)) = f (gaF f e m (P.take k)) (e (P.getD k nz).1) := by
  have g : P.getD k nz = P[k] := by simp [List.getD_eq_getElem?_getD, hk]
  unfold gaF
  rw [List.take_succ_eq_append_getElem hk, List.foldl_append, g]
  rfl
def mnV (a v : Int) : Int := if v < a then v else a
def mxV (a v : Int) : Int := if a < v then v else a
theorem gaF_mn (e : Int → Int) {P : List Nd} (h : ∀ n ∈ P, e n.1 < 281474976710656) (hne : P ≠ []) : gaF mnV e 9223372036854775807 P = boMn e P := by
  match P, hne with
  | x :: P, _ =>
    have a := h x (by simp)
    have e1 : mnV 9223372036854775807 (e x.1) = mnS e 281474976710656 x := by unfold mnV mnS; rw [if_pos (by omega), if_pos a]
    show P.foldl (fun a n => mnV a (e n.1)) (mnV 9223372036854775807 (e x.1)) = P.foldl (mnS e) (mnS e 281474976710656 x)
    rw [e1]
    rfl
theorem gaF_mx (e : Int → Int) {P : List Nd} (h : ∀ n ∈ P, 0 ≤ e n.1) (hne : P ≠ []) : gaF mxV e (-9223372036854775808) P = boMx e P := by
  match P, hne with
  | x :: P, _ =>
    have a := h x (by simp)
    have e1 : mxV (-9223372036854775808) (e x.1) = mxS e (-1) x := by unfold mxV mxS; rw [if_pos (by omega), if_pos (by omega)]
    show P.foldl (fun a n => mxV a (e n.1)) (mxV (-9223372036854775808) (e x.1)) = P.foldl (mxS e) (mxS e (-1) x)
    rw [e1]
    rfl
theorem roll_val {l : Int} {L : List Nd} (h : RollC l L) : (∀ n ∈ L, 0 ≤ loN l n.1 ∧ loN l n.1 < 281474976710656) ∧ ∀ n ∈ L, 0 ≤ hiN l n.1 ∧ hiN l n.1 < 281474976710656 := by
  have u : 1 ≤ l ∧ l ≤ 48 := of_decide_eq_true h.1
  have p : (2 : Int) ^ l.toNat ≤ 281474976710656 := two_le l.toNat 48 (by omega)
  exact ⟨fun n hn => by have := node_ends h hn; omega, fun n hn => by have := node_ends h hn; omega⟩
theorem sumC_ne {L : List Nd} (h : ¬ sumC L = 0) : L ≠ [] := fun e => h (by rw [e]; rfl)
/-- sums of both ends, up to a node -/
theorem suF_parts {l : Int} {L : List Nd} (h : RollC l L) (e : Int → Int) (he : ∀ n ∈ L, 0 ≤ e n.1 ∧ e n.1 < 281474976710656) (k : Nat) : 0 ≤ suF e (L.take k) ∧ suF e (L.take k) ≤ 281474976710655 * 72057594037927935 := by
  have nn : NonNeg L := good_nonneg (roll_good h)
  have a := suF_bd e (M := 281474976710655) (L := L.take k) (fun m hm => nn m (List.mem_of_mem_take hm)) fun m hm => by have := he m (List.mem_of_mem_take hm); omega
  have b := wtF_parts (P := fun _ => true) h k
  rw [wtF_all] at b
  have c := Int.mul_le_mul_of_nonneg_left b.2 (show (0 : Int) ≤ 281474976710655 by omega)
  omega
theorem mean_parts {l : Int} {L : List Nd} (h : RollC l L) (hs : ¬ sumC L = 0) (e : Int → Int) (he : ∀ n ∈ L, 0 ≤ e n.1 ∧ e n.1 < 281474976710656) : 1 ≤ sumC L ∧ sumC L ≤ 72057594037927935 ∧ 0 ≤ suF e L ∧ suF e L ≤ 281474976710655 * 72057594037927935 ∧ 0 ≤ suF e L / sumC L ∧ suF e L / sumC L ≤ 281474976710655 := by
  have nn : NonNeg L := good_nonneg (roll_good h)
  have a := suF_bd e (M := 281474976710655) nn fun m hm => by have := he m hm; omega
  have t : sumC L ≤ 72057594037927935 := h.2.2.2.2
  have z := wtF_parts (P := fun _ => true) h L.length
  rw [wtF_all, List.take_length] at z
  have p := suF_parts h e he L.length
  rw [List.take_length] at p
  refine ⟨by omega, t, p.1, p.2, Int.ediv_nonneg p.1 (by omega), ?_⟩
  exact Int.ediv_le_of_le_mul (by omega) a.2
/-! ### where the worst gap is looked for -/
def wcF (l : Int) (A P : List Nd) : Int × Int := P.foldl (woS l A) (0, 0)
/-- one more value is looked at -/
def wcS (l : Int) (A : List Nd) (v : Int) (s : Int × Int) : Int × Int := if s.2 < gW l A v ∨ (gW l A v = s.2 ∧ v < s.1) then (v, gW l A v) else s
theorem wcS_yes {l : Int} {A : List Nd} {v x g : Int} (h : g < gW l A v ∨ (gW l A v = g ∧ v < x)) : (wcS l A v (x, g)).1 = v ∧ (wcS l A v (x, g)).2 = gW l A v := by
  have e : wcS l A v (x, g) = (v, gW l A v) := if_pos h
  rw [e]; exact ⟨rfl, rfl⟩
theorem wcS_no {l : Int} {A : List Nd} {v x g : Int} (h : ¬ (g < gW l A v ∨ (gW l A v = g ∧ v < x))) : (wcS l A v (x, g)).1 = x ∧ (wcS l A v (x, g)).2 = g := by
  have e : wcS l A v (x, g) = (x, g) := if_neg h
  rw [e]; exact ⟨rfl, rfl⟩
theorem wcF_take (l : Int) (A : List Nd) {P : List Nd} {k : Nat} (hk : k < P.length) : wcF l A (P.take (k + 1)) = woS l A (wcF l A (P.take k)) (P.getD k nz) := by
  have g : P.getD k nz = P[k] := by simp [List.getD_eq_getElem?_getD, hk]
  unfold wcF
  rw [List.take_succ_eq_append_getElem hk, List.foldl_append, g]
  rfl
theorem wc_spec {l : Int} {A : List Nd} : ∀ (P : List Nd) (s : Int × Int),
    (P.foldl (woS l A) s = s ∨ ∃ n ∈ P, P.foldl (woS l A) s = (loN l n.1, gW l A (loN l n.1))) ∧ s.2 ≤ (P.foldl (woS l A) s).2 ∧ (∀ n ∈ P, gW l A (loN l n.1) ≤ (P.foldl (woS l A) s).2)
      ∧ (s.2 = (P.foldl (woS l A) s).2 → (P.foldl (woS l A) s).1 ≤ s.1) ∧ (∀ n ∈ P, gW l A (loN l n.1) = (P.foldl (woS l A) s).2 → (P.foldl (woS l A) s).1 ≤ loN l n.1)
  | [], s => ⟨.inl rfl, Int.le_refl _, fun n hn => by simp at hn, fun _ => Int.le_refl _, fun n hn => by simp at hn⟩
  | x :: P, s => by
    have d : (woS l A s x = s ∨ woS l A s x = (loN l x.1, gW l A (loN l x.1))) ∧ s.2 ≤ (woS l A s x).2 ∧ gW l A (loN l x.1) ≤ (woS l A s x).2
        ∧ (s.2 = (woS l A s x).2 → (woS l A s x).1 ≤ s.1) ∧ (gW l A (loN l x.1) = (woS l A s x).2 → (woS l A s x).1 ≤ loN l x.1) := by
      unfold woS
      split
      · rename_i c
        refine ⟨.inr rfl, by simp only; omega, Int.le_refl _, fun e => ?_, fun _ => Int.le_refl _⟩
        simp only at e ⊢; omega
      · rename_i c
        refine ⟨.inl rfl, Int.le_refl _, by omega, fun _ => Int.le_refl _, fun e => by omega⟩
    obtain ⟨d1, d2, d3, d5, d6⟩ := d
    obtain ⟨a1, a2, a3, a5, a6⟩ := wc_spec P (woS l A s x)
    have f : (x :: P).foldl (woS l A) s = P.foldl (woS l A) (woS l A s x) := rfl
    rw [f]
    refine ⟨?_, Int.le_trans d2 a2, fun n hn => ?_, fun e => ?_, fun n hn e => ?_⟩
    · rcases a1 with q | ⟨n, hn, q⟩
      · rcases d1 with r | r
        · exact .inl (q.trans r)
        · exact .inr ⟨x, by simp, q.trans r⟩
      · exact .inr ⟨n, by simp [hn], q⟩
    · rcases List.mem_cons.1 hn with q | q
      · rw [q]; exact Int.le_trans d3 a2
      · exact a3 n q
    · have e1 : s.2 = (woS l A s x).2 := by omega
      have e2 : (woS l A s x).2 = (P.foldl (woS l A) (woS l A s x)).2 := by omega
      exact Int.le_trans (a5 e2) (d5 e1)
    · rcases List.mem_cons.1 hn with q | q
      · rw [q] at e ⊢
        have e2 : (woS l A s x).2 = (P.foldl (woS l A) (woS l A s x)).2 := by omega
        exact Int.le_trans (a5 e2) (d6 (by omega))
      · exact a6 n q e
/-- looking from 0 on finds the same -/
theorem wc_is {l : Int} {L : List Nd} (h : RollC l L) : wcF l L L = woF l L L := by
  have p0 : (0 : Int) < 2 ^ l.toNat := two_pos _
  obtain ⟨a1, a2, a3, a5, a6⟩ := wc_spec (l := l) (A := L) L (0, 0)
  have q : WoP l L (wcF l L L).1 (wcF l L L).2 := by
    rcases a1 with q | ⟨n, hn, q⟩
    · have q' : wcF l L L = (0, 0) := q
      rw [q] at a3
      have m : ∀ y, gW l L y ≤ 0 := fun y => by
        rcases gap_under h y with r | ⟨n, hn, _, r⟩
        · exact r
        · exact Int.le_trans r (a3 n hn)
      have g0 : 0 ≤ gW l L 0 := by have := low_high h 0; unfold gW; omega
      rw [q']
      exact ⟨⟨Int.le_refl _, p0⟩, Int.le_antisymm (m 0) g0, m, fun y y0 yx => by simp only at yx; omega⟩
    · have q' : wcF l L L = (loN l n.1, gW l L (loN l n.1)) := q
      rw [q] at a2 a3 a5 a6
      simp only at a2 a3 a5 a6
      have e := node_ends h hn
      rw [q']
      refine ⟨by simp only; omega, rfl, fun y => ?_, fun y y0 yx => ?_⟩
      · rcases gap_under h y with r | ⟨m, hm, _, r⟩
        · exact Int.le_trans r a2
        · exact Int.le_trans r (a3 m hm)
      · simp only at yx ⊢
        rcases gap_under h y with r | ⟨m, hm, hl, r⟩
        · rcases Int.lt_or_le 0 (gW l L (loN l n.1)) with c | c
          · omega
          · have := a5 (by omega); omega
        · rcases Int.lt_or_le (gW l L y) (gW l L (loN l n.1)) with c | c
          · exact c
          · have s := a3 m hm
            have := a6 m hm (by omega); omega
  exact Prod.ext (q.uniq (wo_is h)).1 (q.uniq (wo_is h)).2

end Go.Proofs.YtkoefclkpdpdpaaGreat
