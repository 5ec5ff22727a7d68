/- Plain facts of layer bound: the ends that a digest tells are around the least and the greatest value that it stands for. No program is spoken of here. -/
import Derived.Test.YtkoefclkpdpdpaaGreatBoNum
namespace Go.Proofs.YtkoefclkpdpdpaaGreat
set_option linter.unusedVariables false

theorem boWt_pos {P : Int → Bool} : ∀ {L : List Nd}, (∀ n ∈ L, 1 ≤ n.2) → (∃ n ∈ L, P n.1 = true) → 1 ≤ wtF P L
  | [], _, h => by obtain ⟨n, hn, _⟩ := h; simp at hn
  | x :: L, g, h => by
    have gx := g x (by simp)
    have nn : 0 ≤ wtF P L := by
      have : ∀ {A : List Nd}, (∀ n ∈ A, 1 ≤ n.2) → 0 ≤ wtF P A := by
        intro A
        induction A with
        | nil => intro _; simp [wtF]
        | cons a A ih =>
          intro g
          have := g a (by simp)
          have := ih fun n hn => g n (by simp [hn])
          simp only [wtF]; split <;> omega
      exact this fun n hn => g n (by simp [hn])
    obtain ⟨n, hn, hp⟩ := h
    rcases List.mem_cons.1 hn with q | q
    · subst q; simp only [wtF, hp, if_true]; omega
    · have := boWt_pos (P := P) (L := L) (fun n hn => g n (by simp [hn])) ⟨n, q, hp⟩
      simp only [wtF]; split <;> omega
theorem boWt_zero {P : Int → Bool} {L : List Nd} (h : ∀ n ∈ L, P n.1 = false) : wtF P L = 0 := by
  rw [wtF_eq (Q := fun _ => false) h, wtF_none]
theorem boBet_wt {T : List Nd} (h : ∀ n ∈ T, 0 ≤ n.1) (y : Int) : betN T 0 y = wtF (fun v => decide (v ≤ y)) T := by
  induction T with
  | nil => rfl
  | cons n A ih =>
    have := h n (by simp)
    simp only [wtF, betN, ih fun k hk => h k (by simp [hk]), decide_eq_true_eq]
    congr 1
    by_cases q : n.1 ≤ y
    · rw [if_pos q, if_pos ⟨this, q⟩]
    · rw [if_neg q, if_neg (fun k => q k.2)]
theorem bo_stand {l a b : Int} {L T : List Nd} (h : Std l L T) (hr : RollC l L) (hT : BagC l T) (gL : ∀ n ∈ L, 1 ≤ n.2) (gT : ∀ n ∈ T, 1 ≤ n.2) (hne : L ≠ []) (a1 : ∀ n ∈ T, a ≤ n.1) (a2 : ∃ n ∈ T, n.1 = a) (b1 : ∀ n ∈ T, n.1 ≤ b) (b2 : ∃ n ∈ T, n.1 = b) :
    boMn (loN l) L ≤ a ∧ a ≤ boMn (hiN l) L ∧ boMx (loN l) L ≤ b ∧ b ≤ boMx (hiN l) L := by
  have v0 : ∀ n ∈ T, 0 ≤ n.1 := fun n hn => (hT.val n hn).2.2.1
  have R := fun y => std_rank (y := y) h hr hT
  have W := fun y => boBet_wt v0 y
  obtain ⟨m1, m2, m3, n, hn, m4⟩ := boMn_is hr hne
  obtain ⟨x1, ⟨p, hp, x2⟩, x3, x4⟩ := boMx_is hr hne
  obtain ⟨ta, hta, ea⟩ := a2
  obtain ⟨tb, htb, eb⟩ := b2
  refine ⟨?_, ?_, ?_, ?_⟩
  · have r := (R a).2
    have t := boWt_pos (P := fun v => decide (v ≤ a)) gT ⟨ta, hta, decide_eq_true (by omega)⟩
    rw [W] at r
    rw [high_wtE] at r
    obtain ⟨k, hk, h1, _⟩ := wtE_at (e := loN l) (L := L) (z := a) (by omega)
    exact Int.le_trans (m1 k hk) h1
  · rcases Int.lt_or_le (boMn (hiN l) L) a with q | q
    · exfalso
      have r := (R (boMn (hiN l) L)).1
      rw [W, boWt_zero (fun t ht => decide_eq_false (by have := a1 t ht; omega))] at r
      have t := boWt_pos (P := fun v => decide (hiN l v ≤ boMn (hiN l) L)) gL ⟨n, hn, decide_eq_true (by omega)⟩
      have e : wtF (fun v => decide (hiN l v ≤ boMn (hiN l) L)) L = lowR l L (boMn (hiN l) L) := rfl
      omega
    · exact q
  · rcases Int.lt_or_le b (boMx (loN l) L) with q | q
    · exfalso
      have r := (R b).2
      have f := wtF_not (fun v => decide (v ≤ b)) T
      rw [boWt_zero (P := fun v => !(decide (v ≤ b))) (fun t ht => by simp [b1 t ht])] at f
      rw [W] at r
      have g := wtF_not (fun v => decide (loN l v ≤ b)) L
      have t := boWt_pos (P := fun v => !(decide (loN l v ≤ b))) gL ⟨p, hp, by simp; omega⟩
      have e : wtF (fun v => decide (loN l v ≤ b)) L = highR l L b := rfl
      have := h.tot
      omega
    · exact q
  · rcases Int.lt_or_le (boMx (hiN l) L) b with q | q
    · exfalso
      have r := (R (boMx (hiN l) L)).1
      have f := wtF_not (fun v => decide (v ≤ boMx (hiN l) L)) T
      have t := boWt_pos (P := fun v => !(decide (v ≤ boMx (hiN l) L))) gT ⟨tb, htb, by simp; omega⟩
      rw [W] at r
      have g := wtF_not (fun v => decide (hiN l v ≤ boMx (hiN l) L)) L
      rw [boWt_zero (P := fun v => !(decide (hiN l v ≤ boMx (hiN l) L))) (fun t ht => by simp [x3 t ht])] at g
      have e : wtF (fun v => decide (hiN l v ≤ boMx (hiN l) L)) L = lowR l L (boMx (hiN l) L) := rfl
      have := h.tot
      omega
    · exact q
/-- the mean of the values is within the means told -/
theorem bo_mean {l : Int} {L T : List Nd} (h : Std l L T) (hr : RollC l L) (hT : BagC l T) (hz : 1 ≤ sumC T) :
    suF (loN l) L / sumC L ≤ suF (fun v => v) T / sumC T ∧ suF (fun v => v) T / sumC T ≤ suF (hiN l) L / sumC L := by
  have s := std_sum h hr hT
  rw [h.tot]
  exact ⟨Int.ediv_le_ediv (by omega) s.1, Int.ediv_le_ediv (by omega) s.2⟩

end Go.Proofs.YtkoefclkpdpdpaaGreat
