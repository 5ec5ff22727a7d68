/- Texts laid together: BlNum, BlNum2, BlMrg. -/
import Derived.Test.YtkhacpapkalkiaaGreatDgN
/- Plain facts of layer blend: digests lowered and merged. No program is spoken of here. -/
namespace Go.Proofs.YtkhacpapkalkiaaGreat
set_option linter.unusedVariables false

theorem wt_zero {P : Int → Bool} {X : List Nd} (h : NonNeg X) (h0 : ∀ i, sumAt i X = 0) : wtF P X = 0 := by
  induction X with
  | nil => rfl
  | cons n X ih =>
    have nn : NonNeg X := fun m hm => h m (by simp [hm])
    have p := h n (by simp)
    have a := h0 n.1
    rw [sumAt, if_pos rfl] at a
    have b := (sum_le nn n.1).1
    have c : n.2 = 0 := by omega
    rw [wtF, c, ih nn fun i => by
      have q := h0 i
      rw [sumAt, c] at q
      split at q <;> omega]
    split <;> rfl
theorem rem_nn {X : List Nd} (h : NonNeg X) (a : Int) : NonNeg (remW X a) := fun n hn => h n (rem_mem hn)
/-- what weighs as much at each node weighs as much -/
theorem wt_same {P : Int → Bool} {F : List Nd} : ∀ {X : List Nd}, Good F → NonNeg X → (∀ i, sumAt i F = sumAt i X) → wtF P F = wtF P X := by
  induction F with
  | nil =>
    intro X _ hX h
    exact (wt_zero hX fun i => (h i).symm).symm
  | cons n F ih =>
    intro X hF hX h
    have g := nd_tail hF
    have q0 := (List.pairwise_cons.1 hF.ids).1
    have z : sumAt n.1 F = 0 := good_none fun m hm => by have := q0 m hm; omega
    have a := ih (X := remW X n.1) g (rem_nn hX n.1) fun i => by
      rw [rem_sum]
      by_cases e : n.1 = i
      · rw [if_pos e, ← e]; exact z
      · rw [if_neg e, ← h i, sumAt, if_neg e]; omega
    have b := h n.1
    rw [sumAt, if_pos rfl, z] at b
    rw [wtF_rem, ← b] at a
    rw [wtF, a]
    split <;> omega
theorem tot_same {F X : List Nd} (hF : Good F) (hX : NonNeg X) (h : ∀ i, sumAt i F = sumAt i X) : sumC F = sumC X := by
  rw [← wtF_all, ← wtF_all]; exact wt_same hF hX h
theorem ediv_anti {n a b : Int} (hn : 0 ≤ n) (hb : 1 ≤ b) (h : b ≤ a) : n / a ≤ n / b := by
  refine Int.le_ediv_of_mul_le (by omega) ?_
  have q0 : 0 ≤ n / a := Int.ediv_nonneg hn (by omega)
  have q1 := Int.mul_le_mul_of_nonneg_left h q0
  have q2 := Int.mul_ediv_add_emod n a
  have q3 := Int.emod_nonneg n (show a ≠ 0 by omega)
  rw [Int.mul_comm a] at q2
  omega
theorem ediv_add {m n k : Int} (hk : 1 ≤ k) : m / k + n / k ≤ (m + n) / k := by
  refine Int.le_ediv_of_mul_le (by omega) ?_
  have a := Int.mul_ediv_add_emod m k
  have b := Int.mul_ediv_add_emod n k
  have c := Int.emod_nonneg m (show k ≠ 0 by omega)
  have d := Int.emod_nonneg n (show k ≠ 0 by omega)
  rw [Int.mul_comm k] at a b
  rw [Int.add_mul]
  omega
theorem dg_tot {l k : Int} {L T : List Nd} (h : DgC l k L T) : 0 ≤ sumC L := by
  have nn := good_nonneg (roll_good h.roll)
  exact Int.le_trans (sum_le nn 0).1 (sum_le nn 0).2
/-- folded for a lesser k -/
theorem dg_lower {l k k2 : Int} {L M T : List Nd} {j : Nat} (h : DgC l k L T) (h1 : 1 ≤ k2) (h2 : k2 ≤ k) (p : Pressed l (sumC L / k2) L M j) : DgC l k2 M T ∧ (M.length : Int) ≤ 4 * k2 - 1 ∧ sumC M = sumC L := by
  have q := pressed_few h.roll h1 p
  have c := ediv_anti (dg_tot h) h1 h2
  have li : LightC l (sumC L / k2) L := fun n hn hk => Int.le_trans (h.light n hn hk) c
  refine ⟨⟨h1, q.2.2.1, by omega, ?_, h.bag, ?_⟩, q.1, q.2.2.2⟩
  · rw [q.2.2.2, p.is]; exact light_pre h.roll p.live li
  · rw [p.is]; exact std_pre h.std h.roll p.live
/-- both added up -/
theorem dg_merge {l k : Int} {M N F T U V : List Nd} (a : DgC l k M T) (b : DgC l k N U) (la : (M.length : Int) ≤ 4 * k - 1) (lb : (N.length : Int) ≤ 4 * k - 1)
    (hF : RollC l F) (sF : ∀ i, sumAt i F = sumAt i (M ++ N)) (nF : F.length ≤ M.length + N.length) (hV : BagC l V) (sV : ∀ i, sumAt i V = sumAt i (T ++ U)) : DgC l k F V ∧ (F.length : Int) ≤ 8 * k - 2 ∧ sumC F = sumC M + sumC N := by
  have na : NonNeg (M ++ N) := fun n hn => by
    rcases List.mem_append.1 hn with q | q
    · exact good_nonneg (roll_good a.roll) n q
    · exact good_nonneg (roll_good b.roll) n q
  have nv : NonNeg (T ++ U) := fun n hn => by
    rcases List.mem_append.1 hn with q | q
    · exact good_nonneg a.bag.good n q
    · exact good_nonneg b.bag.good n q
  have gF := roll_good hF
  have tF : sumC F = sumC M + sumC N := by rw [tot_same gF na sF, sumC_app]
  have tV : sumC V = sumC T + sumC U := by rw [tot_same hV.good nv sV, sumC_app]
  refine ⟨⟨a.kk, hF, by omega, fun n hn hk => ?_, hV, ⟨by rw [tF, tV, a.std.tot, b.std.tot], fun P hP => ?_⟩⟩, by omega, tF⟩
  · have e := good_mem gF hn
    rw [sF, sumAt_app] at e
    have key : ∀ {X Y : List Nd}, DgC l k X Y → sumAt n.1 X ≤ sumC X / k := fun {X Y} d => by
      by_cases z : sumAt n.1 X = 0
      · have := Int.ediv_nonneg (dg_tot d) (show 0 ≤ k by have := d.kk; omega)
        omega
      · obtain ⟨m, hm, q⟩ := sum_mem z
        have g := good_mem (roll_good d.roll) hm
        rw [q] at g
        rw [g]
        exact d.light m hm (by rw [q]; exact hk)
    have x := key a
    have y := key b
    have c := ediv_add (m := sumC M) (n := sumC N) a.kk
    rw [tF]
    omega
  · rw [wt_same gF na sF, wt_same hV.good nv sV, wtF_app, wtF_app]
    have := a.std.low P hP
    have := b.std.low P hP
    omega

end Go.Proofs.YtkhacpapkalkiaaGreat

/- Plain facts of layer blend: two rolls put together, as a function; a digest's list lowered and merged. No program is spoken of here. -/
namespace Go.Proofs.YtkhacpapkalkiaaGreat
set_option linter.unusedVariables false

/-- the nodes of one list put into another one -/
def mrgW (P Q : List Nd) : List Nd := Q.foldl (fun F n => insW F n.1 n.2) P
theorem bmg_nil (P : List Nd) : mrgW P [] = P := rfl
theorem bmg_cons (P Q : List Nd) (n : Nd) : mrgW P (n :: Q) = mrgW (insW P n.1 n.2) Q := rfl
theorem bmg_sum (i : Int) : ∀ (Q P : List Nd), sumAt i (mrgW P Q) = sumAt i P + sumAt i Q := by
  intro Q
  induction Q with
  | nil => intro P; simp [bmg_nil, sumAt]
  | cons n Q ih =>
    intro P
    rw [bmg_cons, ih, insW_sum]
    simp only [sumAt]
    split <;> omega
theorem bmg_tot : ∀ (Q P : List Nd), sumC (mrgW P Q) = sumC P + sumC Q := by
  intro Q
  induction Q with
  | nil => intro P; simp [bmg_nil, sumC]
  | cons n Q ih => intro P; rw [bmg_cons, ih, insW_tot]; simp only [sumC]; omega
theorem bmg_good : ∀ (Q P : List Nd), Good P → (∀ n ∈ Q, 1 ≤ n.2) → Good (mrgW P Q) := by
  intro Q
  induction Q with
  | nil => intro P h _; exact h
  | cons n Q ih => intro P h hq; rw [bmg_cons]; exact ih _ (insW_good h (hq n (by simp))) fun m hm => hq m (by simp [hm])
theorem bmg_len : ∀ (Q P : List Nd), Good P → (∀ n ∈ Q, 1 ≤ n.2) → (mrgW P Q).length ≤ P.length + Q.length := by
  intro Q
  induction Q with
  | nil => intro P _ _; simp [bmg_nil]
  | cons n Q ih =>
    intro P h hq
    rw [bmg_cons]
    have a := ih _ (insW_good (id := n.1) h (hq n (by simp))) fun m hm => hq m (by simp [hm])
    have b := insW_len (id := n.1) (c := n.2) h
    simp only [List.length_cons]
    split at b <;> omega
theorem bmg_roll {l : Int} : ∀ (Q P : List Nd), RollC l P → RollC l Q → sumC P + sumC Q ≤ 72057594037927935 → RollC l (mrgW P Q) := by
  intro Q
  induction Q with
  | nil => intro P h _ _; exact h
  | cons n Q ih =>
    intro P h hq ht
    have hn := hq.2.2.1 n (by simp)
    have gq := good_nonneg (roll_good hq)
    have tq : 0 ≤ sumC Q := sumC_nonneg fun m hm => gq m (by simp [hm])
    simp only [sumC] at ht
    have ea : addW P n.1 n.2 = insW P n.1 n.2 := if_neg (by omega)
    have r := roll_add h hn.1 (show 0 ≤ n.2 by omega) (by omega)
    rw [ea] at r
    rw [bmg_cons]
    refine ih _ r ⟨hq.1, (List.pairwise_cons.1 hq.2.1).2, fun m hm => hq.2.2.1 m (by simp [hm]), fun m hm => gq m (by simp [hm]), ?_⟩ (by rw [insW_tot]; omega)
    have := hq.2.2.2.2
    simp only [sumC] at this
    omega
/-- two rolls have one sum, however they are put together -/
theorem bmg_uniq {l : Int} {P Q F : List Nd} (hP : RollC l P) (hQ : RollC l Q) (hF : Good F) (h : ∀ i, sumAt i F = sumAt i (P ++ Q)) : F = mrgW P Q :=
  good_uniq _ _ hF (bmg_good Q P (roll_good hP) fun n hn => (hQ.2.2.1 n hn).2) fun i => by rw [h, bmg_sum, sumAt_app]
theorem bmg_comm {l : Int} {P Q : List Nd} (hP : RollC l P) (hQ : RollC l Q) : mrgW P Q = mrgW Q P :=
  bmg_uniq hQ hP (bmg_good Q P (roll_good hP) fun n hn => (hQ.2.2.1 n hn).2) fun i => by rw [bmg_sum, sumAt_app]; omega
theorem fold_mrg {l : Int} {P Q F : List Nd} (hP : RollC l P) (hQ : RollC l Q) (h : FoldOf (P ++ Q) F) : F = mrgW P Q := by
  have i := h.inv fun n hn => by
    rcases List.mem_append.1 hn with q | q
    · exact good_nonneg (roll_good hP) n q
    · exact good_nonneg (roll_good hQ) n q
  exact bmg_uniq hP hQ i.good i.at_
/-- lowered -/
theorem dgV_lower {l k0 k : Int} {L : List Nd} (v : DgV l k0 L) (h1 : 1 ≤ k) (h2 : k ≤ k0) : DgV l k (pressW l k L) ∧ ((pressW l k L).length : Int) ≤ 4 * k - 1 ∧ (pressW l k L).length ≤ L.length ∧ sumC (pressW l k L) = sumC L := by
  have p := pressed_fun k v.roll
  have q := pressed_few v.roll h1 p
  have s0 : 0 ≤ sumC L := sumC_nonneg (good_nonneg (roll_good v.roll))
  have li : LightC l (sumC L / k) L := fun n hn hk => Int.le_trans (v.light n hn hk) (ediv_anti s0 h1 h2)
  have k2 := v.k2
  refine ⟨⟨h1, by omega, q.2.2.1, by have := q.1; omega, ?_⟩, q.1, q.2.1, q.2.2.2⟩
  rw [q.2.2.2]
  exact light_pre v.roll p.live li
/-- merged -/
theorem dgV_merge {l k : Int} {P Q : List Nd} (a : DgV l k P) (b : DgV l k Q) (la : (P.length : Int) ≤ 4 * k - 1) (lb : (Q.length : Int) ≤ 4 * k - 1) (ht : sumC P + sumC Q ≤ 72057594037927935) :
    DgV l k (mrgW P Q) ∧ ((mrgW P Q).length : Int) ≤ 8 * k - 2 ∧ sumC (mrgW P Q) = sumC P + sumC Q ∧ (mrgW P Q).length ≤ P.length + Q.length := by
  have gp := roll_good a.roll
  have gq := roll_good b.roll
  have len := bmg_len Q P gp gq.pos
  have roll := bmg_roll Q P a.roll b.roll ht
  have tot := bmg_tot Q P
  refine ⟨⟨a.k1, a.k2, roll, by omega, fun n hn hk => ?_⟩, by omega, tot, len⟩
  have e := good_mem (roll_good roll) hn
  rw [bmg_sum] at e
  have key : ∀ {X : List Nd}, DgV l k X → sumAt n.1 X ≤ sumC X / k := fun {X} d => by
    by_cases z : sumAt n.1 X = 0
    · have := Int.ediv_nonneg (sumC_nonneg (good_nonneg (roll_good d.roll))) (show 0 ≤ k by have := d.k1; omega)
      omega
    · obtain ⟨m, hm, q⟩ := sum_mem z
      have g := good_mem (roll_good d.roll) hm
      rw [q] at g
      rw [g]
      exact d.light m hm (by rw [q]; exact hk)
  have x := key a
  have y := key b
  have c := ediv_add (m := sumC P) (n := sumC Q) a.k1
  rw [tot]
  omega

end Go.Proofs.YtkhacpapkalkiaaGreat

/- Plain facts of layer blend: two digests merged, as functions of their lists. No program is spoken of here. -/
namespace Go.Proofs.YtkhacpapkalkiaaGreat
set_option linter.unusedVariables false

/-- why two digests are not merged; 0: they are -/
def bmgE (la lb : Int) (L M : List Nd) : Int := if la = lb then (if 72057594037927935 < sumC L + sumC M then 5 else 0) else 6
def bmgK (ka kb : Int) : Int := if kb < ka then kb else ka
def bmgL (l k : Int) (L M : List Nd) : List Nd := mrgW (pressW l k L) (pressW l k M)
theorem bmgE_shape {la lb : Int} {L M : List Nd} (h : ¬ la = lb) : bmgE la lb L M = 6 := if_neg h
theorem bmgE_full {l : Int} {L M : List Nd} (h : 72057594037927935 < sumC L + sumC M) : bmgE l l L M = 5 := by unfold bmgE; rw [if_pos rfl, if_pos h]
theorem bmgE_ok {l : Int} {L M : List Nd} (h : ¬ 72057594037927935 < sumC L + sumC M) : bmgE l l L M = 0 := by unfold bmgE; rw [if_pos rfl, if_neg h]
theorem bmgK_le (ka kb : Int) : bmgK ka kb ≤ ka ∧ bmgK ka kb ≤ kb ∧ (1 ≤ ka → 1 ≤ kb → 1 ≤ bmgK ka kb) := by unfold bmgK; split <;> omega
theorem dgV_bmg {l ka kb : Int} {L M : List Nd} (a : DgV l ka L) (b : DgV l kb M) (h : ¬ 72057594037927935 < sumC L + sumC M) :
    DgV l (bmgK ka kb) (bmgL l (bmgK ka kb) L M) ∧ sumC (bmgL l (bmgK ka kb) L M) = sumC L + sumC M ∧ (bmgL l (bmgK ka kb) L M).length ≤ L.length + M.length ∧ ((bmgL l (bmgK ka kb) L M).length : Int) ≤ 8 * bmgK ka kb - 2 := by
  obtain ⟨k1, k2, k3⟩ := bmgK_le ka kb
  have x := dgV_lower a (k3 a.k1 b.k1) k1
  have y := dgV_lower b (k3 a.k1 b.k1) k2
  have z := dgV_merge x.1 y.1 x.2.1 y.2.1 (by rw [x.2.2.2, y.2.2.2]; omega)
  exact ⟨z.1, by unfold bmgL; rw [z.2.2.1, x.2.2.2, y.2.2.2], by unfold bmgL; have := z.2.2.2; have := x.2.2.1; have := y.2.2.1; omega, z.2.1⟩
theorem bmgL_eq (l k : Int) (L M : List Nd) : bmgL l k L M = mrgW (pressW l k L) (pressW l k M) := rfl

end Go.Proofs.YtkhacpapkalkiaaGreat
