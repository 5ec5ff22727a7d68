/- Texts laid together: BlNum, BlNum2, BlMrg, RcNum, RcNum2, RcNum3. -/
import Derived.Test.YtkoefclkpdpdpaaGreatDgN
/- Plain facts of layer blend: digests lowered and merged. No program is spoken of here. -/
namespace Go.Proofs.YtkoefclkpdpdpaaGreat
set_option linter.unusedVariables false

theorem wt_zero {P : Int → Bool} {X : List Nd} (h : NonNeg X) (h0 : ∀ i, sumAt i X = 0) : wtF P X = 0 := by
  induction X with
  | nil => rfl
  | cons n X ih =>
    have nn : NonNeg X := fun m hm => h m (by simp [hm])
    have p := h n (by simp)
    have a := h0 n.1
    rw [sumAt, if_pos rfl] at a
    have b := (sum_le nn n.1).1
    have c : n.2 = 0 := by omega
    rw [wtF, c, ih nn fun i => by
      have q := h0 i
      rw [sumAt, c] at q
      split at q <;> omega]
    split <;> rfl
theorem rem_nn {X : List Nd} (h : NonNeg X) (a : Int) : NonNeg (remW X a) := fun n hn => h n (rem_mem hn)
/-- what weighs as much at each node weighs as much -/
theorem wt_same {P : Int → Bool} {F : List Nd} : ∀ {X : List Nd}, Good F → NonNeg X → (∀ i, sumAt i F = sumAt i X) → wtF P F = wtF P X := by
  induction F with
  | nil =>
    intro X _ hX h
    exact (wt_zero hX fun i => (h i).symm).symm
  | cons n F ih =>
    intro X hF hX h
    have g := nd_tail hF
    have q0 := (List.pairwise_cons.1 hF.ids).1
    have z : sumAt n.1 F = 0 := good_none fun m hm => by have := q0 m hm; omega
    have a := ih (X := remW X n.1) g (rem_nn hX n.1) fun i => by
      rw [rem_sum]
      by_cases e : n.1 = i
      · rw [if_pos e, ← e]; exact z
      · rw [if_neg e, ← h i, sumAt, if_neg e]; omega
    have b := h n.1
    rw [sumAt, if_pos rfl, z] at b
    rw [wtF_rem, ← b] at a
    rw [wtF, a]
    split <;> omega
theorem tot_same {F X : List Nd} (hF : Good F) (hX : NonNeg X) (h : ∀ i, sumAt i F = sumAt i X) : sumC F = sumC X := by
  rw [← wtF_all, ← wtF_all]; exact wt_same hF hX h
theorem ediv_anti {n a b : Int} (hn : 0 ≤ n) (hb : 1 ≤ b) (h : b ≤ a) : n / a ≤ n / b := by
  refine Int.le_ediv_of_mul_le (by omega) ?_
  have q0 : 0 ≤ n / a := Int.ediv_nonneg hn (by omega)
  have q1 := Int.mul_le_mul_of_nonneg_left h q0
  have q2 := Int.mul_ediv_add_emod n a
  have q3 := Int.emod_nonneg n (show a ≠ 0 by omega)
  rw [Int.mul_comm a] at q2
  omega
theorem ediv_add {m n k : Int} (hk : 1 ≤ k) : m / k + n / k ≤ (m + n) / k := by
  refine Int.le_ediv_of_mul_le (by omega) ?_
  have a := Int.mul_ediv_add_emod m k
  have b := Int.mul_ediv_add_emod n k
  have c := Int.emod_nonneg m (show k ≠ 0 by omega)
  have d := Int.emod_nonneg n (show k ≠ 0 by omega)
  rw [Int.mul_comm k] at a b
  rw [Int.add_mul]
  omega
theorem dg_tot {l k : Int} {L T : List Nd} (h : DgC l k L T) : 0 ≤ sumC L := by
  have nn := good_nonneg (roll_good h.roll)
  exact Int.le_trans (sum_le nn 0).1 (sum_le nn 0).2
/-- folded for a lesser k -/
theorem dg_lower {l k k2 : Int} {L M T : List Nd} {j : Nat} (h : DgC l k L T) (h1 : 1 ≤ k2) (h2 : k2 ≤ k) (p : Pressed l (sumC L / k2) L M j) : DgC l k2 M T ∧ (M.length : Int) ≤ 4 * k2 - 1 ∧ sumC M = sumC L := by
  have q := pressed_few h.roll h1 p
  have c := ediv_anti (dg_tot h) h1 h2
  have li : LightC l (sumC L / k2) L := fun n hn hk => Int.le_trans (h.light n hn hk) c
  refine ⟨⟨h1, q.2.2.1, by omega, ?_, h.bag, ?_⟩, q.1, q.2.2.2⟩
  · rw [q.2.2.2, p.is]; exact light_pre h.roll p.live li
  · rw [p.is]; exact std_pre h.std h.roll p.live
/-- both added up -/
theorem dg_merge {l k : Int} {M N F T U V : List Nd} (a : DgC l k M T) (b : DgC l k N U) (la : (M.length : Int) ≤ 4 * k - 1) (lb : (N.length : Int) ≤ 4 * k - 1)
    (hF : RollC l F) (sF : ∀ i, sumAt i F = sumAt i (M ++ N)) (nF : F.length ≤ M.length + N.length) (hV : BagC l V) (sV : ∀ i, sumAt i V = sumAt i (T ++ U)) : DgC l k F V ∧ (F.length : Int) ≤ 8 * k - 2 ∧ sumC F = sumC M + sumC N := by
  have na : NonNeg (M ++ N) := fun n hn => by
    rcases List.mem_append.1 hn with q | q
    · exact good_nonneg (roll_good a.roll) n q
    · exact good_nonneg (roll_good b.roll) n q
  have nv : NonNeg (T ++ U) := fun n hn => by
    rcases List.mem_append.1 hn with q | q
    · exact good_nonneg a.bag.good n q
    · exact good_nonneg b.bag.good n q
  have gF := roll_good hF
  have tF : sumC F = sumC M + sumC N := by rw [tot_same gF na sF, sumC_app]
  have tV : sumC V = sumC T + sumC U := by rw [tot_same hV.good nv sV, sumC_app]
  refine ⟨⟨a.kk, hF, by omega, fun n hn hk => ?_, hV, ⟨by rw [tF, tV, a.std.tot, b.std.tot], fun P hP => ?_⟩⟩, by omega, tF⟩
  · have e := good_mem gF hn
    rw [sF, sumAt_app] at e
    have key : ∀ {X Y : List Nd}, DgC l k X Y → sumAt n.1 X ≤ sumC X / k := fun {X Y} d => by
      by_cases z : sumAt n.1 X = 0
      · have := Int.ediv_nonneg (dg_tot d) (show 0 ≤ k by have := d.kk; omega)
        omega
      · obtain ⟨m, hm, q⟩ := sum_mem z
        have g := good_mem (roll_good d.roll) hm
        rw [q] at g
        rw [g]
        exact d.light m hm (by rw [q]; exact hk)
    have x := key a
    have y := key b
    have c := ediv_add (m := sumC M) (n := sumC N) a.kk
    rw [tF]
    omega
  · rw [wt_same gF na sF, wt_same hV.good nv sV, wtF_app, wtF_app]
    have := a.std.low P hP
    have := b.std.low P hP
    omega

end Go.Proofs.YtkoefclkpdpdpaaGreat

/- Plain facts of layer blend: two rolls put together, as a function; a digest's list lowered and merged. No program is spoken of here. -/
namespace Go.Proofs.YtkoefclkpdpdpaaGreat
set_option linter.unusedVariables false

/-- the nodes of one list put into another one -/
def mrgW (P Q : List Nd) : List Nd := Q.foldl (fun F n => insW F n.1 n.2) P
theorem bmg_nil (P : List Nd) : mrgW P [] = P := rfl
theorem bmg_cons (P Q : List Nd) (n : Nd) : mrgW P (n :: Q) = mrgW (insW P n.1 n.2) Q := rfl
theorem bmg_sum (i : Int) : ∀ (Q P : List Nd), sumAt i (mrgW P Q) = sumAt i P + sumAt i Q := by
  intro Q
  induction Q with
  | nil => intro P; simp [bmg_nil, sumAt]
  | cons n Q ih =>
    intro P
    rw [bmg_cons, ih, insW_sum]
    simp only [sumAt]
    split <;> omega
theorem bmg_tot : ∀ (Q P : List Nd), sumC (mrgW P Q) = sumC P + sumC Q := by
  intro Q
  induction Q with
  | nil => intro P; simp [bmg_nil, sumC]
  | cons n Q ih => intro P; rw [bmg_cons, ih, insW_tot]; simp only [sumC]; omega
theorem bmg_good : ∀ (Q P : List Nd), Good P → (∀ n ∈ Q, 1 ≤ n.2) → Good (mrgW P Q) := by
  intro Q
  induction Q with
  | nil => intro P h _; exact h
  | cons n Q ih => intro P h hq; rw [bmg_cons]; exact ih _ (insW_good h (hq n (by simp))) fun m hm => hq m (by simp [hm])
theorem bmg_len : ∀ (Q P : List Nd), Good P → (∀ n ∈ Q, 1 ≤ n.2) → (mrgW P Q).length ≤ P.length + Q.length := by
  intro Q
  induction Q with
  | nil => intro P _ _; simp [bmg_nil]
  | cons n Q ih =>
    intro P h hq
    rw [bmg_cons]
    have a := ih _ (insW_good (id := n.1) h (hq n (by simp))) fun m hm => hq m (by simp [hm])
    have b := insW_len (id := n.1) (c := n.2) h
    simp only [List.length_cons]
    split at b <;> omega
theorem bmg_roll {l : Int} : ∀ (Q P : List Nd), RollC l P → RollC l Q → sumC P + sumC Q ≤ 72057594037927935 → RollC l (mrgW P Q) := by
  intro Q
  induction Q with
  | nil => intro P h _ _; exact h
  | cons n Q ih =>
    intro P h hq ht
    have hn := hq.2.2.1 n (by simp)
    have gq := good_nonneg (roll_good hq)
    have tq : 0 ≤ sumC Q := sumC_nonneg fun m hm => gq m (by simp [hm])
    simp only [sumC] at ht
    have ea : addW P n.1 n.2 = insW P n.1 n.2 := if_neg (by omega)
    have r := roll_add h hn.1 (show 0 ≤ n.2 by omega) (by omega)
    rw [ea] at r
    rw [bmg_cons]
    refine ih _ r ⟨hq.1, (List.pairwise_cons.1 hq.2.1).2, fun m hm => hq.2.2.1 m (by simp [hm]), fun m hm => gq m (by simp [hm]), ?_⟩ (by rw [insW_tot]; omega)
    have := hq.2.2.2.2
    simp only [sumC] at this
    omega
/-- two rolls have one sum, however they are put together -/
theorem bmg_uniq {l : Int} {P Q F : List Nd} (hP : RollC l P) (hQ : RollC l Q) (hF : Good F) (h : ∀ i, sumAt i F = sumAt i (P ++ Q)) : F = mrgW P Q :=
  good_uniq _ _ hF (bmg_good Q P (roll_good hP) fun n hn => (hQ.2.2.1 n hn).2) fun i => by rw [h, bmg_sum, sumAt_app]
theorem bmg_comm {l : Int} {P Q : List Nd} (hP : RollC l P) (hQ : RollC l Q) : mrgW P Q = mrgW Q P :=
  bmg_uniq hQ hP (bmg_good Q P (roll_good hP) fun n hn => (hQ.2.2.1 n hn).2) fun i => by rw [bmg_sum, sumAt_app]; omega
theorem fold_mrg {l : Int} {P Q F : List Nd} (hP : RollC l P) (hQ : RollC l Q) (h : FoldOf (P ++ Q) F) : F = mrgW P Q := by
  have i := h.inv fun n hn => by
    rcases List.mem_append.1 hn with q | q
    · exact good_nonneg (roll_good hP) n q
    · exact good_nonneg (roll_good hQ) n q
  exact bmg_uniq hP hQ i.good i.at_
/-- lowered -/
theorem dgV_lower {l k0 k : Int} {L : List Nd} (v : DgV l k0 L) (h1 : 1 ≤ k) (h2 : k ≤ k0) : DgV l k (pressW l k L) ∧ ((pressW l k L).length : Int) ≤ 4 * k - 1 ∧ (pressW l k L).length ≤ L.length ∧ sumC (pressW l k L) = sumC L := by
  have p := pressed_fun k v.roll
  have q := pressed_few v.roll h1 p
  have s0 : 0 ≤ sumC L := sumC_nonneg (good_nonneg (roll_good v.roll))
  have li : LightC l (sumC L / k) L := fun n hn hk => Int.le_trans (v.light n hn hk) (ediv_anti s0 h1 h2)
  have k2 := v.k2
  refine ⟨⟨h1, by omega, q.2.2.1, by have := q.1; omega, ?_⟩, q.1, q.2.1, q.2.2.2⟩
  rw [q.2.2.2]
  exact light_pre v.roll p.live li
/-- merged -/
theorem dgV_merge {l k : Int} {P Q : List Nd} (a : DgV l k P) (b : DgV l k Q) (la : (P.length : Int) ≤ 4 * k - 1) (lb : (Q.length : Int) ≤ 4 * k - 1) (ht : sumC P + sumC Q ≤ 72057594037927935) :
    DgV l k (mrgW P Q) ∧ ((mrgW P Q).length : Int) ≤ 8 * k - 2 ∧ sumC (mrgW P Q) = sumC P + sumC Q ∧ (mrgW P Q).length ≤ P.length + Q.length := by
  have gp := roll_good a.roll
  have gq := roll_good b.roll
  have len := bmg_len Q P gp gq.pos
  have roll := bmg_roll Q P a.roll b.roll ht
  have tot := bmg_tot Q P
  refine ⟨⟨a.k1, a.k2, roll, by omega, fun n hn hk => ?_⟩, by omega, tot, len⟩
  have e := good_mem (roll_good roll) hn
  rw [bmg_sum] at e
  have key : ∀ {X : List Nd}, DgV l k X → sumAt n.1 X ≤ sumC X / k := fun {X} d => by
    by_cases z : sumAt n.1 X = 0
    · have := Int.ediv_nonneg (sumC_nonneg (good_nonneg (roll_good d.roll))) (show 0 ≤ k by have := d.k1; omega)
      omega
    · obtain ⟨m, hm, q⟩ := sum_mem z
      have g := good_mem (roll_good d.roll) hm
      rw [q] at g
      rw [g]
      exact d.light m hm (by rw [q]; exact hk)
  have x := key a
  have y := key b
  have c := ediv_add (m := sumC P) (n := sumC Q) a.k1
  rw [tot]
  omega

end Go.Proofs.YtkoefclkpdpdpaaGreat

/- Plain facts of layer blend: two digests merged, as functions of their lists. No program is spoken of here. -/
namespace Go.Proofs.YtkoefclkpdpdpaaGreat
set_option linter.unusedVariables false

/-- why two digests are not merged; 0: they are -/
def bmgE (la lb : Int) (L M : List Nd) : Int := if la = lb then (if 72057594037927935 < sumC L + sumC M then 5 else 0) else 6
def bmgK (ka kb : Int) : Int := if kb < ka then kb else ka
def bmgL (l k : Int) (L M : List Nd) : List Nd := mrgW (pressW l k L) (pressW l k M)
theorem bmgE_shape {la lb : Int} {L M : List Nd} (h : ¬ la = lb) : bmgE la lb L M = 6 := if_neg h
theorem bmgE_full {l : Int} {L M : List Nd} (h : 72057594037927935 < sumC L + sumC M) : bmgE l l L M = 5 := by unfold bmgE; rw [if_pos rfl, if_pos h]
theorem bmgE_ok {l : Int} {L M : List Nd} (h : ¬ 72057594037927935 < sumC L + sumC M) : bmgE l l L M = 0 := by unfold bmgE; rw [if_pos rfl, if_neg h]
theorem bmgK_le (ka kb : Int) : bmgK ka kb ≤ ka ∧ bmgK ka kb ≤ kb ∧ (1 ≤ ka → 1 ≤ kb → 1 ≤ bmgK ka kb) := by unfold bmgK; split <;> omega
theorem dgV_bmg {l ka kb : Int} {L M : List Nd} (a : DgV l ka L) (b : DgV l kb M) (h : ¬ 72057594037927935 < sumC L + sumC M) :
    DgV l (bmgK ka kb) (bmgL l (bmgK ka kb) L M) ∧ sumC (bmgL l (bmgK ka kb) L M) = sumC L + sumC M ∧ (bmgL l (bmgK ka kb) L M).length ≤ L.length + M.length ∧ ((bmgL l (bmgK ka kb) L M).length : Int) ≤ 8 * bmgK ka kb - 2 := by
  obtain ⟨k1, k2, k3⟩ := bmgK_le ka kb
  have x := dgV_lower a (k3 a.k1 b.k1) k1
  have y := dgV_lower b (k3 a.k1 b.k1) k2
  have z := dgV_merge x.1 y.1 x.2.1 y.2.1 (by rw [x.2.2.2, y.2.2.2]; omega)
  exact ⟨z.1, by unfold bmgL; rw [z.2.2.1, x.2.2.2, y.2.2.2], by unfold bmgL; have := z.2.2.2; have := x.2.2.1; have := y.2.2.1; omega, z.2.1⟩
theorem bmgL_eq (l k : Int) (L M : List Nd) : bmgL l k L M = mrgW (pressW l k L) (pressW l k M) := rfl

end Go.Proofs.YtkoefclkpdpdpaaGreat

/- Plain facts of layer recast: digests of a greater universe, and without some bits of their values. No program is spoken of here. -/
namespace Go.Proofs.YtkoefclkpdpdpaaGreat
set_option linter.unusedVariables false

def mapN (g : Int → Int) (L : List Nd) : List Nd := L.map fun n => (g n.1, n.2)
theorem wt_map (P : Int → Bool) (g : Int → Int) (L : List Nd) : wtF P (mapN g L) = wtF (fun n => P (g n)) L := by
  induction L with
  | nil => rfl
  | cons n L ih =>
    have e : mapN g (n :: L) = (g n.1, n.2) :: mapN g L := rfl
    rw [e]
    simp only [wtF, ih]
theorem map_nn {g : Int → Int} {L : List Nd} (h : NonNeg L) : NonNeg (mapN g L) := fun n hn => by
  obtain ⟨m, hm, e⟩ := List.mem_map.1 hn
  rw [← e]; exact h m hm
theorem map_tot (g : Int → Int) (L : List Nd) : sumC (mapN g L) = sumC L := by rw [← wtF_all, wt_map]; exact wtF_all L
/-- the sum at one is what all weigh that come there -/
theorem sum_map (g : Int → Int) (L : List Nd) (i : Int) : sumAt i (mapN g L) = wtF (fun n => decide (g n = i)) L := by
  induction L with
  | nil => rfl
  | cons n L ih =>
    have e : mapN g (n :: L) = (g n.1, n.2) :: mapN g L := rfl
    rw [e]
    simp only [sumAt, wtF, ih, decide_eq_true_eq]
theorem sum_wt (L : List Nd) (i : Int) : sumAt i L = wtF (fun n => decide (n = i)) L := by
  induction L with
  | nil => rfl
  | cons n L ih => simp only [sumAt, wtF, ih, decide_eq_true_eq]
theorem std_map {l l2 : Int} {L T F V : List Nd} (h : Std l L T) (g v : Int → Int) (hL : Good L) (hT : Good T) (hF : Good F) (hV : Good V) (sF : ∀ i, sumAt i F = sumAt i (mapN g L)) (sV : ∀ i, sumAt i V = sumAt i (mapN v T))
    (hP : ∀ P, Down P → ∃ P2, Down P2 ∧ (∀ n ∈ L, P2 n.1 = P (g n.1)) ∧ (∀ t ∈ T, P2 (leafN l t.1) = P (leafN l2 (v t.1)))) : Std l2 F V := by
  have nL := map_nn (g := g) (good_nonneg hL)
  have nT := map_nn (g := v) (good_nonneg hT)
  refine ⟨by rw [tot_same hF nL sF, tot_same hV nT sV, map_tot, map_tot, h.tot], fun P hd => ?_⟩
  obtain ⟨P2, d2, e1, e2⟩ := hP P hd
  have a := h.low P2 d2
  rw [wt_same hF nL sF, wt_same hV nT sV, wt_map, wt_map]
  rw [wtF_eq (L := L) (P := P2) (Q := fun n => P (g n)) e1, wtF_eq (L := T) (P := fun x => P2 (leafN l x)) (Q := fun x => P (leafN l2 (v x))) e2] at a
  exact a
/-! ### grown -/
theorem gra_is {id b : Int} {d : Nat} (hd : AtDep id d) (b0 : 0 ≤ b) (hb : (d : Int) + b ≤ 48) (h1 : id ≤ 9223372036854775807) : graN id b = id - 2 ^ d + 2 ^ (d + b.toNat) ∧ GraC id b := by
  have e := (dep_is hd h1).1
  have p := two_pos d
  have c : GraC id b := ⟨by have := hd.1; omega, b0, by rw [e]; exact hb⟩
  refine ⟨?_, c⟩
  rw [(gra_yes c).1, e]
  congr 2
  omega
theorem gra_dep {id b : Int} {d : Nat} (hd : AtDep id d) (b0 : 0 ≤ b) (hb : (d : Int) + b ≤ 48) (h1 : id ≤ 9223372036854775807) : AtDep (graN id b) (d + b.toNat) := by
  rw [(gra_is hd b0 hb h1).1]
  have m := two_le d (d + b.toNat) (by omega)
  have := hd.1; have := hd.2
  exact ⟨by omega, by omega⟩
theorem gra_kids {id b : Int} {d : Nat} (hd : AtDep id d) (b0 : 0 ≤ b) (hb : (d : Int) + 1 + b ≤ 48) (h1 : 2 * id + 1 ≤ 9223372036854775807) : graN (2 * id) b = 2 * graN id b ∧ graN (2 * id + 1) b = 2 * graN id b + 1 := by
  obtain ⟨a, c⟩ := dep_kids hd
  rw [(gra_is a b0 (by omega) (by omega)).1, (gra_is c b0 (by omega) h1).1, (gra_is hd b0 (by omega) (by omega)).1]
  have e : d + 1 + b.toNat = d + b.toNat + 1 := by omega
  rw [e, two_succ, two_succ]
  omega
theorem gra_inj {x y b : Int} (hx : GraC x b) (hy : GraC y b) (x1 : x ≤ 9223372036854775807) (y1 : y ≤ 9223372036854775807) (h : graN x b = graN y b) : x = y := by
  obtain ⟨d, _, ex, _, dx⟩ := dep_of hx.1 x1
  obtain ⟨e, _, ey, _, dy⟩ := dep_of hy.1 y1
  have hx3 := hx.2.2
  have hy3 := hy.2.2
  have bx := gra_dep dx hx.2.1 (by omega) x1
  have by' := gra_dep dy hy.2.1 (by omega) y1
  rw [h] at bx
  have q := dep_uniq bx by'
  have de : d = e := by omega
  subst de
  rw [(gra_is dx hx.2.1 (by omega) x1).1, (gra_is dy hy.2.1 (by omega) y1).1] at h
  omega
theorem gra_leaf {l b x : Int} (h : ValC l x) (b0 : 0 ≤ b) (hb : l + b ≤ 48) : graN (leafN l x) b = leafN (l + b) x ∧ ValC (l + b) x := by
  have lf := leaf_right h
  have p := two_pos l.toNat
  have d : AtDep (leafN l x) l.toNat := by have := h.2.2; rw [(leaf_yes h).1]; exact ⟨by omega, by omega⟩
  have m := two_le l.toNat (l + b).toNat (by have := h.1; omega)
  have v : ValC (l + b) x := ⟨by have := h.1; omega, hb, h.2.2.1, by have := h.2.2.2; omega⟩
  have l1 := h.1
  refine ⟨?_, v⟩
  rw [(gra_is d b0 (by omega) (by omega)).1, (leaf_yes h).1, (leaf_yes v).1, show l.toNat + b.toNat = (l + b).toNat by omega]
  omega
def graP (P : Int → Bool) (b n : Int) : Bool := decide (GraC n b → P (graN n b) = true)
theorem down_gra {P : Int → Bool} {b : Int} (h : Down P) : Down (graP P b) := fun n n1 n2 hn => by
  have hn := of_decide_eq_true hn
  obtain ⟨d, _, e, _, dn⟩ := dep_of n1 (by omega)
  have lk := log_kid n1 (by omega)
  have key : ∀ m, (m = 2 * n ∨ m = 2 * n + 1) → graP P b m = true := fun m hm => decide_eq_true fun c => by
    have c3 : logN n + 1 + b ≤ 48 := by
      have := c.2.2
      rcases hm with q | q <;> rw [q] at this
      · rw [lk.1] at this; exact this
      · rw [lk.2] at this; exact this
    have cn : GraC n b := ⟨n1, c.2.1, by omega⟩
    have g := gra_kids dn c.2.1 (by omega) (by omega)
    have gd := gra_dep dn c.2.1 (by omega) (by omega)
    have q := two_le (d + b.toNat) 48 (by have := c.2.1; omega)
    have p0 := two_pos (d + b.toNat)
    have := hn cn
    have w := h (graN n b) (by have := gd.1; omega) (by have := gd.2; omega) this
    rcases hm with z | z <;> rw [z]
    · rw [g.1]; exact w.1
    · rw [g.2]; exact w.2
  exact ⟨key _ (.inl rfl), key _ (.inr rfl)⟩
theorem right_gra {l b n : Int} (h : RightC l n) (b0 : 0 ≤ b) (hb : l + b ≤ 48) : GraC n b := ⟨h.2.2.1, b0, by have := h.2.2.2; omega⟩
/-- a digest in a greater universe -/
theorem dg_grow {l k b : Int} {L T F : List Nd} (h : DgC l k L T) (b0 : 0 ≤ b) (hb : l + b ≤ 48) (hF : RollC (l + b) F) (sF : ∀ i, sumAt i F = sumAt i (mapN (fun n => graN n b) L)) (nF : F.length ≤ L.length) : DgC (l + b) k F T ∧ sumC F = sumC L := by
  have gL := roll_good h.roll
  have gF := roll_good hF
  have rL : ∀ n ∈ L, RightC l n.1 ∧ n.1 ≤ 9223372036854775807 := fun n hn => ⟨of_decide_eq_true (h.roll.2.2.1 n hn).1, right_max (h.roll.2.2.1 n hn).1⟩
  have tF : sumC F = sumC L := by rw [tot_same gF (map_nn (good_nonneg gL)) sF, map_tot]
  have l1 := h.bag.uni.1
  refine ⟨⟨h.kk, hF, by have := h.len; omega, fun n hn hk => ?_, ⟨⟨by omega, hb⟩, h.bag.good, fun t ht => (gra_leaf (h.bag.val t ht) b0 hb).2, h.bag.tot⟩, ?_⟩, tF⟩
  · have e := good_mem gF hn
    have p := gF.pos n hn
    rw [sF] at e
    obtain ⟨m, hm, q⟩ := sum_mem (L := mapN (fun n => graN n b) L) (i := n.1) (by omega)
    obtain ⟨u, hu, eu⟩ := List.mem_map.1 hm
    rw [← eu] at q
    dsimp only at q
    have ru := rL u hu
    have gu := right_gra ru.1 b0 hb
    have s : sumAt n.1 (mapN (fun n => graN n b) L) = sumAt u.1 L := by
      rw [sum_map, sum_wt]
      refine wtF_eq fun z hz => ?_
      have rz := rL z hz
      rw [decide_eq_decide]
      constructor
      · intro w; exact gra_inj (right_gra rz.1 b0 hb) gu rz.2 ru.2 (w.trans q.symm)
      · intro w; rw [w]; exact q
    rw [s, good_mem gL hu] at e
    rw [tF, ← e]
    refine h.light u hu ⟨ru.1, fun c => hk.2 ⟨by omega, hb, hk.1.2.2.1, ?_⟩⟩
    obtain ⟨d, _, ed, _, dd⟩ := dep_of ru.1.2.2.1 ru.2
    have c4 := c.2.2.2
    have gd := gra_dep dd b0 (by omega) ru.2
    have bd := two_le (d + b.toNat) 48 (by omega)
    rw [← q, (dep_is gd (by have := gd.2; omega)).1]
    omega
  · refine std_map h.std (fun n => graN n b) (fun x => x) gL h.bag.good gF h.bag.good sF (fun i => ?_) fun P hP => ⟨graP P b, down_gra hP, fun n hn => ?_, fun t ht => ?_⟩
    · have : mapN (fun x => x) T = T := by unfold mapN; simp
      rw [this]
    · have c := right_gra (rL n hn).1 b0 hb
      unfold graP
      simp [c]
    · have v := h.bag.val t ht
      have lf := leaf_right v
      have c := right_gra lf.1 b0 hb
      unfold graP
      rw [(gra_leaf v b0 hb).1]
      simp [c]

end Go.Proofs.YtkoefclkpdpdpaaGreat

/- Plain facts of layer recast: a digest's list grown, and pruned, as functions. No program is spoken of here. -/
namespace Go.Proofs.YtkoefclkpdpdpaaGreat
set_option linter.unusedVariables false

/-- all put into one list -/
def gatW (X : List Nd) : List Nd := mrgW [] X
theorem gat_good {X : List Nd} (h : ∀ n ∈ X, 1 ≤ n.2) : Good (gatW X) := bmg_good X [] good_nil h
theorem gat_sum (X : List Nd) (i : Int) : sumAt i (gatW X) = sumAt i X := by unfold gatW; rw [bmg_sum]; simp [sumAt]
theorem gat_tot (X : List Nd) : sumC (gatW X) = sumC X := by unfold gatW; rw [bmg_tot]; simp [sumC]
theorem gat_len {X : List Nd} (h : ∀ n ∈ X, 1 ≤ n.2) : (gatW X).length ≤ X.length := by have := bmg_len X [] good_nil h; simpa [gatW] using this
theorem gat_uniq {X F : List Nd} (hF : Good F) (h : ∀ n ∈ X, 1 ≤ n.2) (s : ∀ i, sumAt i F = sumAt i X) : F = gatW X := good_uniq _ _ hF (gat_good h) fun i => by rw [s, gat_sum]
theorem fold_gat {X F : List Nd} (h : ∀ n ∈ X, 1 ≤ n.2) (f : FoldOf X F) : F = gatW X := by
  have i := f.inv fun n hn => by have := h n hn; omega
  exact gat_uniq i.good h i.at_
theorem gat_mem {X : List Nd} (h : ∀ n ∈ X, 1 ≤ n.2) {n : Nd} (hn : n ∈ gatW X) : ∃ m ∈ X, m.1 = n.1 := by
  have g := gat_good h
  have e := good_mem g hn
  have p := g.pos n hn
  rw [gat_sum] at e
  exact sum_mem (by omega)
theorem gat_roll {l : Int} {X : List Nd} (u : uniB l = true) (h : ∀ n ∈ X, 1 ≤ n.2) (hr : ∀ n ∈ X, rightB l n.1 = true) (ht : sumC X ≤ 72057594037927935) : RollC l (gatW X) := by
  have g := gat_good h
  refine ⟨u, g.ids, fun n hn => ⟨?_, g.pos n hn⟩, fun n hn => by have := g.pos n hn; omega, by rw [gat_tot]; exact ht⟩
  obtain ⟨m, hm, e⟩ := gat_mem h hn
  rw [← e]
  exact hr m hm
theorem map_pos {g : Int → Int} {L : List Nd} (h : ∀ n ∈ L, 1 ≤ n.2) : ∀ n ∈ mapN g L, 1 ≤ n.2 := fun n hn => by
  obtain ⟨m, hm, e⟩ := List.mem_map.1 hn
  rw [← e]; exact h m hm
theorem roll_pos {l : Int} {L : List Nd} (h : RollC l L) : ∀ n ∈ L, 1 ≤ n.2 := fun n hn => (h.2.2.1 n hn).2
theorem roll_right {l : Int} {L : List Nd} (h : RollC l L) : ∀ n ∈ L, RightC l n.1 ∧ n.1 ≤ 9223372036854775807 := fun n hn => ⟨of_decide_eq_true (h.2.2.1 n hn).1, right_max (h.2.2.1 n hn).1⟩
/-- where one alone comes, as much comes as was there -/
theorem rcSum_one {g : Int → Int} {L : List Nd} {u : Nd} (hu : u ∈ L) (hg : ∀ m ∈ L, g m.1 = g u.1 → m.1 = u.1) : sumAt (g u.1) (mapN g L) = sumAt u.1 L := by
  rw [sum_map, sum_wt]
  refine wtF_eq fun z hz => ?_
  rw [decide_eq_decide]
  exact ⟨fun w => hg z hz w, fun w => by rw [w]⟩
/-- moved, and gathered, twice -/
theorem gat_gat {f g h : Int → Int} {L : List Nd} (p : ∀ n ∈ L, 1 ≤ n.2) (e : ∀ n ∈ L, g (f n.1) = h n.1) : gatW (mapN g (gatW (mapN f L))) = gatW (mapN h L) := by
  refine gat_uniq (gat_good (map_pos fun n hn => (gat_good (map_pos p)).pos n hn)) (map_pos p) fun i => ?_
  have nn : NonNeg (mapN f L) := fun n hn => by have := map_pos (g := f) p n hn; omega
  rw [gat_sum, sum_map, wt_same (gat_good (map_pos p)) nn (gat_sum _), wt_map, sum_map]
  exact wtF_eq fun n hn => by rw [e n hn]
/-! ### grown -/
def growW (b : Int) (L : List Nd) : List Nd := gatW (mapN (fun n => graN n b) L)
theorem rcGra_right {l b n : Int} (h : RightC l n) (h1 : n ≤ 9223372036854775807) (b0 : 0 ≤ b) (hb : l + b ≤ 48) : RightC (l + b) (graN n b) := by
  obtain ⟨d, _, e, _, dd⟩ := dep_of h.2.2.1 h1
  have hd := h.2.2.2
  have l1 := h.1
  have g := gra_dep dd b0 (by omega) h1
  have p := two_pos (d + b.toNat)
  have q := two_le (d + b.toNat) 48 (by omega)
  have g1 := g.1
  have g2 := g.2
  refine ⟨by omega, hb, by omega, ?_⟩
  rw [(dep_is g (by omega)).1]
  omega
theorem dgV_grow {l k b : Int} {L : List Nd} (v : DgV l k L) (b0 : 0 ≤ b) (hb : l + b ≤ 48) : DgV (l + b) k (growW b L) ∧ (growW b L).length ≤ L.length ∧ sumC (growW b L) = sumC L := by
  have p := roll_pos v.roll
  have r := roll_right v.roll
  have u : 1 ≤ l ∧ l ≤ 48 := of_decide_eq_true v.roll.1
  have pm := map_pos (g := fun n => graN n b) p
  have tot : sumC (growW b L) = sumC L := by unfold growW; rw [gat_tot, map_tot]
  have len : (growW b L).length ≤ L.length := by have := gat_len pm; simpa [growW, mapN] using this
  have roll : RollC (l + b) (growW b L) := by
    refine gat_roll (decide_eq_true ⟨by omega, hb⟩) pm (fun n hn => ?_) (by rw [map_tot]; exact v.roll.2.2.2.2)
    obtain ⟨m, hm, e⟩ := List.mem_map.1 hn
    rw [← e]
    exact decide_eq_true (rcGra_right (r m hm).1 (r m hm).2 b0 hb)
  refine ⟨⟨v.k1, v.k2, roll, by have := v.len; omega, fun n hn hk => ?_⟩, len, tot⟩
  have e := good_mem (roll_good roll) hn
  obtain ⟨m, hm, q⟩ := gat_mem pm hn
  obtain ⟨w, hw, ew⟩ := List.mem_map.1 hm
  rw [← ew] at q
  dsimp only at q
  have rw' := r w hw
  have gw := right_gra rw'.1 b0 hb
  have s : sumAt n.1 (growW b L) = sumAt w.1 L := by
    unfold growW
    rw [gat_sum, ← q]
    exact rcSum_one (g := fun n => graN n b) hw fun z hz ez => gra_inj (right_gra (r z hz).1 b0 hb) gw (r z hz).2 rw'.2 ez
  rw [s, good_mem (roll_good v.roll) hw] at e
  rw [tot, ← e]
  refine v.light w hw ⟨rw'.1, fun c => hk.2 ⟨by omega, hb, hk.1.2.2.1, ?_⟩⟩
  obtain ⟨d, _, ed, _, dd⟩ := dep_of rw'.1.2.2.1 rw'.2
  have c4 := c.2.2.2
  have gd := gra_dep dd b0 (by omega) rw'.2
  have bd := two_le (d + b.toNat) 48 (by omega)
  rw [← q, (dep_is gd (by have := gd.2; omega)).1]
  omega
theorem gra_add {n a b : Int} (h1 : n ≤ 9223372036854775807) (a0 : 0 ≤ a) (b0 : 0 ≤ b) (h : GraC n (a + b)) : graN (graN n a) b = graN n (a + b) := by
  obtain ⟨d, _, e, _, dd⟩ := dep_of h.1 h1
  have h3 := h.2.2
  have ga := gra_is dd a0 (by omega) h1
  have gd := gra_dep dd a0 (by omega) h1
  have bd := two_le (d + a.toNat) 48 (by omega)
  have gab := gra_is dd (show 0 ≤ a + b by omega) (by omega) h1
  rw [(gra_is gd b0 (by omega) (by have := gd.2; omega)).1, ga.1, gab.1, show d + a.toNat + b.toNat = d + (a + b).toNat by omega]
  omega
theorem grow_two {l a b k : Int} {L : List Nd} (v : DgV l k L) (a0 : 0 ≤ a) (b0 : 0 ≤ b) (h : l + a + b ≤ 48) : growW b (growW a L) = growW (a + b) L :=
  gat_gat (roll_pos v.roll) fun n hn => gra_add (roll_right v.roll n hn).2 a0 b0 (right_gra (roll_right v.roll n hn).1 (by omega) (by omega))
/-! ### pruned -/
def pruW (d : Int) (L : List Nd) : List Nd := gatW (mapN (fun n => pruN n d) L)
/-- at what depth a pruned node lies: the lesser one -/
theorem pru_low {id d : Int} {k : Nat} (hd : AtDep id k) (h1 : id ≤ 9223372036854775807) (h : (k : Int) ≤ d) : pruN id d = id := by
  have e := (dep_is hd h1).1
  have c : PruC id d := ⟨by have := hd.1; have := two_pos k; omega, by omega⟩
  rw [(pru_yes c).1, e, show ((k : Int) - d).toNat = 0 by omega, Int.pow_zero, Int.ediv_one]
theorem pru_deep {id : Int} {k d : Nat} (hd : AtDep id k) (h1 : id ≤ 9223372036854775807) (h : d ≤ k) : pruN id d = id / 2 ^ (k - d) ∧ AtDep (pruN id d) d := by
  have e := (dep_is hd h1).1
  have c : PruC id d := ⟨by have := hd.1; have := two_pos k; omega, by omega⟩
  have q : pruN id d = id / 2 ^ (k - d) := by rw [(pru_yes c).1, e]; congr 2; omega
  refine ⟨q, ?_⟩
  rw [q]
  have z := dep_up hd (show k - d ≤ k by omega)
  rwa [show k - (k - d) = d by omega] at z
theorem rcPru_right {l b n : Int} (h : RightC l n) (h1 : n ≤ 9223372036854775807) (b0 : 0 ≤ b) (hb : b < l) : RightC (l - b) (pruN n (l - b)) := of_decide_eq_true (prune_ends h h1 b0 hb).2.2.2.2.2
/-- what is not at the end comes from itself alone -/
theorem pru_alone {m n d : Int} (hm : 1 ≤ m) (m1 : m ≤ 9223372036854775807) (d0 : 0 ≤ d) (hn : logN n < d) (e : pruN m d = n) : m = n := by
  obtain ⟨k, _, ek, _, dk⟩ := dep_of hm m1
  by_cases h : (k : Int) ≤ d
  · rw [← e, pru_low dk m1 h]
  · exfalso
    obtain ⟨d', rfl⟩ := Int.eq_ofNat_of_zero_le d0
    have z := (pru_deep dk m1 (show d' ≤ k by omega)).2
    rw [e] at z
    have q := (pru_deep dk m1 (show d' ≤ k by omega)).1
    have le : n ≤ m := by rw [← e, q]; exact Int.ediv_le_self _ (by omega)
    rw [(dep_is z (by omega)).1] at hn
    omega
theorem dgV_prune {l k b : Int} {L : List Nd} (v : DgV l k L) (b0 : 0 ≤ b) (hb : b < l) : DgV (l - b) k (pruW (l - b) L) ∧ (pruW (l - b) L).length ≤ L.length ∧ sumC (pruW (l - b) L) = sumC L := by
  have p := roll_pos v.roll
  have r := roll_right v.roll
  have u : 1 ≤ l ∧ l ≤ 48 := of_decide_eq_true v.roll.1
  have pm := map_pos (g := fun n => pruN n (l - b)) p
  have tot : sumC (pruW (l - b) L) = sumC L := by unfold pruW; rw [gat_tot, map_tot]
  have len : (pruW (l - b) L).length ≤ L.length := by have := gat_len pm; simpa [pruW, mapN] using this
  have roll : RollC (l - b) (pruW (l - b) L) := by
    refine gat_roll (decide_eq_true ⟨by omega, by omega⟩) pm (fun n hn => ?_) (by rw [map_tot]; exact v.roll.2.2.2.2)
    obtain ⟨m, hm, e⟩ := List.mem_map.1 hn
    rw [← e]
    exact decide_eq_true (rcPru_right (r m hm).1 (r m hm).2 b0 hb)
  refine ⟨⟨v.k1, v.k2, roll, by have := v.len; omega, fun n hn hk => ?_⟩, len, tot⟩
  have e := good_mem (roll_good roll) hn
  obtain ⟨m, hm, q⟩ := gat_mem pm hn
  obtain ⟨w, hw, ew⟩ := List.mem_map.1 hm
  rw [← ew] at q
  dsimp only at q
  have rw' := r w hw
  have ln : logN n.1 < l - b := by
    have a := hk.1.2.2.2
    rcases Int.lt_or_le (logN n.1) (l - b) with z | z
    · exact z
    · exact absurd ⟨hk.1.1, hk.1.2.1, hk.1.2.2.1, by omega⟩ hk.2
  have ewn := pru_alone rw'.1.2.2.1 rw'.2 (show 0 ≤ l - b by omega) ln q
  have s : sumAt n.1 (pruW (l - b) L) = sumAt w.1 L := by
    unfold pruW
    rw [gat_sum, ← q]
    exact rcSum_one (g := fun n => pruN n (l - b)) hw fun z hz ez => by
      rw [ewn]
      exact pru_alone (r z hz).1.2.2.1 (r z hz).2 (show 0 ≤ l - b by omega) ln (ez.trans q)
  rw [s, good_mem (roll_good v.roll) hw] at e
  rw [tot, ← e]
  refine v.light w hw ⟨rw'.1, fun c => ?_⟩
  have c4 := c.2.2.2
  rw [ewn] at c4
  omega
theorem pru_pru {n c d : Int} (h0 : 1 ≤ n) (h1 : n ≤ 9223372036854775807) (d0 : 0 ≤ d) (h : d ≤ c) : pruN (pruN n c) d = pruN n d := by
  obtain ⟨k, _, ek, _, dk⟩ := dep_of h0 h1
  by_cases hk : (k : Int) ≤ c
  · rw [pru_low dk h1 hk]
  · obtain ⟨d', rfl⟩ := Int.eq_ofNat_of_zero_le d0
    obtain ⟨c', rfl⟩ := Int.eq_ofNat_of_zero_le (show 0 ≤ c by omega)
    have a := pru_deep dk h1 (show c' ≤ k by omega)
    have le : pruN n c' ≤ n := by rw [a.1]; exact Int.ediv_le_self _ (by omega)
    rw [(pru_deep a.2 (by omega) (show d' ≤ c' by omega)).1, a.1, two_div, (pru_deep dk h1 (show d' ≤ k by omega)).1]
    congr 2
    omega
theorem prune_two {l a b k : Int} {L : List Nd} (v : DgV l k L) (a0 : 0 ≤ a) (b0 : 0 ≤ b) (h : a + b < l) : pruW (l - a - b) (pruW (l - a) L) = pruW (l - (a + b)) L := by
  rw [show l - (a + b) = l - a - b by omega]
  exact gat_gat (roll_pos v.roll) fun n hn => pru_pru (roll_right v.roll n hn).1.2.2.1 (roll_right v.roll n hn).2 (by omega) (by omega)

end Go.Proofs.YtkoefclkpdpdpaaGreat

/- Plain facts of layer recast: what is grown, and what is pruned, stands for what was accepted. No program is spoken of here. -/
namespace Go.Proofs.YtkoefclkpdpdpaaGreat
set_option linter.unusedVariables false

def pruP (P : Int → Bool) (d n : Int) : Bool := P (pruN n d)
theorem down_pru {P : Int → Bool} {d : Int} (d0 : 0 ≤ d) (h : Down P) : Down (pruP P d) := fun n n1 n2 hn => by
  obtain ⟨k, _, ek, _, dk⟩ := dep_of n1 (by omega)
  obtain ⟨ka, kb⟩ := dep_kids dk
  unfold pruP at hn ⊢
  by_cases c : (k : Int) < d
  · rw [pru_low dk (by omega) (by omega)] at hn
    rw [pru_low ka (by omega) (by omega), pru_low kb (by omega) (by omega)]
    exact h n n1 n2 hn
  · obtain ⟨e, rfl⟩ := Int.eq_ofNat_of_zero_le d0
    rw [(pru_deep dk (by omega) (show e ≤ k by omega)).1] at hn
    rw [(pru_deep ka (by omega) (show e ≤ k + 1 by omega)).1, (pru_deep kb (by omega) (show e ≤ k + 1 by omega)).1, show k + 1 - e = k - e + 1 by omega, ← half_div, ← half_div, show 2 * n / 2 = n by omega, show (2 * n + 1) / 2 = n by omega]
    exact ⟨hn, hn⟩
theorem pru_leaf {l b x : Int} (h : ValC l x) (b0 : 0 ≤ b) (hb : b < l) : pruN (leafN l x) (l - b) = leafN (l - b) (x / 2 ^ b.toNat) ∧ ValC (l - b) (x / 2 ^ b.toNat) := by
  obtain ⟨b', rfl⟩ := Int.eq_ofNat_of_zero_le b0
  obtain ⟨h1, h2, h3, h4⟩ := h
  have e2 : (2 : Int) ^ l.toNat = 2 ^ (l - (b' : Int)).toNat * 2 ^ b' := by rw [← two_add]; congr 1; omega
  have p := two_pos l.toNat
  have pb := two_pos b'
  have lf := leaf_right (l := l) (x := x) ⟨h1, h2, h3, h4⟩
  have d : AtDep (leafN l x) l.toNat := by rw [(leaf_yes ⟨h1, h2, h3, h4⟩).1]; exact ⟨by omega, by omega⟩
  have v : ValC (l - (b' : Int)) (x / 2 ^ b') := ⟨by omega, by omega, Int.ediv_nonneg h3 (by omega), (Int.ediv_lt_iff_lt_mul pb).2 (by rw [← e2]; exact h4)⟩
  refine ⟨?_, v⟩
  have q := (pru_deep d (by omega) (show (l - (b' : Int)).toNat ≤ l.toNat by omega)).1
  rw [show (((l - (b' : Int)).toNat : Nat) : Int) = l - b' by omega] at q
  rw [show ((b' : Int)).toNat = b' from rfl, q, (leaf_yes ⟨h1, h2, h3, h4⟩).1, (leaf_yes v).1, show l.toNat - (l - (b' : Int)).toNat = b' by omega, e2, Int.add_comm, Int.add_mul_ediv_right _ _ (by omega), Int.add_comm]
theorem img_map (T : List Nd) (b : Int) (i : Int) : sumAt i (imgS T b) = sumAt i (mapN (fun x => x / 2 ^ b.toNat) T) := by
  unfold imgS
  rw [pours_sum]
  simp only [sumAt]
  have : T.map (imgN b) = mapN (fun x => x / 2 ^ b.toNat) T := rfl
  rw [this]; omega
theorem std_prune {l k b : Int} {L T : List Nd} (v : DgV l k L) (s : DgS l L T) (b0 : 0 ≤ b) (hb : b < l) : Std (l - b) (pruW (l - b) L) (imgS T b) := by
  have p := roll_pos v.roll
  have bag := img_bag s.bag b0 hb
  refine std_map s.std (fun n => pruN n (l - b)) (fun x => x / 2 ^ b.toNat) (roll_good v.roll) s.bag.good (gat_good (map_pos p)) bag.good (gat_sum _) (img_map T b) fun P hP => ⟨pruP P (l - b), down_pru (by omega) hP, fun n hn => rfl, fun t ht => ?_⟩
  have z := pru_leaf (s.bag.val t ht) b0 hb
  unfold pruP
  rw [z.1]
theorem std_grow {l k b : Int} {L T : List Nd} (v : DgV l k L) (s : DgS l L T) (b0 : 0 ≤ b) (hb : l + b ≤ 48) : DgS (l + b) (growW b L) T := by
  have g := dgV_grow v b0 hb
  have c : DgC l k L T := ⟨v.k1, v.roll, v.len, v.light, s.bag, s.std⟩
  have z := dg_grow c b0 hb g.1.roll (gat_sum _) g.2.1
  exact ⟨z.1.bag, z.1.std⟩
theorem dgS_prune {l k b : Int} {L T : List Nd} (v : DgV l k L) (s : DgS l L T) (b0 : 0 ≤ b) (hb : b < l) : DgS (l - b) (pruW (l - b) L) (imgS T b) := ⟨img_bag s.bag b0 hb, std_prune v s b0 hb⟩
/-- a digest's nodes at a node, and what it holds -/
theorem rc_stand {l k id : Int} {L T : List Nd} (v : DgV l k L) (s : DgS l L T) (hr : RightC l id) (h1 : id ≤ 9223372036854775807) :
    wtF (aboveB id) L ≤ betN T (loN l id) (hiN l id) ∧ betN T (loN l id) (hiN l id) ≤ wtF (aboveB id) L + wtF (overB id) L := std_held s.std v.roll s.bag hr h1

end Go.Proofs.YtkoefclkpdpdpaaGreat
