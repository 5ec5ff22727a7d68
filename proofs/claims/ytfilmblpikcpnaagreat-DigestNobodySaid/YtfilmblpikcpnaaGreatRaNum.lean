/- Plain facts of the layers digest and rank: what a digest keeps from call to call; the rank of a number is within what the nodes tell. No program is spoken of here. -/
import Derived.Test.YtfilmblpikcpnaaGreatDgNum
namespace Go.Proofs.YtfilmblpikcpnaaGreat
set_option linter.unusedVariables false

/-! ### pressed -/
/-- folded as far as may be, j times -/
structure Pressed (l cap : Int) (L M : List Nd) (j : Nat) : Prop where
  live : Live l cap L j
  stop : hasX l cap (preA l cap L j) = false
  is : M = preA l cap L j
theorem pressed_uniq {l cap : Int} {L M M2 : List Nd} {j k : Nat} (a : Pressed l cap L M j) (b : Pressed l cap L M2 k) : M = M2 ∧ j = k := by
  have e := live_uniq a.live b.live a.stop b.stop
  subst e
  exact ⟨a.is.trans b.is.symm, rfl⟩
theorem pressed_few {l k : Int} {L M : List Nd} {j : Nat} (h : RollC l L) (hk : 1 ≤ k) (p : Pressed l (sumC L / k) L M j) : (M.length : Int) ≤ 4 * k - 1 ∧ M.length ≤ L.length ∧ RollC l M ∧ sumC M = sumC L := by
  have q := pre_inv h p.live
  rw [p.is]
  refine ⟨tight_few q.roll hk fun y => ?_, q.len, q.roll, q.tot⟩
  rw [q.tot]
  exact none_all q.roll p.stop y
/-- what a digest keeps -/
structure DgC (l k : Int) (L T : List Nd) : Prop where
  kk : 1 ≤ k
  roll : RollC l L
  len : (L.length : Int) ≤ 8 * k
  light : LightC l (sumC L / k) L
  bag : BagC l T
  std : Std l L T
theorem dg_nil {l k : Int} (hl : 1 ≤ l ∧ l ≤ 48) (hk : 1 ≤ k) : DgC l k [] [] :=
  ⟨hk, roll_nil (uni_yes hl), by simp; omega, fun n h => by simp at h, bag_nil hl, std_nil l⟩
theorem dg_press {l k : Int} {L M T : List Nd} {j : Nat} (h : DgC l k L T) (p : Pressed l (sumC L / k) L M j) : DgC l k M T ∧ (M.length : Int) ≤ 4 * k - 1 := by
  have q := pressed_few h.roll h.kk p
  refine ⟨⟨h.kk, q.2.2.1, by have := h.len; omega, ?_, h.bag, ?_⟩, q.1⟩
  · rw [q.2.2.2, p.is]; exact light_pre h.roll p.live h.light
  · rw [p.is]; exact std_pre h.std h.roll p.live
theorem leaf_right {l x : Int} (h : ValC l x) : RightC l (leafN l x) ∧ logN (leafN l x) = l ∧ leafN l x ≤ 562949953421311 ∧ 1 ≤ leafN l x := by
  obtain ⟨h1, h2, h3, h4⟩ := h
  have e := (leaf_yes ⟨h1, h2, h3, h4⟩).1
  have b := two_le l.toNat 48 (by omega)
  have p := two_pos l.toNat
  have d : AtDep (leafN l x) l.toNat := ⟨by rw [e]; omega, by rw [e]; omega⟩
  have m : leafN l x ≤ 562949953421311 := by rw [e]; omega
  have g := (dep_is d (by omega)).1
  have g2 : logN (leafN l x) = l := by rw [g]; omega
  have o : 1 ≤ leafN l x := by rw [e]; omega
  exact ⟨⟨h1, h2, o, by omega⟩, g2, m, o⟩
/-- one value more, where there is room -/
theorem dg_ins {l k : Int} {L T : List Nd} {x c : Int} (h : DgC l k L T) (hx : ValC l x) (hc : ¬ c < 1) (ht : ¬ 72057594037927935 < sumC L + c) (hroom : sumAt (leafN l x) L = 0 → (L.length : Int) < 8 * k) : DgC l k (insW L (leafN l x) c) (insW T x c) := by
  have lf := leaf_right hx
  have g := roll_good h.roll
  have ea : addW L (leafN l x) c = insW L (leafN l x) c := if_neg (by omega)
  have hrl : RollC l (insW L (leafN l x) c) := by rw [← ea]; exact roll_add h.roll (right_yes lf.1) (by omega) (by omega)
  refine ⟨h.kk, hrl, ?_, ?_, h.bag.ins hx hc (by rw [← h.std.tot]; exact ht), std_ins h.std x c⟩
  · rw [insW_len g]
    have := h.len
    split
    · rename_i z; have := hroom z; omega
    · exact this
  · intro m hm hk
    have gM := roll_good hrl
    have e := good_mem gM hm
    have p := gM.pos m hm
    rw [insW_sum] at e
    have ne : ¬ leafN l x = m.1 := fun q => hk.2 ⟨hk.1.1, hk.1.2.1, hk.1.2.2.1, by rw [← q]; exact lf.2.1⟩
    rw [if_neg ne] at e
    obtain ⟨n, hn, hq⟩ := sum_mem (L := L) (i := m.1) (by omega)
    have gn := good_mem g hn
    have a := h.light n hn (by rw [hq]; exact hk)
    rw [hq] at gn
    rw [insW_tot]
    have mono : sumC L / k ≤ (sumC L + c) / k := Int.ediv_le_ediv (by have := h.kk; omega) (by omega)
    omega
/-! ### ranks -/
def lowR (l : Int) (L : List Nd) (y : Int) : Int := wtF (fun n => decide (hiN l n ≤ y)) L
def highR (l : Int) (L : List Nd) (y : Int) : Int := wtF (fun n => decide (loN l n ≤ y)) L
theorem kid_of {l n m : Int} (h1 : 1 ≤ n) (h2 : n ≤ 562949953421311) (hm : m = 2 * n ∨ m = 2 * n + 1) (h : RightC l m) : KidC l n := by
  have lk := log_kid h1 (by omega)
  have e : logN m = logN n + 1 := by rcases hm with q | q <;> rw [q]; exact lk.1; exact lk.2
  have := h.2.2.2
  exact ⟨⟨h.1, h.2.1, h1, by omega⟩, fun c => by have := c.2.2.2; omega⟩
theorem leaf_ends {l x : Int} (h : ValC l x) : loN l (leafN l x) = x ∧ hiN l (leafN l x) = x := by
  have lf := leaf_right h
  have e := end_yes lf.1
  have w : wid l (leafN l x) = 1 := by unfold wid; rw [lf.2.1, show (l - l).toNat = 0 by omega]; rfl
  rw [e.1, e.2.1, w, (leaf_yes h).1]
  omega
theorem lo_hi {l n : Int} (h : RightC l n) : loN l n ≤ hiN l n := by
  have e := end_yes h
  have p := wid_pos l n
  rw [e.1, e.2.1]; omega
theorem kid_in {l n m : Int} (hk : KidC l n) (h2 : n ≤ 562949953421311) (hm : m = 2 * n ∨ m = 2 * n + 1) : loN l n ≤ loN l m ∧ hiN l m ≤ hiN l n := by
  have e := kid_ends hk (by omega)
  have r1 : RightC l (2 * n) := of_decide_eq_true e.1
  have r2 : RightC l (2 * n + 1) := of_decide_eq_true e.2.1
  have a := lo_hi r1
  have b := lo_hi r2
  rcases hm with q | q <;> rw [q] <;> omega
/-- nodes that end at most at y; what is no node of the universe counts, too -/
def upP (l y n : Int) : Bool := decide (RightC l n → hiN l n ≤ y)
def dnP (l y n : Int) : Bool := decide (RightC l n → y < loN l n)
theorem down_up (l y : Int) : Down (upP l y) := fun n n1 n2 hn => by
  have hn := of_decide_eq_true hn
  have key : ∀ m, (m = 2 * n ∨ m = 2 * n + 1) → upP l y m = true := fun m hm => decide_eq_true fun hr => by
    have hk := kid_of n1 n2 hm hr
    have e := kid_in hk n2 hm
    have := hn hk.1
    omega
  exact ⟨key _ (.inl rfl), key _ (.inr rfl)⟩
theorem down_dn (l y : Int) : Down (dnP l y) := fun n n1 n2 hn => by
  have hn := of_decide_eq_true hn
  have key : ∀ m, (m = 2 * n ∨ m = 2 * n + 1) → dnP l y m = true := fun m hm => decide_eq_true fun hr => by
    have hk := kid_of n1 n2 hm hr
    have e := kid_in hk n2 hm
    have := hn hk.1
    omega
  exact ⟨key _ (.inl rfl), key _ (.inr rfl)⟩
theorem wt_rank {l y : Int} {T : List Nd} (hT : BagC l T) : wtF (fun x => upP l y (leafN l x)) T = betN T 0 y ∧ wtF (fun x => dnP l y (leafN l x)) T = sumC T - betN T 0 y := by
  have hv := hT.val
  clear hT
  induction T with
  | nil => exact ⟨rfl, rfl⟩
  | cons n T ih =>
    obtain ⟨a, b⟩ := ih fun m hm => hv m (by simp [hm])
    have v := hv n (by simp)
    have lf := leaf_right v
    have e := leaf_ends v
    have u : upP l y (leafN l n.1) = decide (n.1 ≤ y) := by unfold upP; rw [e.2]; simp [lf.1]
    have d : dnP l y (leafN l n.1) = decide (y < n.1) := by unfold dnP; rw [e.1]; simp [lf.1]
    have v0 := v.2.2.1
    simp only [wtF, betN, sumC, a, b, u, d, decide_eq_true_eq]
    by_cases q : n.1 ≤ y
    · rw [if_pos q, if_pos ⟨v0, q⟩, if_neg (by omega)]; omega
    · rw [if_neg q, if_neg (fun z => q z.2), if_pos (by omega)]; omega
/-- the rank of a number among the values is within what the nodes tell -/
theorem std_rank {l y : Int} {L T : List Nd} (h : Std l L T) (hr : RollC l L) (hT : BagC l T) : lowR l L y ≤ betN T 0 y ∧ betN T 0 y ≤ highR l L y := by
  have w := wt_rank (y := y) hT
  have a := h.low _ (down_up l y)
  have b := h.low _ (down_dn l y)
  rw [w.1] at a
  rw [w.2] at b
  have e1 : wtF (upP l y) L = lowR l L y := wtF_eq fun n hn => by
    have r : RightC l n.1 := of_decide_eq_true (hr.2.2.1 n hn).1
    unfold upP; simp [r]
  have e2 : wtF (dnP l y) L = wtF (fun n => !(decide (loN l n ≤ y))) L := wtF_eq fun n hn => by
    have r : RightC l n.1 := of_decide_eq_true (hr.2.2.1 n hn).1
    unfold dnP
    by_cases q : loN l n.1 ≤ y
    · rw [decide_eq_false (fun z => by have := z r; omega), decide_eq_true q]; rfl
    · rw [decide_eq_true (fun _ => by omega), decide_eq_false q]; rfl
  have c := wtF_not (fun n => decide (loN l n ≤ y)) L
  rw [e1] at a
  rw [e2] at b
  have t := h.tot
  unfold highR
  omega
/-- and both are apart by at most the cap for each bit -/
theorem rank_gap {l y cap : Int} {L : List Nd} (hr : RollC l L) (h0 : 0 ≤ cap) (hl : LightC l cap L) : lowR l L y ≤ highR l L y ∧ highR l L y - lowR l L y ≤ l * cap := by
  have g := roll_good hr
  have nn := good_nonneg g
  have key : ∀ n ∈ L, RightC l n.1 ∧ 1 ≤ n.1 ∧ n.1 ≤ 9223372036854775807 ∧ loN l n.1 ≤ hiN l n.1 ∧ 0 ≤ loN l n.1 ∧ hiN l n.1 < 2 ^ l.toNat := fun n hn => by
    have r : RightC l n.1 := of_decide_eq_true (hr.2.2.1 n hn).1
    have m := right_max (hr.2.2.1 n hn).1
    have e := end_yes r
    have b := wid_bd r m
    have p := wid_pos l n.1
    rw [e.1, e.2.1]
    exact ⟨r, r.2.2.1, m, by omega, by omega, by omega⟩
  have lh : lowR l L y ≤ highR l L y := wtF_le nn fun n hn q => by
    have a := of_decide_eq_true q
    have := (key n hn).2.2.2.1
    exact decide_eq_true (by omega)
  refine ⟨lh, ?_⟩
  have u : 1 ≤ l ∧ l ≤ 48 := of_decide_eq_true hr.1
  by_cases hy : 0 ≤ y ∧ y < 2 ^ l.toNat
  · have hv : ValC l y := ⟨u.1, u.2, hy.1, hy.2⟩
    have lf := leaf_right hv
    have d : AtDep (leafN l y) l.toNat := by
      have p := two_pos l.toNat
      rw [(leaf_yes hv).1]; exact ⟨by omega, by omega⟩
    have over : ∀ n ∈ L, overB (leafN l y) n.1 = true → n.2 ≤ cap := fun n hn q => by
      have k := key n hn
      refine hl n hn ⟨k.1, fun c => ?_⟩
      unfold overB at q
      have ne : n.1 ≠ leafN l y := fun e => by rw [e] at q; simp at q
      have ab : aboveB n.1 (leafN l y) = true := by
        cases w : aboveB n.1 (leafN l y)
        · rw [w] at q; simp at q
        · rfl
      have z := of_decide_eq_true ab
      have c4 := c.2.2.2
      rw [lf.2.1, c4, show (l - l).toNat = 0 by omega] at z
      simp at z
      exact ne z.2.2
    have a := wt_over_le (cap := cap) g h0 (fun n hn => ⟨(key n hn).2.1, (key n hn).2.2.1⟩) l.toNat (leafN l y) d (by omega) over
    have e : (l.toNat : Int) = l := by omega
    rw [e] at a
    have s : highR l L y ≤ lowR l L y + wtF (overB (leafN l y)) L := by
      unfold highR lowR
      clear a over lh hl g hr
      induction L with
      | nil => simp [wtF]
      | cons n L ih =>
        have i := ih (fun m hm => nn m (by simp [hm])) fun m hm => key m (by simp [hm])
        have k := key n (by simp)
        have n0 := nn n (by simp)
        simp only [wtF, decide_eq_true_eq]
        by_cases q1 : loN l n.1 ≤ y
        · by_cases q2 : hiN l n.1 ≤ y
          · rw [if_pos q1, if_pos q2]
            split <;> omega
          · have ab := above_leaf k.1 hv k.2.2.1
            rw [decide_eq_true (show loN l n.1 ≤ y ∧ y ≤ hiN l n.1 by omega)] at ab
            have ne : ¬ n.1 = leafN l y := fun e => by
              have := leaf_ends hv
              rw [← e] at this
              omega
            have ob : overB (leafN l y) n.1 = true := by unfold overB; simp [ne, ab]
            rw [if_pos q1, if_neg q2, if_pos ob]
            omega
        · rw [if_neg q1]
          split <;> split <;> omega
    omega
  · have eq : highR l L y = lowR l L y := wtF_eq fun n hn => by
      have k := key n hn
      by_cases q : 0 ≤ y
      · rw [decide_eq_true (show loN l n.1 ≤ y by omega), decide_eq_true (show hiN l n.1 ≤ y by omega)]
      · rw [decide_eq_false (show ¬ loN l n.1 ≤ y by omega), decide_eq_false (show ¬ hiN l n.1 ≤ y by omega)]
    rw [eq]
    have : 0 ≤ l * cap := Int.mul_nonneg (by omega) h0
    omega

end Go.Proofs.YtfilmblpikcpnaaGreat
