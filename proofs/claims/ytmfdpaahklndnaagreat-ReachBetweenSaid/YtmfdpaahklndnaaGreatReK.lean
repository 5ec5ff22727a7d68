/- Texts laid together: ReNum, ReNum2, ReK. -/
import Derived.Test.YtmfdpaahklndnaaGreatDgQ
import Derived.Test.YtmfdpaahklndnaaGreatDgN
import Derived.Test.YtmfdpaahklndnaaGreatTiQ
import Derived.Test.YtmfdpaahklndnaaGreatMmy
import Derived.Test.YtmfdpaahklndnaaGreatPln
namespace Go.Proofs.YtmfdpaahklndnaaGreat
set_option linter.unusedVariables false
/-- all of whose values are from a to b; one of whose is -/
def inP (l a b : Int) : Int → Bool := fun n => decide (a ≤ loN l n ∧ hiN l n ≤ b)
def meP (l a b : Int) : Int → Bool := fun n => decide (loN l n ≤ b ∧ a ≤ hiN l n)
def btwL (l : Int) (L : List Nd) (a b : Int) : Int := wtF (inP l a b) L
def btwH (l : Int) (L : List Nd) (a b : Int) : Int := wtF (meP l a b) L
theorem btw_bd {l : Int} {L : List Nd} (h : RollC l L) (a b : Int) : (0 ≤ btwL l L a b ∧ btwL l L a b ≤ 72057594037927935) ∧ 0 ≤ btwH l L a b ∧ btwH l L a b ≤ 72057594037927935 := ⟨wtF_all_parts h, wtF_all_parts h⟩
def cntI (P : Int → Bool) (lo : Int) : Nat → Int
  | 0 => 0
  | n + 1 => cntI P lo n + (if P (lo + n) = true then 1 else 0)
theorem cntI_bd (P : Int → Bool) (lo : Int) : ∀ n, 0 ≤ cntI P lo n ∧ cntI P lo n ≤ n
  | 0 => ⟨Int.le_refl _, Int.le_refl _⟩
  | n + 1 => by
    have := cntI_bd P lo n
    simp only [cntI]
    split <;> omega
theorem cntI_congr {P Q : Int → Bool} {lo : Int} : ∀ {n : Nat}, (∀ i : Nat, i < n → P (lo + i) = Q (lo + i)) → cntI P lo n = cntI Q lo n
  | 0, _ => rfl
  | n + 1, h => by simp only [cntI, h n (by omega), cntI_congr (n := n) fun i hi => h i (by omega)]
theorem cntI_not (P : Int → Bool) (lo : Int) : ∀ n : Nat, cntI P lo n + cntI (fun x => !(P x)) lo n = n
  | 0 => rfl
  | n + 1 => by
    have := cntI_not P lo n
    simp only [cntI]
    by_cases e : P (lo + n) = true
    · simp [e]; omega
    · have e : P (lo + n) = false := by simpa using e
      simp [e]; omega
theorem cntI_or {P Q : Int → Bool} {lo : Int} : ∀ {n : Nat}, (∀ i : Nat, i < n → ¬ (P (lo + i) = true ∧ Q (lo + i) = true)) → cntI (fun x => P x || Q x) lo n = cntI P lo n + cntI Q lo n
  | 0, _ => rfl
  | n + 1, h => by
    have a := cntI_or (n := n) fun i hi => h i (by omega)
    have b := h n (by omega)
    simp only [cntI]
    by_cases e1 : P (lo + n) = true
    · by_cases e2 : Q (lo + n) = true
      · exact absurd ⟨e1, e2⟩ b
      · have e2 : Q (lo + n) = false := by simpa using e2
        simp [e1, e2]; omega
    · have e1 : P (lo + n) = false := by simpa using e1
      by_cases e2 : Q (lo + n) = true
      · simp [e1, e2]; omega
      · have e2 : Q (lo + n) = false := by simpa using e2
        simp [e1, e2]; omega
theorem cntI_run (p q lo : Int) : ∀ n : Nat, cntI (fun x => decide (p ≤ x) && decide (x ≤ q)) lo n = if max p lo ≤ min q (lo + n - 1) then min q (lo + n - 1) - max p lo + 1 else 0
  | 0 => by
    rw [if_neg (by omega)]; rfl
  | n + 1 => by
    simp only [cntI, cntI_run p q lo n, Bool.and_eq_true, decide_eq_true_eq]
    split <;> split <;> split <;> omega
theorem cntI_all {P : Int → Bool} {lo : Int} : ∀ {n : Nat}, cntI P lo n = n ↔ ∀ i : Nat, i < n → P (lo + i) = true
  | 0 => by simp [cntI]
  | n + 1 => by
    have b := cntI_bd P lo n
    have ih := cntI_all (P := P) (lo := lo) (n := n)
    simp only [cntI]
    constructor
    · intro h i hi
      have hn : P (lo + n) = true := by
        cases e : P (lo + n)
        · rw [e] at h; simp at h; omega
        · rfl
      rw [if_pos hn] at h
      rcases Nat.lt_or_ge i n with c | c
      · exact ih.1 (by omega) i c
      · have : i = n := by omega
        subst this; exact hn
    · intro h
      rw [if_pos (h n (by omega)), ih.2 fun i hi => h i (by omega)]
      omega
theorem cntI_pos {P : Int → Bool} {lo : Int} {n : Nat} : 0 < cntI P lo n ↔ ∃ i : Nat, i < n ∧ P (lo + i) = true := by
  have a := cntI_not P lo n
  have b := cntI_all (P := fun x => !(P x)) (lo := lo) (n := n)
  constructor
  · intro h
    refine Classical.byContradiction fun c => ?_
    have : cntI (fun x => !(P x)) lo n = n := b.2 fun i hi => by
      cases e : P (lo + i)
      · rfl
      · exact absurd ⟨i, hi, e⟩ c
    omega
  · rintro ⟨i, hi, e⟩
    have d := cntI_bd P lo n
    rcases Int.lt_or_le 0 (cntI P lo n) with c | c
    · exact c
    · have z := b.1 (by omega) i hi
      rw [e] at z; simp at z
def ovN (l lo hi t : Int) : Int := if max (loN l t) lo ≤ min (hiN l t) hi then min (hiN l t) hi - max (loN l t) lo + 1 else 0
def heldN (l lo hi : Int) : List Int → Int
  | [] => 0
  | t :: T => ovN l lo hi t + heldN l lo hi T
theorem heldN_app (l lo hi : Int) (S T : List Int) : heldN l lo hi (S ++ T) = heldN l lo hi S + heldN l lo hi T := by
  induction S with
  | nil => simp [heldN]
  | cons t S ih => simp only [List.cons_append, heldN, ih]; omega
theorem heldN_cnt {l lo hi : Int} (hlh : lo ≤ hi + 1) : ∀ {J : List Int}, TiGood l J → heldN l lo hi J = cntI (heldB l J) lo (hi - lo + 1).toNat
  | [], _ => by
    have : cntI (heldB l []) lo (hi - lo + 1).toNat = cntI (fun _ => false) lo (hi - lo + 1).toNat := cntI_congr fun i _ => rfl
    rw [this]
    have z : ∀ n, cntI (fun _ => false) lo n = 0 := fun n => by
      induction n with
      | zero => rfl
      | succ n ih => simp [cntI, ih]
    rw [z]; rfl
  | t :: J, h => by
    have pw := List.pairwise_cons.1 h.2
    have hJ : TiGood l J := ⟨fun s hs => h.1 s (by simp [hs]), pw.2⟩
    have ih := heldN_cnt hlh hJ
    have e : cntI (heldB l (t :: J)) lo (hi - lo + 1).toNat = cntI (fun x => (decide (loN l t ≤ x) && decide (x ≤ hiN l t)) || heldB l J x) lo (hi - lo + 1).toNat := cntI_congr fun i _ => by simp [heldB]
    rw [e, cntI_or, cntI_run, ← ih]
    · show ovN l lo hi t + heldN l lo hi J = _
      unfold ovN
      have w : lo + ((hi - lo + 1).toNat : Int) - 1 = hi := by omega
      rw [w]
    · rintro i hi ⟨a, b⟩
      obtain ⟨s, hs, c, d⟩ := (heldB_iff l J _).1 b
      have r := (pw.1 s hs).1
      simp at a
      omega
theorem heldN_bd {l lo hi : Int} (hlh : lo ≤ hi) {J : List Int} (h : TiGood l J) : 0 ≤ heldN l lo hi J ∧ heldN l lo hi J ≤ hi - lo + 1 := by
  rw [heldN_cnt (by omega) h]
  have := cntI_bd (heldB l J) lo (hi - lo + 1).toNat
  omega
/-- how many of the values from lo to hi are held by some of J -/
def hcN (l lo hi : Int) (J : List Int) : Int := cntI (heldB l J) lo (hi - lo + 1).toNat
theorem hcN_bd {l lo hi : Int} {J : List Int} (hlh : lo ≤ hi) : 0 ≤ hcN l lo hi J ∧ hcN l lo hi J ≤ hi - lo + 1 := by
  have := cntI_bd (heldB l J) lo (hi - lo + 1).toNat
  unfold hcN; omega
theorem hcN_same {l lo hi : Int} {J T : List Int} (e : ∀ x, Held l J x ↔ Held l T x) : hcN l lo hi J = hcN l lo hi T :=
  cntI_congr fun i _ => by rw [Bool.eq_iff_iff, heldB_iff, heldB_iff]; exact e _
theorem heldN_hc {l lo hi : Int} {J T : List Int} (hlh : lo ≤ hi) (h : TiGood l J) (e : ∀ x, Held l J x ↔ Held l T x) : heldN l lo hi J = hcN l lo hi T := (heldN_cnt (by omega) h).trans (hcN_same e)
/-- what weighs on nodes, and off them -/
def onL (l : Int) (J : List Int) (L : List Nd) : Int := wtF (fun n => decide (hcN l (loN l n) (hiN l n) J = hiN l n - loN l n + 1)) L
def onH (l : Int) (J : List Int) (L : List Nd) : Int := wtF (fun n => decide (0 < hcN l (loN l n) (hiN l n) J)) L
def ofL (l : Int) (J : List Int) (L : List Nd) : Int := wtF (fun n => decide (hcN l (loN l n) (hiN l n) J = 0)) L
def ofH (l : Int) (J : List Int) (L : List Nd) : Int := wtF (fun n => decide (hcN l (loN l n) (hiN l n) J < hiN l n - loN l n + 1)) L
/-- on the rest it is off -/
theorem on_rest {l : Int} {J K : List Int} {L : List Nd} (h : RollC l L) (e : ∀ x, Held l K x ↔ (0 ≤ x ∧ x < 2 ^ l.toNat) ∧ ¬ Held l J x) : onL l K L = ofL l J L ∧ onH l K L = ofH l J L := by
  have key : ∀ n ∈ L, hcN l (loN l n.1) (hiN l n.1) K = hiN l n.1 - loN l n.1 + 1 - hcN l (loN l n.1) (hiN l n.1) J := fun n hn => by
    have ne := node_ends h hn
    unfold hcN
    have a := cntI_not (heldB l J) (loN l n.1) (hiN l n.1 - loN l n.1 + 1).toNat
    have b : cntI (heldB l K) (loN l n.1) (hiN l n.1 - loN l n.1 + 1).toNat = cntI (fun x => !(heldB l J x)) (loN l n.1) (hiN l n.1 - loN l n.1 + 1).toNat := cntI_congr fun i hi => by
      have x := heldB_iff l K (loN l n.1 + i)
      have y := heldB_iff l J (loN l n.1 + i)
      have z := e (loN l n.1 + i)
      rw [Bool.eq_iff_iff, x, z]
      simp only [Bool.not_eq_true', Bool.eq_false_iff, ne_eq, y]
      exact ⟨fun q => q.2, fun q => ⟨by omega, q⟩⟩
    omega
  refine ⟨wtF_eq fun n hn => ?_, wtF_eq fun n hn => ?_⟩
  · rw [key n hn]; exact decide_eq_decide.2 (by omega)
  · rw [key n hn]; exact decide_eq_decide.2 (by omega)
end Go.Proofs.YtmfdpaahklndnaaGreat
namespace Go.Proofs.YtmfdpaahklndnaaGreat
set_option linter.unusedVariables false
/-- where all values of a node are held by tiles, one of these holds them all -/
theorem tile_cover {l n : Int} (hn : Node l n) : ∀ {J : List Int}, TiGood l J → (∀ x, loN l n ≤ x → x ≤ hiN l n → Held l J x) → ∃ t ∈ J, loN l t ≤ loN l n ∧ hiN l n ≤ hiN l t := by
  intro J
  have bn := node_bd hn
  induction J with
  | nil => intro _ hc; exact absurd (hc _ (Int.le_refl _) bn.2.1) (held_nil _ _)
  | cons A R ih =>
    intro hg hc
    obtain ⟨nA, gR, rA⟩ := good_tail hg
    have bA := node_bd nA
    rcases Int.lt_or_le (hiN l A) (loN l n) with hlt | hge
    · obtain ⟨t, ht, q⟩ := ih gR fun x g1 g2 => by
        have := hc x g1 g2
        rw [held_cons] at this
        rcases this with g | g
        · omega
        · exact g
      exact ⟨t, by simp [ht], q⟩
    · have hA : loN l A ≤ loN l n := by
        have := hc _ (Int.le_refl _) bn.2.1
        rw [held_cons] at this
        rcases this with g | ⟨t, ht, g⟩
        · exact g.1
        · have := (rA t ht).1; omega
      rcases nest nA hn with q | q | q | q
      · omega
      · omega
      · obtain ⟨k, j, f⟩ := node_form hn
        have := first_cover l j k n f hn A R hg (by omega) hc
        exact ⟨A, by simp, hA, this⟩
      · exact ⟨A, by simp, q⟩
/-- how many tiles end ahead of a number -/
def fstT (l x : Int) : List Int → Nat
  | [] => 0
  | t :: J => if hiN l t < x then fstT l x J + 1 else 0
theorem fstT_le (l x : Int) : ∀ J : List Int, fstT l x J ≤ J.length
  | [] => Nat.le_refl _
  | t :: J => by
    have := fstT_le l x J
    simp only [fstT, List.length_cons]
    split <;> omega
theorem fstT_yes {l x t : Int} (J : List Int) (h : hiN l t < x) : fstT l x (t :: J) = fstT l x J + 1 := if_pos h
theorem fstT_not {l x t : Int} (J : List Int) (h : ¬ hiN l t < x) : fstT l x (t :: J) = 0 := if_neg h
theorem fstT_is {l x : Int} : ∀ {J : List Int}, TiGood l J → ∀ k, k < J.length → decide (x ≤ hiN l (J.getD k 0)) = decide (fstT l x J ≤ k)
  | [], _, k, hk => by simp at hk
  | t :: J, h, k, hk => by
    obtain ⟨nt, gJ, rt⟩ := good_tail h
    refine decide_eq_decide.2 ?_
    by_cases c : hiN l t < x
    · have e := fstT_yes J c
      cases k with
      | zero =>
        rw [List.getD_cons_zero]
        omega
      | succ k =>
        rw [List.getD_cons_succ]
        have q := decide_eq_decide.1 (fstT_is (x := x) gJ k (by simpa using hk))
        omega
    · have e := fstT_not J c
      cases k with
      | zero =>
        rw [List.getD_cons_zero]
        omega
      | succ k =>
        rw [List.getD_cons_succ]
        have hk : k < J.length := by simpa using hk
        have hm : J.getD k 0 ∈ J := by
          rw [List.getD_eq_getElem?_getD, List.getElem?_eq_getElem hk]
          exact List.getElem_mem hk
        have a := (rt _ hm).1
        have b := node_bd (gJ.1 _ hm)
        omega
/-- how a node lies on tiles: all of its values there, and one of them -/
def tlA (l : Int) (J : List Int) (n : Int) : Bool := decide (hcN l (loN l n) (hiN l n) J = hiN l n - loN l n + 1)
def tlO (l : Int) (J : List Int) (n : Int) : Bool := decide (0 < hcN l (loN l n) (hiN l n) J)
theorem hcN_all {l lo hi : Int} {J : List Int} (h : lo ≤ hi) : hcN l lo hi J = hi - lo + 1 ↔ ∀ x, lo ≤ x → x ≤ hi → Held l J x := by
  have a := cntI_all (P := heldB l J) (lo := lo) (n := (hi - lo + 1).toNat)
  unfold hcN
  rw [show (((hi - lo + 1).toNat : Nat) : Int) = hi - lo + 1 by omega] at a
  refine a.trans ⟨fun q x g1 g2 => ?_, fun q i hi => (heldB_iff ..).2 (q _ (by omega) (by omega))⟩
  have := q (x - lo).toNat (by omega)
  rw [show lo + ((x - lo).toNat : Int) = x by omega] at this
  exact (heldB_iff ..).1 this
theorem hcN_one {l lo hi : Int} {J : List Int} (h : lo ≤ hi) : 0 < hcN l lo hi J ↔ ∃ x, lo ≤ x ∧ x ≤ hi ∧ Held l J x := by
  unfold hcN
  refine cntI_pos.trans ⟨fun ⟨i, hi, q⟩ => ⟨_, by omega, by omega, (heldB_iff ..).1 q⟩, fun ⟨x, g1, g2, q⟩ => ⟨(x - lo).toNat, by omega, ?_⟩⟩
  rw [show lo + ((x - lo).toNat : Int) = x by omega]
  exact (heldB_iff ..).2 q
theorem getD_in {J : List Int} {k : Nat} (hk : k < J.length) : J.getD k 0 ∈ J := by
  rw [List.getD_eq_getElem?_getD, List.getElem?_eq_getElem hk]
  exact List.getElem_mem hk
theorem mem_getD {J : List Int} {t : Int} (h : t ∈ J) : ∃ k, k < J.length ∧ J.getD k 0 = t := by
  obtain ⟨k, hk, e⟩ := List.getElem_of_mem h
  exact ⟨k, hk, by rw [List.getD_eq_getElem?_getD, List.getElem?_eq_getElem hk]; exact e⟩
theorem good_at {l : Int} {J : List Int} (h : TiGood l J) {i j : Nat} (hij : i < j) (hj : j < J.length) : hiN l (J.getD i 0) < loN l (J.getD j 0) := by
  have := (List.pairwise_iff_getElem.1 h.2) i j (by omega) hj hij
  rw [List.getD_eq_getElem?_getD, List.getElem?_eq_getElem (show i < J.length by omega), List.getD_eq_getElem?_getD, List.getElem?_eq_getElem hj]
  exact this.1
/-- none of the tiles ends as late as the node begins -/
theorem tile_none {l n : Int} {J : List Int} (h : TiGood l J) (hn : Node l n) (e : fstT l (loN l n) J = J.length) : tlA l J n = false ∧ tlO l J n = false := by
  have bn := node_bd hn
  have z : ¬ 0 < hcN l (loN l n) (hiN l n) J := fun q => by
    obtain ⟨x, g1, g2, t, ht, g3, g4⟩ := (hcN_one bn.2.1).1 q
    obtain ⟨k, hk, rfl⟩ := mem_getD ht
    have := of_decide_eq_true ((fstT_is (x := loN l n) h k hk).symm.trans (decide_eq_true (by omega)))
    omega
  have b := hcN_bd (l := l) (J := J) bn.2.1
  exact ⟨decide_eq_false (by omega), decide_eq_false z⟩
/-- the first tile that does tells both -/
theorem tile_first {l n : Int} {J : List Int} (h : TiGood l J) (hn : Node l n) {k : Nat} (e : fstT l (loN l n) J = k) (hk : k < J.length) :
    tlA l J n = (decide (loN l (J.getD k 0) ≤ loN l n) && decide (hiN l n ≤ hiN l (J.getD k 0))) ∧ tlO l J n = decide (loN l (J.getD k 0) ≤ hiN l n) := by
  have bn := node_bd hn
  subst e
  have hi0 : loN l n ≤ hiN l (J.getD (fstT l (loN l n) J) 0) := of_decide_eq_true ((fstT_is (x := loN l n) h _ hk).trans (decide_eq_true (Nat.le_refl _)))
  have bt := node_bd (h.1 _ (getD_in hk))
  have key : ∀ t ∈ J, loN l n ≤ hiN l t → t = J.getD (fstT l (loN l n) J) 0 ∨ hiN l (J.getD (fstT l (loN l n) J) 0) < loN l t := fun t ht q => by
    obtain ⟨j, hj, rfl⟩ := mem_getD ht
    have a : fstT l (loN l n) J ≤ j := of_decide_eq_true ((fstT_is (x := loN l n) h j hj).symm.trans (decide_eq_true q))
    rcases Nat.lt_or_ge (fstT l (loN l n) J) j with c | c
    · exact .inr (good_at h c hj)
    · exact .inl (by rw [show j = fstT l (loN l n) J by omega])
  constructor
  · unfold tlA
    rw [← Bool.decide_and]
    refine decide_eq_decide.2 ((hcN_all bn.2.1).trans ⟨fun q => ?_, fun q x g1 g2 => ⟨_, getD_in hk, by omega, by omega⟩⟩)
    obtain ⟨t, ht, q1, q2⟩ := tile_cover hn h q
    rcases key t ht (by omega) with rfl | c
    · exact ⟨q1, q2⟩
    · omega
  · unfold tlO
    refine decide_eq_decide.2 ((hcN_one bn.2.1).trans ⟨fun ⟨x, g1, g2, t, ht, g3, g4⟩ => ?_, fun q => ?_⟩)
    · rcases key t ht (by omega) with rfl | c
      · omega
      · omega
    · exact ⟨max (loN l n) (loN l (J.getD (fstT l (loN l n) J) 0)), by omega, by omega, _, getD_in hk, by omega, by omega⟩
/-- what weighs on nodes hangs on what they hold alone -/
theorem on_same {l : Int} {J T : List Int} {L : List Nd} (e : ∀ x, Held l J x ↔ Held l T x) : onL l J L = onL l T L ∧ onH l J L = onH l T L := by
  unfold onL onH
  exact ⟨wtF_eq fun n _ => by rw [hcN_same e], wtF_eq fun n _ => by rw [hcN_same e]⟩
end Go.Proofs.YtmfdpaahklndnaaGreat
namespace Go.Proofs.YtmfdpaahklndnaaGreat
set_option linter.unusedVariables false
set_option maxRecDepth 100000
open Go.RowKit
/-- Between: why not, and both sums -/
def beE (a b : Int) : Int := if b < a then 2 else 0
def beL (l : Int) (L : List Nd) (a b : Int) : Int := if b < a then 0 else btwL l L a b
def beH (l : Int) (L : List Nd) (a b : Int) : Int := if b < a then 0 else btwH l L a b
theorem be_yes {l a b : Int} {L : List Nd} (h : a ≤ b) : beE a b = 0 ∧ beL l L a b = btwL l L a b ∧ beH l L a b = btwH l L a b := ⟨if_neg (by omega), if_neg (by omega), if_neg (by omega)⟩
theorem be_no {l a b : Int} {L : List Nd} (h : b < a) : beE a b = 2 ∧ beL l L a b = 0 ∧ beH l L a b = 0 := ⟨if_pos h, if_pos h, if_pos h⟩
/-- Share: likewise -/
def ssE (L : List Nd) (a b den : Int) : Int := if sumC L = 0 then 7 else if den < 1 ∨ b < a then 2 else 0
def ssL (l : Int) (L : List Nd) (a b den : Int) : Int := if ssE L a b den = 0 then partN (btwL l L a b) den (sumC L) else 0
def ssH (l : Int) (L : List Nd) (a b den : Int) : Int := if ssE L a b den = 0 then partUpN (btwH l L a b) den (sumC L) else 0
/-- the project's Between -/
structure ReB : Prop where
  bet_nil : ∀ (a b : Int) (w : World), Calls Tryz.prog 7 #[.pointer none, .int .i64 a, .int .i64 b] w fun e w' => e = .returned (.tuple #[.agg #[.int .i64 0, .int .i64 0], .int .i64 1]) ∧ Below w.heap.size w w'
  bet : ∀ {B q p g h : Nat} {kd l k : Int} {n : Nat} {L : List Nd} (a b : Int) (w : World), DgA w B q p g h kd l k n L → n ≤ 400 → -9223372036854775808 ≤ a → a ≤ 9223372036854775807 → -9223372036854775808 ≤ b → b ≤ 9223372036854775807 → Calls Tryz.prog 7 #[.pointer (some ⟨q, 0, none⟩), .int .i64 a, .int .i64 b] w fun e w' => e = .returned (.tuple #[.agg #[.int .i64 (beL l L a b), .int .i64 (beH l L a b)], .int .i64 (beE a b)]) ∧ Below w.heap.size w w'
/-- its Share -/
structure ReS : Prop where
  share_nil : ∀ (a b c : Int) (w : World), Calls Tryz.prog 8 #[.pointer none, .int .i64 a, .int .i64 b, .int .i64 c] w fun e w' => e = .returned (.tuple #[.agg #[.int .i64 0, .int .i64 0], .int .i64 1]) ∧ Below w.heap.size w w'
  share : ∀ {B q p g h : Nat} {kd l k : Int} {n : Nat} {L : List Nd} (a b c : Int) (w : World), DgA w B q p g h kd l k n L → n ≤ 400 → -9223372036854775808 ≤ a → a ≤ 9223372036854775807 → -9223372036854775808 ≤ b → b ≤ 9223372036854775807 → -9223372036854775808 ≤ c → c ≤ 9223372036854775807 → Calls Tryz.prog 8 #[.pointer (some ⟨q, 0, none⟩), .int .i64 a, .int .i64 b, .int .i64 c] w fun e w' => e = .returned (.tuple #[.agg #[.int .i64 (ssL l L a b c), .int .i64 (ssH l L a b c)], .int .i64 (ssE L a b c)]) ∧ Below w.heap.size w w'
/-- its On -/
structure ReO : Prop where
  on_nil : ∀ {A : Option Addr} {n c : Nat} {T : List Int} (w : World), IntsAt w (.slice A n c) T → Bds T → Calls Tryz.prog 13 #[.pointer none, .slice A n c] w fun e w' => e = .returned (.tuple #[.agg #[.int .i64 0, .int .i64 0], .int .i64 1]) ∧ Below w.heap.size w w'
  on_no : ∀ {B q p g h : Nat} {kd l k : Int} {m : Nat} {L : List Nd} {A : Option Addr} {n c : Nat} {T : List Int} (w : World), DgA w B q p g h kd l k m L → m ≤ 400 → IntsAt w (.slice A n c) T → Bds T → n ≤ 5000 → NotAll l T → Calls Tryz.prog 13 #[.pointer (some ⟨q, 0, none⟩), .slice A n c] w fun e w' => e = .returned (.tuple #[.agg #[.int .i64 0, .int .i64 0], .int .i64 2]) ∧ Below w.heap.size w w'
  on_yes : ∀ {B q p g h : Nat} {kd l k : Int} {m : Nat} {L : List Nd} {A : Option Addr} {n c : Nat} {T : List Int} (w : World), DgA w B q p g h kd l k m L → m ≤ 400 → IntsAt w (.slice A n c) T → Bds T → n ≤ 5000 → IsAll l T → Calls Tryz.prog 13 #[.pointer (some ⟨q, 0, none⟩), .slice A n c] w fun e w' => e = .returned (.tuple #[.agg #[.int .i64 (onL l T L), .int .i64 (onH l T L)], .int .i64 0]) ∧ Below w.heap.size w w'
/-- its Off -/
structure ReF : Prop where
  off_nil : ∀ {A : Option Addr} {n c : Nat} {T : List Int} (w : World), IntsAt w (.slice A n c) T → Bds T → Calls Tryz.prog 14 #[.pointer none, .slice A n c] w fun e w' => e = .returned (.tuple #[.agg #[.int .i64 0, .int .i64 0], .int .i64 1]) ∧ Below w.heap.size w w'
  off_no : ∀ {B q p g h : Nat} {kd l k : Int} {m : Nat} {L : List Nd} {A : Option Addr} {n c : Nat} {T : List Int} (w : World), DgA w B q p g h kd l k m L → m ≤ 400 → IntsAt w (.slice A n c) T → Bds T → n ≤ 5000 → NotAll l T → Calls Tryz.prog 14 #[.pointer (some ⟨q, 0, none⟩), .slice A n c] w fun e w' => e = .returned (.tuple #[.agg #[.int .i64 0, .int .i64 0], .int .i64 2]) ∧ Below w.heap.size w w'
  off_yes : ∀ {B q p g h : Nat} {kd l k : Int} {m : Nat} {L : List Nd} {A : Option Addr} {n c : Nat} {T : List Int} (w : World), DgA w B q p g h kd l k m L → m ≤ 400 → IntsAt w (.slice A n c) T → Bds T → n ≤ 5000 → IsAll l T → Calls Tryz.prog 14 #[.pointer (some ⟨q, 0, none⟩), .slice A n c] w fun e w' => e = .returned (.tuple #[.agg #[.int .i64 (ofL l T L), .int .i64 (ofH l T L)], .int .i64 0]) ∧ Below w.heap.size w w'
end Go.Proofs.YtmfdpaahklndnaaGreat
