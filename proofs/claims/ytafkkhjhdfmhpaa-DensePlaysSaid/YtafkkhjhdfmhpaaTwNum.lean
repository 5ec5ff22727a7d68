/- Plain numbers: nodes of the complete binary trees: depths, ends, ways up, meeting points. No program is spoken of here. -/
import Derived.Test.YtafkkhjhdfmhpaaSpec
import Derived.Lib.ItoaNum
namespace Go.Proofs.Ytafkkhjhdfmhpaa
set_option linter.unusedVariables false

/-- the greatest e for which 2 to the power e isn't above n -/
def logN (n : Int) : Int := onN (1 ≤ n) ((Lib.bitLen n.toNat : Int) - 1)
def logB (n : Int) : Bool := onB (1 ≤ n)
theorem log_yes {n : Int} (h : 1 ≤ n) : logN n = (Lib.bitLen n.toNat : Int) - 1 ∧ logB n = true := on_yes h _
theorem log_no {n : Int} (h : ¬ 1 ≤ n) : logN n = 0 ∧ logB n = false := on_no h _
theorem two_le (k n : Nat) (h : k ≤ n) : (2 : Int) ^ k ≤ 2 ^ n := by
  have h1 := Nat.pow_le_pow_right (show 0 < 2 by decide) h
  have e1 : ((2 ^ k : Nat) : Int) = (2 : Int) ^ k := by rw [Int.natCast_pow]; rfl
  have e2 : ((2 ^ n : Nat) : Int) = (2 : Int) ^ n := by rw [Int.natCast_pow]; rfl
  omega
theorem two_lt {k n : Nat} (h : (2 : Int) ^ k < 2 ^ n) : k < n := by
  by_cases e : k < n
  · exact e
  · have := two_le n k (by omega); omega
theorem two_add (i k : Nat) : (2 : Int) ^ (i + k) = 2 ^ i * 2 ^ k := Int.pow_add ..

/-- k is the depth of id -/
def AtDep (id : Int) (k : Nat) : Prop := 2 ^ k ≤ id ∧ id < 2 * 2 ^ k
theorem dep_uniq {id : Int} {k m : Nat} (a : AtDep id k) (b : AtDep id m) : k = m := by
  obtain ⟨a1, a2⟩ := a; obtain ⟨b1, b2⟩ := b
  have h1 : (2 : Int) ^ k < 2 ^ (m + 1) := by rw [two_succ]; omega
  have h2 : (2 : Int) ^ m < 2 ^ (k + 1) := by rw [two_succ]; omega
  have := two_lt h1; have := two_lt h2; omega
theorem dep_of {id : Int} (h : 1 ≤ id) (h1 : id ≤ 9223372036854775807) : ∃ k : Nat, k ≤ 62 ∧ logN id = k ∧ logB id = true ∧ AtDep id k := by
  obtain ⟨n, rfl⟩ := Int.eq_ofNat_of_zero_le (show 0 ≤ id by omega)
  have hb := Lib.bitLenAux_bounds 64 n (by omega) (by omega)
  have e : Lib.bitLen n = Lib.bitLenAux 64 n := rfl
  have hl := Lib.bitLen_le n 63 (by omega) (by omega)
  obtain ⟨b1, b2, b3⟩ := hb
  rw [← e] at b1 b2 b3
  refine ⟨Lib.bitLen n - 1, by omega, ?_, (log_yes h).2, ?_⟩
  · rw [(log_yes h).1]; simp; omega
  · have e1 : ((2 ^ (Lib.bitLen n - 1) : Nat) : Int) = (2 : Int) ^ (Lib.bitLen n - 1) := by rw [Int.natCast_pow]; rfl
    have e2 : (2 : Nat) ^ Lib.bitLen n = 2 * 2 ^ (Lib.bitLen n - 1) := by
      conv => lhs; rw [show Lib.bitLen n = (Lib.bitLen n - 1) + 1 by omega]
      rw [Nat.pow_succ]; omega
    unfold AtDep; omega
theorem dep_is {id : Int} {k : Nat} (h : AtDep id k) (h1 : id ≤ 9223372036854775807) : logN id = k ∧ logB id = true := by
  have h0 := two_pos k
  obtain ⟨m, _, e, eb, hm⟩ := dep_of (id := id) (by have := h.1; omega) h1
  rw [dep_uniq h hm]; exact ⟨e, eb⟩
theorem log_bd {id : Int} (h1 : id ≤ 9223372036854775807) : 0 ≤ logN id ∧ logN id ≤ 62 := by
  by_cases h : 1 ≤ id
  · obtain ⟨k, hk, e, _⟩ := dep_of h h1; omega
  · rw [(log_no h).1]; decide
theorem div_is {x d q : Int} (h1 : q * d ≤ x) (h2 : x < q * d + d) : x / d = q := by
  have hd : 0 < d := by omega
  have e1 : q ≤ x / d := (Int.le_ediv_iff_mul_le hd).2 h1
  have e2 : x / d < q + 1 := (Int.ediv_lt_iff_lt_mul hd).2 (by rw [Int.add_mul]; omega)
  omega
theorem div_bds (x : Int) {d : Int} (hd : 0 < d) : x / d * d ≤ x ∧ x < x / d * d + d := by
  have h1 := Int.mul_ediv_add_emod x d
  have h2 := Int.emod_nonneg x (show d ≠ 0 by omega)
  have h3 := Int.emod_lt_of_pos x hd
  have h4 := Int.mul_comm d (x / d)
  omega
theorem two_div (x : Int) (a b : Nat) : x / 2 ^ a / 2 ^ b = x / 2 ^ (a + b) := by
  rw [two_add, Int.ediv_ediv_of_nonneg (Int.le_of_lt (two_pos a))]
theorem half_div (x : Int) (b : Nat) : x / 2 / 2 ^ b = x / 2 ^ (b + 1) := by
  have := two_div x 1 b
  rw [Nat.add_comm b 1]; simpa using this
theorem div_half (x : Int) (a : Nat) : x / 2 ^ a / 2 = x / 2 ^ (a + 1) := by
  have := two_div x a 1
  simpa using this
/-- so many steps up -/
theorem dep_up {id : Int} {k b : Nat} (h : AtDep id k) (hb : b ≤ k) : AtDep (id / 2 ^ b) (k - b) := by
  obtain ⟨h1, h2⟩ := h
  have e : (2 : Int) ^ k = 2 ^ (k - b) * 2 ^ b := by rw [← two_add]; congr 1; omega
  have hp := two_pos b
  have g := div_bds id hp
  constructor
  · exact (Int.le_ediv_iff_mul_le hp).2 (by omega)
  · exact (Int.ediv_lt_iff_lt_mul hp).2 (by rw [Int.mul_assoc, ← e]; exact h2)
theorem dep_half {id : Int} {k : Nat} (h : AtDep id (k + 1)) : AtDep (id / 2) k := by
  have := dep_up (b := 1) h (by omega)
  simpa using this
theorem dep_kids {id : Int} {k : Nat} (h : AtDep id k) : AtDep (2 * id) (k + 1) ∧ AtDep (2 * id + 1) (k + 1) := by
  obtain ⟨h1, h2⟩ := h
  unfold AtDep
  rw [two_succ]; omega
theorem dep_zero {id : Int} (h : AtDep id 0) : id = 1 := by
  obtain ⟨h1, h2⟩ := h
  simp at h1 h2; omega

/-! ### what the calls of layer twig answer -/
def uniB (l : Int) : Bool := decide (1 ≤ l ∧ l ≤ 48)
theorem uni_yes {l : Int} (h : 1 ≤ l ∧ l ≤ 48) : uniB l = true := decide_eq_true h
theorem uni_no {l : Int} (h : ¬ (1 ≤ l ∧ l ≤ 48)) : uniB l = false := decide_eq_false h
/-- is id a node of the universe of l bits? -/
def RightC (l id : Int) : Prop := 1 ≤ l ∧ l ≤ 48 ∧ 1 ≤ id ∧ logN id ≤ l
instance (l id : Int) : Decidable (RightC l id) := by unfold RightC; infer_instance
def rightB (l id : Int) : Bool := decide (RightC l id)
theorem right_yes {l id : Int} (h : RightC l id) : rightB l id = true := decide_eq_true h
theorem right_no {l id : Int} (h : ¬ RightC l id) : rightB l id = false := decide_eq_false h
/-- is it a leaf? -/
def LeafC (l id : Int) : Prop := 1 ≤ l ∧ l ≤ 48 ∧ 1 ≤ id ∧ logN id = l
instance (l id : Int) : Decidable (LeafC l id) := by unfold LeafC; infer_instance
def isLeafB (l id : Int) : Bool := decide (LeafC l id)
theorem isLeaf_yes {l id : Int} (h : LeafC l id) : isLeafB l id = true := decide_eq_true h
theorem isLeaf_no {l id : Int} (h : ¬ LeafC l id) : isLeafB l id = false := decide_eq_false h
/-- the leaf of x -/
def ValC (l x : Int) : Prop := 1 ≤ l ∧ l ≤ 48 ∧ 0 ≤ x ∧ x < 2 ^ l.toNat
instance (l x : Int) : Decidable (ValC l x) := by unfold ValC; infer_instance
def leafN (l x : Int) : Int := onN (ValC l x) (2 ^ l.toNat + x)
def leafB (l x : Int) : Bool := onB (ValC l x)
theorem leaf_yes {l x : Int} (h : ValC l x) : leafN l x = 2 ^ l.toNat + x ∧ leafB l x = true := on_yes h _
theorem leaf_no {l x : Int} (h : ¬ ValC l x) : leafN l x = 0 ∧ leafB l x = false := on_no h _
def valN (l id : Int) : Int := onN (LeafC l id) (id - 2 ^ l.toNat)
def valB (l id : Int) : Bool := onB (LeafC l id)
theorem val_yes {l id : Int} (h : LeafC l id) : valN l id = id - 2 ^ l.toNat ∧ valB l id = true := on_yes h _
theorem val_no {l id : Int} (h : ¬ LeafC l id) : valN l id = 0 ∧ valB l id = false := on_no h _
/-- how many values a node holds -/
def wid (l id : Int) : Int := 2 ^ (l - logN id).toNat
def loN (l id : Int) : Int := onN (RightC l id) (id * wid l id - 2 ^ l.toNat)
def hiN (l id : Int) : Int := onN (RightC l id) (id * wid l id - 2 ^ l.toNat + wid l id - 1)
def endB (l id : Int) : Bool := onB (RightC l id)
theorem end_yes {l id : Int} (h : RightC l id) : loN l id = id * wid l id - 2 ^ l.toNat ∧ hiN l id = id * wid l id - 2 ^ l.toNat + wid l id - 1 ∧ endB l id = true := ⟨(on_yes h _).1, on_yes h _⟩
theorem end_no {l id : Int} (h : ¬ RightC l id) : loN l id = 0 ∧ hiN l id = 0 ∧ endB l id = false := ⟨if_neg h, if_neg h, decide_eq_false h⟩
theorem wid_pos (l id : Int) : 0 < wid l id := two_pos _
theorem right_dep {l id : Int} (h : RightC l id) (h1 : id ≤ 9223372036854775807) : ∃ k j : Nat, logN id = k ∧ l = (k + j : Nat) ∧ k + j ≤ 48 ∧ 1 ≤ k + j ∧ AtDep id k ∧ wid l id = 2 ^ j := by
  obtain ⟨a, b, c, d⟩ := h
  obtain ⟨k, hk, e, _, hd⟩ := dep_of c h1
  refine ⟨k, (l - k).toNat, e, by omega, by omega, by omega, hd, ?_⟩
  unfold wid; rw [e]
theorem right_id {l id : Int} (h : RightC l id) (h1 : id ≤ 9223372036854775807) : id ≤ 562949953421311 := by
  obtain ⟨k, j, _, _, hkj, _, hd, _⟩ := right_dep h h1
  have := two_le k 48 (by omega)
  have := hd.2
  omega
theorem wid_bd {l id : Int} (h : RightC l id) (h1 : id ≤ 9223372036854775807) : 2 ^ l.toNat ≤ id * wid l id ∧ id * wid l id + wid l id ≤ 2 * 2 ^ l.toNat := by
  obtain ⟨k, j, e, rfl, hkj, _, hd, hw⟩ := right_dep h h1
  have hp := two_pos j
  have e1 : (2 : Int) ^ ((k + j : Nat) : Int).toNat = 2 ^ k * 2 ^ j := by rw [← two_add]; rfl
  rw [e1, hw]
  obtain ⟨d1, d2⟩ := hd
  have g1 := Int.mul_le_mul_of_nonneg_right d1 (Int.le_of_lt hp)
  have g2 := Int.mul_le_mul_of_nonneg_right (show id + 1 ≤ 2 * 2 ^ k by omega) (Int.le_of_lt hp)
  rw [Int.add_mul, Int.mul_assoc] at g2
  omega
def tUpC (id b : Int) : Prop := 1 ≤ id ∧ 0 ≤ b ∧ b ≤ logN id
instance (id b : Int) : Decidable (tUpC id b) := by unfold tUpC; infer_instance
def tUpN (id b : Int) : Int := onN (tUpC id b) (id / 2 ^ b.toNat)
def tUpB (id b : Int) : Bool := onB (tUpC id b)
theorem tUp_yes {id b : Int} (h : tUpC id b) : tUpN id b = id / 2 ^ b.toNat ∧ tUpB id b = true := on_yes h _
theorem tUp_no {id b : Int} (h : ¬ tUpC id b) : tUpN id b = 0 ∧ tUpB id b = false := on_no h _
def pairN (id : Int) : Int := onN (2 ≤ id) (if id % 2 = 0 then id + 1 else id - 1)
def pairB (id : Int) : Bool := onB (2 ≤ id)
theorem pair_yes {id : Int} (h : 2 ≤ id) : pairN id = (if id % 2 = 0 then id + 1 else id - 1) ∧ pairB id = true := on_yes h _
theorem pair_no {id : Int} (h : ¬ 2 ≤ id) : pairN id = 0 ∧ pairB id = false := on_no h _
def KidC (l id : Int) : Prop := RightC l id ∧ ¬ LeafC l id
instance (l id : Int) : Decidable (KidC l id) := by unfold KidC; infer_instance
def kidN (l id : Int) : Int := onN (KidC l id) (2 * id)
def kid2N (l id : Int) : Int := onN (KidC l id) (2 * id + 1)
def kidB (l id : Int) : Bool := onB (KidC l id)
theorem kid_yes {l id : Int} (h : KidC l id) : kidN l id = 2 * id ∧ kid2N l id = 2 * id + 1 ∧ kidB l id = true := ⟨(on_yes h _).1, on_yes h _⟩
theorem kid_no {l id : Int} (h : ¬ KidC l id) : kidN l id = 0 ∧ kid2N l id = 0 ∧ kidB l id = false := ⟨if_neg h, if_neg h, decide_eq_false h⟩
/-- the node, or the one above it of that depth -/
def PruC (id d : Int) : Prop := 1 ≤ id ∧ 0 ≤ d
instance (id d : Int) : Decidable (PruC id d) := by unfold PruC; infer_instance
def pruN (id d : Int) : Int := onN (PruC id d) (id / 2 ^ (logN id - d).toNat)
def pruB (id d : Int) : Bool := onB (PruC id d)
theorem pru_yes {id d : Int} (h : PruC id d) : pruN id d = id / 2 ^ (logN id - d).toNat ∧ pruB id d = true := on_yes h _
theorem pru_no {id d : Int} (h : ¬ PruC id d) : pruN id d = 0 ∧ pruB id d = false := on_no h _
/-- is a the node b, or above it? -/
def aboveB (a b : Int) : Bool := decide (1 ≤ a ∧ 1 ≤ b ∧ a = b / 2 ^ (logN b - logN a).toNat)
theorem above_yes {a b : Int} (h : 1 ≤ a ∧ 1 ≤ b ∧ a = b / 2 ^ (logN b - logN a).toNat) : aboveB a b = true := decide_eq_true h
theorem above_no {a b : Int} (h : ¬ (1 ≤ a ∧ 1 ≤ b ∧ a = b / 2 ^ (logN b - logN a).toNat)) : aboveB a b = false := decide_eq_false h
theorem above_step {a y : Int} (ha : 1 ≤ a) (h : a < y) (hy : y ≤ 9223372036854775807) : aboveB a y = aboveB a (y / 2) := by
  obtain ⟨k, _, ea, _, da⟩ := dep_of ha (by omega)
  obtain ⟨m, _, ey, _, dy⟩ := dep_of (id := y) (by omega) hy
  have hm : k ≤ m := by
    by_cases e : k ≤ m
    · exact e
    · have h1 := two_le (m + 1) k (by omega)
      rw [two_succ] at h1
      have := da.1; have := dy.2; omega
  have hm1 : m ≠ 0 := fun g => by
    subst g
    have := dep_zero dy; omega
  obtain ⟨j, rfl⟩ := Nat.exists_eq_succ_of_ne_zero hm1
  have dh := dep_half dy
  have eh := (dep_is dh (by omega)).1
  rw [Bool.eq_iff_iff]
  unfold aboveB
  rw [decide_eq_true_iff, decide_eq_true_iff, ea, ey, eh]
  by_cases g : k = j + 1
  · subst g
    constructor
    · intro ⟨_, _, e⟩
      rw [show ((Nat.succ j : Nat) - ((j + 1 : Nat) : Int)).toNat = 0 by omega] at e
      simp at e; omega
    · intro ⟨_, _, e⟩
      rw [show ((j : Int) - ((j + 1 : Nat) : Int)).toNat = 0 by omega] at e
      simp at e
      rw [← e] at dh
      have := dep_uniq da dh; omega
  · have e1 : ((Nat.succ j : Nat) - (k : Int)).toNat = ((j : Int) - (k : Int)).toNat + 1 := by omega
    rw [e1, ← half_div]
    constructor
    · intro ⟨a1, _, e⟩; exact ⟨a1, by omega, e⟩
    · intro ⟨a1, _, e⟩; exact ⟨a1, by omega, e⟩
theorem above_end {a y : Int} (ha : 1 ≤ a) (h : y ≤ a) (h1 : a ≤ 9223372036854775807) : aboveB a y = (a == y) := by
  by_cases hy : 1 ≤ y
  · obtain ⟨k, _, ea, _, da⟩ := dep_of ha h1
    obtain ⟨m, _, ey, _, dy⟩ := dep_of hy (by omega)
    have hm : m ≤ k := by
      by_cases e : m ≤ k
      · exact e
      · have h1 := two_le (k + 1) m (by omega)
        rw [two_succ] at h1
        have := da.2; have := dy.1; omega
    rw [Bool.eq_iff_iff, beq_iff_eq]
    unfold aboveB
    rw [decide_eq_true_iff, ea, ey, show ((m : Int) - k).toNat = 0 by omega]
    simp; omega
  · rw [above_no (by omega)]
    symm; simp; omega
def GraC (id b : Int) : Prop := 1 ≤ id ∧ 0 ≤ b ∧ logN id + b ≤ 48
instance (id b : Int) : Decidable (GraC id b) := by unfold GraC; infer_instance
def graN (id b : Int) : Int := onN (GraC id b) (id - 2 ^ (logN id).toNat + 2 ^ (logN id + b).toNat)
def graB (id b : Int) : Bool := onB (GraC id b)
theorem gra_yes {id b : Int} (h : GraC id b) : graN id b = id - 2 ^ (logN id).toNat + 2 ^ (logN id + b).toNat ∧ graB id b = true := on_yes h _
theorem gra_no {id b : Int} (h : ¬ GraC id b) : graN id b = 0 ∧ graB id b = false := on_no h _

/-! ### where two ways up meet -/
def meetF : Nat → Nat → Nat → Nat
  | 0, a, _ => a
  | f + 1, a, b => if a = b then a else if b < a then meetF f (a / 2) b else meetF f a (b / 2)
theorem meetF_eq : ∀ (f g a b : Nat), 1 ≤ a → 1 ≤ b → a + b ≤ f → a + b ≤ g → meetF f a b = meetF g a b := by
  intro f
  induction f with
  | zero => intro g a b; omega
  | succ f ih =>
    intro g a b ha hb h1 h2
    match g with
    | 0 => omega
    | g + 1 =>
      unfold meetF
      by_cases e : a = b
      · rw [if_pos e, if_pos e]
      · rw [if_neg e, if_neg e]
        by_cases l : b < a
        · rw [if_pos l, if_pos l]; exact ih g _ _ (by omega) hb (by omega) (by omega)
        · rw [if_neg l, if_neg l]; exact ih g _ _ ha (by omega) (by omega) (by omega)
def meetI (a b : Int) : Int := meetF (a.toNat + b.toNat) a.toNat b.toNat
theorem meet_same (a : Int) (h : 1 ≤ a) : meetI a a = a := by
  unfold meetI
  rw [show a.toNat + a.toNat = (a.toNat + a.toNat - 1) + 1 by omega, meetF, if_pos rfl]; omega
theorem meet_left {a b : Int} (hb : 1 ≤ b) (h : b < a) : meetI a b = meetI (a / 2) b := by
  unfold meetI
  rw [show a.toNat + b.toNat = (a.toNat + b.toNat - 1) + 1 by omega, meetF, if_neg (show ¬ a.toNat = b.toNat by omega), if_pos (show b.toNat < a.toNat by omega)]
  have h1 : 1 ≤ a.toNat / 2 := by omega
  have h2 : 1 ≤ b.toNat := by omega
  rw [show (a / 2).toNat = a.toNat / 2 by omega]
  rw [meetF_eq (a.toNat + b.toNat - 1) (a.toNat / 2 + b.toNat) _ _ h1 h2 (by omega) (by omega)]
theorem meet_right {a b : Int} (ha : 1 ≤ a) (h : a < b) : meetI a b = meetI a (b / 2) := by
  unfold meetI
  rw [show a.toNat + b.toNat = (a.toNat + b.toNat - 1) + 1 by omega, meetF, if_neg (show ¬ a.toNat = b.toNat by omega), if_neg (show ¬ b.toNat < a.toNat by omega)]
  have h1 : 1 ≤ b.toNat / 2 := by omega
  have h2 : 1 ≤ a.toNat := by omega
  rw [show (b / 2).toNat = b.toNat / 2 by omega]
  rw [meetF_eq (a.toNat + b.toNat - 1) (a.toNat + b.toNat / 2) _ _ h2 h1 (by omega) (by omega)]
/-- both a step up, if both are of one depth -/
theorem meet_both {a b : Int} {k : Nat} (ha : AtDep a k) (hb : AtDep b k) (h : a ≠ b) : meetI a b = meetI (a / 2) (b / 2) := by
  obtain ⟨a1, a2⟩ := ha
  obtain ⟨b1, b2⟩ := hb
  have hp := two_pos k
  by_cases l : b < a
  · rw [meet_left (by omega) l, meet_right (by omega) (by omega)]
  · rw [meet_right (by omega) (by omega), meet_left (by omega) (by omega)]
theorem meet_up {a b : Int} {k m : Nat} (ha : AtDep a k) (hb : AtDep b m) : ∀ s : Nat, s + m ≤ k → meetI a b = meetI (a / 2 ^ s) b := by
  intro s
  induction s with
  | zero => intro _; simp
  | succ s ih =>
    intro h
    rw [ih (by omega), ← div_half]
    have hd := dep_up ha (show s ≤ k by omega)
    obtain ⟨d1, d2⟩ := hd
    have h1 := two_le (m + 1) (k - s) (by omega)
    rw [two_succ] at h1
    have h2 := two_pos m
    exact meet_left (by have := hb.1; omega) (by have := hb.2; omega)
theorem meetF_comm : ∀ (f a b : Nat), meetF f a b = meetF f b a ∨ f < a + b ∨ a < 1 ∨ b < 1 := by
  intro f
  induction f with
  | zero => intro a b; omega
  | succ f ih =>
    intro a b
    by_cases e : a = b
    · subst e; exact .inl rfl
    · by_cases h1 : f + 1 < a + b ∨ a < 1 ∨ b < 1
      · omega
      · left
        unfold meetF
        rw [if_neg e, if_neg (show ¬ b = a by omega)]
        by_cases l : b < a
        · rw [if_pos l, if_neg (by omega)]
          rcases ih (a / 2) b with h | h | h | h
          · exact h
          all_goals omega
        · rw [if_neg l, if_pos (by omega)]
          rcases ih a (b / 2) with h | h | h | h
          · exact h
          all_goals omega
theorem meet_comm {a b : Int} (ha : 1 ≤ a) (hb : 1 ≤ b) : meetI a b = meetI b a := by
  unfold meetI
  rw [Nat.add_comm b.toNat]
  rcases meetF_comm (a.toNat + b.toNat) a.toNat b.toNat with h | h | h | h
  · rw [h]
  all_goals omega
theorem dep_pru {id : Int} {k : Nat} (h : AtDep id k) (m : Nat) : AtDep (id / 2 ^ (k - m)) (min k m) := by
  have := dep_up h (show k - m ≤ k by omega)
  rw [show k - (k - m) = min k m by omega] at this
  exact this
/-- both brought to one depth meet where they met -/
theorem meet_prune {a b : Int} (ha : 1 ≤ a) (hb : 1 ≤ b) (ha1 : a ≤ 9223372036854775807) (hb1 : b ≤ 9223372036854775807) :
    meetI a b = meetI (pruN a (logN b)) (pruN b (logN a)) ∧ ∃ k : Nat, AtDep (pruN a (logN b)) k ∧ AtDep (pruN b (logN a)) k ∧ pruN a (logN b) ≤ a ∧ pruN b (logN a) ≤ b := by
  obtain ⟨k, _, ea, _, da⟩ := dep_of ha ha1
  obtain ⟨m, _, eb, _, db⟩ := dep_of hb hb1
  rw [(pru_yes (id := a) (d := logN b) (by unfold PruC; omega)).1, (pru_yes (id := b) (d := logN a) (by unfold PruC; omega)).1, ea, eb,
    show ((k : Int) - m).toNat = k - m by omega, show ((m : Int) - k).toNat = m - k by omega]
  refine ⟨?_, min k m, dep_pru da m, ?_, Int.ediv_le_self _ (by omega), Int.ediv_le_self _ (by omega)⟩
  · by_cases h : m ≤ k
    · rw [meet_up da db (k - m) (by omega), show m - k = 0 by omega]; simp
    · rw [meet_comm ha hb, meet_up db da (m - k) (by omega), show k - m = 0 by omega]
      simp only [Int.pow_zero, Int.ediv_one]
      exact meet_comm (by have := (dep_up db (show m - k ≤ m by omega)).1; have := two_pos (m - (m - k)); omega) ha
  · rw [Nat.min_comm]; exact dep_pru db k
def meetN (a b : Int) : Int := onN (1 ≤ a ∧ 1 ≤ b) (meetI a b)
def meetB (a b : Int) : Bool := onB (1 ≤ a ∧ 1 ≤ b)
theorem meet_yes {a b : Int} (h : 1 ≤ a ∧ 1 ≤ b) : meetN a b = meetI a b ∧ meetB a b = true := on_yes h _
theorem meet_no {a b : Int} (h : ¬ (1 ≤ a ∧ 1 ≤ b)) : meetN a b = 0 ∧ meetB a b = false := on_no h _

/-! ### laws of nodes -/
theorem end_bd (l id : Int) (h1 : id ≤ 9223372036854775807) : 0 ≤ loN l id ∧ loN l id ≤ 281474976710655 ∧ 0 ≤ hiN l id ∧ hiN l id ≤ 281474976710655 := by
  by_cases h : RightC l id
  · have hw := wid_bd h h1
    have hp := wid_pos l id
    have b1 : (2 : Int) ^ l.toNat ≤ 281474976710656 := two_le l.toNat 48 (by have := h.1; have := h.2.1; omega)
    have e := end_yes h
    omega
  · have e := end_no h
    omega
theorem kid_ends {l id : Int} (h : KidC l id) (h1 : id ≤ 9223372036854775807) :
    endB l (2 * id) = true ∧ endB l (2 * id + 1) = true ∧ loN l (2 * id) = loN l id ∧ hiN l (2 * id + 1) = hiN l id ∧ hiN l (2 * id) = loN l (2 * id + 1) - 1 := by
  obtain ⟨hr, hl⟩ := h
  have hi := right_id hr h1
  obtain ⟨k, j, e, el, hkj, h0, hd, hw⟩ := right_dep hr h1
  have hj : j ≠ 0 := fun g => hl ⟨hr.1, hr.2.1, hr.2.2.1, by rw [e, el, g]; simp⟩
  obtain ⟨i, rfl⟩ := Nat.exists_eq_succ_of_ne_zero hj
  have ⟨d1, d2⟩ := dep_kids hd
  have e1 := (dep_is d1 (by omega)).1
  have e2 := (dep_is d2 (by omega)).1
  have r1 : RightC l (2 * id) := ⟨hr.1, hr.2.1, by have := hr.2.2.1; omega, by omega⟩
  have r2 : RightC l (2 * id + 1) := ⟨hr.1, hr.2.1, by have := hr.2.2.1; omega, by omega⟩
  have w1 : wid l (2 * id) = 2 ^ i := by unfold wid; congr 1; omega
  have w2 : wid l (2 * id + 1) = 2 ^ i := by unfold wid; congr 1; omega
  have a0 := end_yes hr
  have a1 := end_yes r1
  have a2 := end_yes r2
  rw [hw, two_succ] at a0
  rw [w1] at a1
  rw [w2] at a2
  have m1 : id * (2 * 2 ^ i) = 2 * (id * 2 ^ i) := Int.mul_left_comm ..
  have m2 : 2 * id * 2 ^ i = 2 * (id * 2 ^ i) := Int.mul_assoc ..
  have m3 : (2 * id + 1) * 2 ^ i = 2 * (id * 2 ^ i) + 2 ^ i := by rw [Int.add_mul, m2]; omega
  rw [m1] at a0
  rw [m2] at a1
  rw [m3] at a2
  refine ⟨a1.2.2, a2.2.2, ?_, ?_, ?_⟩ <;> omega
theorem above_leaf {l id x : Int} (h : RightC l id) (hx : ValC l x) (h1 : id ≤ 9223372036854775807) :
    aboveB id (leafN l x) = decide (loN l id ≤ x ∧ x ≤ hiN l id) := by
  obtain ⟨k, j, e, rfl, hkj, h0, hd, hw⟩ := right_dep h h1
  have e0 : ((k + j : Nat) : Int).toNat = k + j := rfl
  have b1 := two_le (k + j) 48 hkj
  have hv := hx.2.2
  rw [e0] at hv
  have dl : AtDep (2 ^ (k + j) + x) (k + j) := ⟨by omega, by omega⟩
  have el := (dep_is dl (by omega)).1
  have a0 := end_yes h
  rw [hw, e0] at a0
  rw [(leaf_yes hx).1, e0, Bool.eq_iff_iff]
  unfold aboveB
  rw [decide_eq_true_iff, decide_eq_true_iff, el, e, show (((k + j : Nat) : Int) - k).toNat = j by omega]
  have hp := two_pos j
  have hp2 := two_pos (k + j)
  constructor
  · intro ⟨_, _, g⟩
    have := div_bds (2 ^ (k + j) + x) hp
    rw [← g] at this
    omega
  · intro ⟨g1, g2⟩
    refine ⟨h.2.2.1, by omega, (div_is ?_ ?_).symm⟩ <;> omega
theorem graft_ends {l id b : Int} (h : RightC l id) (h1 : id ≤ 9223372036854775807) (b0 : 0 ≤ b) (b1 : b ≤ 48 - l) :
    GraC id b ∧ graN id b ≤ 562949953421312 ∧ 0 ≤ graN id b ∧ loN (l + b) (graN id b) = loN l id ∧ hiN (l + b) (graN id b) = hiN l id ∧ endB (l + b) (graN id b) = true := by
  obtain ⟨k, j, e, rfl, hkj, h0, hd, hw⟩ := right_dep h h1
  obtain ⟨c, rfl⟩ := Int.eq_ofNat_of_zero_le b0
  have gc : GraC id c := ⟨h.2.2.1, by omega, by omega⟩
  have gv := (gra_yes gc).1
  rw [e, show ((k : Int)).toNat = k from rfl, show ((k : Int) + (c : Int)).toNat = k + c by omega] at gv
  have dg : AtDep (graN id c) (k + c) := by
    rw [gv]
    have := two_le k (k + c) (by omega)
    unfold AtDep at hd ⊢; omega
  have bb := two_le (k + c) 48 (by omega)
  have gb : graN id c ≤ 562949953421312 := by have := dg.2; omega
  have eg := (dep_is dg (by omega)).1
  have rg : RightC (((k + j : Nat) : Int) + c) (graN id c) := ⟨by omega, by omega, by have := dg.1; have := two_pos (k + c); omega, by omega⟩
  have wg : wid (((k + j : Nat) : Int) + c) (graN id c) = 2 ^ j := by unfold wid; congr 1; omega
  have a0 := end_yes h
  have a1 := end_yes rg
  rw [hw, show ((k + j : Nat) : Int).toNat = k + j from rfl] at a0
  rw [wg, show (((k + j : Nat) : Int) + (c : Int)).toNat = (k + c) + j by omega, two_add (k + c) j] at a1
  have m1 : graN id c * 2 ^ j = id * 2 ^ j - 2 ^ (k + j) + 2 ^ (k + c) * 2 ^ j := by
    rw [gv, Int.add_mul, Int.sub_mul, ← two_add k j]
  rw [m1] at a1
  refine ⟨gc, gb, by have := rg.2.2.1; omega, ?_, ?_, a1.2.2⟩ <;> omega
theorem mul_two_div (x : Int) (c : Nat) {y : Int} (h0 : 0 ≤ y) (h1 : y < 2 ^ c) : (x * 2 ^ c + y) / 2 ^ c = x := div_is (by omega) (by omega)
theorem prune_ends {l id b : Int} (h : RightC l id) (h1 : id ≤ 9223372036854775807) (b0 : 0 ≤ b) (b1 : b < l) :
    PruC id (l - b) ∧ pruN id (l - b) ≤ 9223372036854775807 ∧ 0 ≤ pruN id (l - b) ∧ loN (l - b) (pruN id (l - b)) = loN l id / 2 ^ b.toNat ∧ hiN (l - b) (pruN id (l - b)) = hiN l id / 2 ^ b.toNat ∧ endB (l - b) (pruN id (l - b)) = true := by
  obtain ⟨k, j, e, rfl, hkj, h0, hd, hw⟩ := right_dep h h1
  obtain ⟨c, rfl⟩ := Int.eq_ofNat_of_zero_le b0
  have pc : PruC id (((k + j : Nat) : Int) - c) := ⟨h.2.2.1, by omega⟩
  have pv := (pru_yes pc).1
  rw [e, show ((k : Int) - (((k + j : Nat) : Int) - (c : Int))).toNat = c - j by omega] at pv
  have dp := dep_up hd (show c - j ≤ k by omega)
  rw [← pv] at dp
  have hp : 0 < (2 : Int) ^ (c - j) := two_pos _
  have pb : pruN id (((k + j : Nat) : Int) - c) ≤ id := by rw [pv]; exact Int.ediv_le_self _ (by have := h.2.2.1; omega)
  have ep := (dep_is dp (by omega)).1
  have rp : RightC (((k + j : Nat) : Int) - c) (pruN id (((k + j : Nat) : Int) - c)) := ⟨by omega, by omega, by have := dp.1; have := two_pos (k - (c - j)); omega, by omega⟩
  have a0 := end_yes h
  have a1 := end_yes rp
  have wp : wid (((k + j : Nat) : Int) - c) (pruN id (((k + j : Nat) : Int) - c)) = 2 ^ (j - c) := by unfold wid; congr 1; omega
  rw [hw, show ((k + j : Nat) : Int).toNat = k + j from rfl] at a0
  rw [wp, show (((k + j : Nat) : Int) - (c : Int)).toNat = k + j - c by omega, pv] at a1
  refine ⟨pc, by omega, by have := rp.2.2.1; omega, ?_, ?_, by rw [pv]; exact a1.2.2⟩
  · rw [pv, a1.1, a0.1, show ((c : Int)).toNat = c from rfl]
    symm
    by_cases hc : c ≤ j
    · have e1 : (2 : Int) ^ j = 2 ^ (j - c) * 2 ^ c := by rw [← two_add]; congr 1; omega
      have e2 : (2 : Int) ^ (k + j) = 2 ^ (k + j - c) * 2 ^ c := by rw [← two_add]; congr 1; omega
      rw [e1, e2, ← Int.mul_assoc, ← Int.sub_mul, show c - j = 0 by omega, Int.pow_zero, Int.ediv_one]
      exact Int.mul_ediv_cancel _ (by have := two_pos c; omega)
    · have e1 : (2 : Int) ^ c = 2 ^ (c - j) * 2 ^ j := by rw [← two_add]; congr 1; omega
      have e2 : (2 : Int) ^ (k + j) = 2 ^ (k + j - c) * 2 ^ (c - j) * 2 ^ j := by rw [← two_add, ← two_add]; congr 1; omega
      have g := div_bds id hp
      rw [show j - c = 0 by omega, Int.pow_zero, Int.mul_one, e2, ← Int.sub_mul, e1, Int.mul_ediv_mul_of_pos_left _ _ (two_pos j)]
      exact div_is (by rw [Int.sub_mul]; omega) (by rw [Int.sub_mul]; omega)
  · rw [pv, a1.2.1, a0.2.1, show ((c : Int)).toNat = c from rfl]
    symm
    have hj := two_pos j
    by_cases hc : c ≤ j
    · have e1 : (2 : Int) ^ j = 2 ^ (j - c) * 2 ^ c := by rw [← two_add]; congr 1; omega
      have e2 : (2 : Int) ^ (k + j) = 2 ^ (k + j - c) * 2 ^ c := by rw [← two_add]; congr 1; omega
      have hcp := two_pos c
      rw [e1, e2, ← Int.mul_assoc, ← Int.sub_mul, show c - j = 0 by omega, Int.pow_zero, Int.ediv_one]
      exact div_is (by simp only [Int.sub_mul, Int.add_mul, Int.one_mul]; omega) (by simp only [Int.sub_mul, Int.add_mul, Int.one_mul]; omega)
    · have e1 : (2 : Int) ^ c = 2 ^ (c - j) * 2 ^ j := by rw [← two_add]; congr 1; omega
      have e2 : (2 : Int) ^ (k + j) = 2 ^ (k + j - c) * 2 ^ (c - j) * 2 ^ j := by rw [← two_add, ← two_add]; congr 1; omega
      have g := div_bds id hp
      rw [show j - c = 0 by omega, Int.pow_zero, Int.mul_one, e2, ← Int.sub_mul, e1]
      have g1 := Int.mul_le_mul_of_nonneg_right g.1 (Int.le_of_lt hj)
      have g2 := Int.mul_le_mul_of_nonneg_right (show id + 1 ≤ id / 2 ^ (c - j) * 2 ^ (c - j) + 2 ^ (c - j) by omega) (Int.le_of_lt hj)
      rw [Int.add_mul, Int.add_mul] at g2
      refine div_is ?_ ?_
      · simp only [Int.sub_mul, Int.add_mul, Int.one_mul, ← Int.mul_assoc]; omega
      · simp only [Int.sub_mul, Int.add_mul, Int.one_mul, ← Int.mul_assoc]; omega

end Go.Proofs.Ytafkkhjhdfmhpaa
