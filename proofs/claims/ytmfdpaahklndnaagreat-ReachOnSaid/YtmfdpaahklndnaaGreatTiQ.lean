/- Texts laid together: TiNum, TiNum2, TiNum3, TiMem2, TiNum4, Ti, Ti2, Ti3, TiRow, Ti4, Ti5, TiSame, TiRef, TiRef2, TiRef3, TiRef4, TiRef5. -/
import Derived.Test.YtmfdpaahklndnaaGreatPln
import Derived.Test.YtmfdpaahklndnaaGreatMmy
import Derived.Laws.Rows
import Derived.OneCell
import Derived.Test.YtmfdpaahklndnaaGreatRkT
import Derived.Laws.EntriesVeiled
import Derived.Test.YtmfdpaahklndnaaGreatSort
import Derived.StillTailTactics
import Derived.Sort.Grow
import Derived.Deep.QuietTactic
import Derived.BigQuiet
import Derived.Test.YtmfdpaahklndnaaGreatRoQ
import Derived.IntWalk
import Derived.Laws.AppendOwnNone
import Derived.Deep.RegionHeld3
namespace Go.Proofs.YtmfdpaahklndnaaGreat
set_option linter.unusedVariables false
theorem mul_up {x y d : Int} (h : x ≤ y) (hd : 0 < d) : x * d ≤ y * d := Int.mul_le_mul_of_nonneg_right h (Int.le_of_lt hd)
theorem mul_lt {x y d : Int} (h : x < y) (hd : 0 < d) : x * d + d ≤ y * d := by
  have := mul_up (show x + 1 ≤ y by omega) hd
  rw [Int.add_mul] at this; omega
theorem mul_inj {x y d : Int} (h : x * d = y * d) (hd : 0 < d) : x = y := by
  rcases Int.lt_trichotomy x y with g | g | g
  · have := mul_lt g hd; omega
  · exact g
  · have := mul_lt g hd; omega
/-- a node of the universe of l bits -/
def Node (l id : Int) : Prop := RightC l id ∧ id ≤ 9223372036854775807
/-- its depth is k, below it are j bits -/
def Form (l id : Int) (k j : Nat) : Prop := l = (k + j : Nat) ∧ k + j ≤ 48 ∧ 1 ≤ k + j ∧ AtDep id k ∧ loN l id = id * 2 ^ j - 2 ^ (k + j) ∧ hiN l id = id * 2 ^ j - 2 ^ (k + j) + 2 ^ j - 1 ∧ 1 ≤ id
theorem node_form {l id : Int} (h : Node l id) : ∃ k j : Nat, Form l id k j := by
  obtain ⟨k, j, e, el, hkj, h0, hd, hw⟩ := right_dep h.1 h.2
  have a := end_yes h.1
  rw [hw] at a
  have : l.toNat = k + j := by omega
  rw [this] at a
  exact ⟨k, j, el, hkj, h0, hd, a.1, by omega, h.1.2.2.1⟩
theorem node_mk {l id : Int} {k j : Nat} (hl : l = (k + j : Nat)) (h48 : k + j ≤ 48) (h1 : 1 ≤ k + j) (hd : AtDep id k) : Node l id ∧ Form l id k j := by
  have b := two_le k 48 (by omega)
  have hi : id ≤ 9223372036854775807 := by have := hd.2; omega
  have h0 : 1 ≤ id := by have := hd.1; have := two_pos k; omega
  have e := (dep_is hd hi).1
  have hn : Node l id := ⟨⟨by omega, by omega, h0, by omega⟩, hi⟩
  obtain ⟨k', j', f⟩ := node_form hn
  have : k' = k := dep_uniq f.2.2.2.1 hd
  subst this
  have : j' = j := by have := f.1; omega
  subst this
  exact ⟨hn, f⟩
theorem node_bd {l id : Int} (h : Node l id) : 0 ≤ loN l id ∧ loN l id ≤ hiN l id ∧ hiN l id < 2 ^ l.toNat ∧ hiN l id ≤ 281474976710655 ∧ 1 ≤ id := by
  obtain ⟨k, j, el, hkj, h0, hd, a, b, c⟩ := node_form h
  have hp := two_pos j
  have e : l.toNat = k + j := by omega
  have b1 := two_le (k + j) 48 hkj
  rw [e]
  have e1 := two_add k j
  obtain ⟨d1, d2⟩ := hd
  have g1 := mul_up d1 hp
  have g2 := mul_lt d2 hp
  rw [Int.mul_assoc] at g2
  rw [a, b]
  omega
/-- two nodes of one width that begin alike are one -/
theorem same_form {l a b : Int} {k j k' : Nat} (f : Form l a k j) (g : Form l b k' j) (h : loN l a = loN l b) : a = b := by
  have hk : k = k' := by have := f.1; have := g.1; omega
  subst hk
  have e1 := f.2.2.2.2.1
  have e2 := g.2.2.2.2.1
  exact mul_inj (d := 2 ^ j) (by omega) (two_pos j)
theorem wid_lt {i j : Nat} (h : (2 : Int) ^ i - 1 < 2 ^ j) : i ≤ j := by
  by_cases e : i ≤ j
  · exact e
  · have := two_le (j + 1) i (by omega)
    rw [two_succ] at this
    have := two_pos j
    omega
theorem same_ends {l a b : Int} (ha : Node l a) (hb : Node l b) (h1 : loN l a = loN l b) (h2 : hiN l a = hiN l b) : a = b := by
  obtain ⟨k, j, f⟩ := node_form ha
  obtain ⟨k', j', g⟩ := node_form hb
  have e : j = j' := by
    have := f.2.2.2.2.1; have := f.2.2.2.2.2.1; have := g.2.2.2.2.1; have := g.2.2.2.2.2.1
    have := wid_lt (i := j) (j := j') (by omega)
    have := wid_lt (i := j') (j := j) (by omega)
    omega
  subst e
  exact same_form f g h1
theorem two_sub {i j : Nat} (h : i ≤ j) : (2 : Int) ^ j = 2 ^ (j - i) * 2 ^ i := by rw [← two_add]; congr 1; omega
/-- two nodes are apart, or one is within the other -/
theorem nest_le {l a b : Int} {k j k' j' : Nat} (f : Form l a k j) (g : Form l b k' j') (h : j ≤ j') : hiN l a < loN l b ∨ hiN l b < loN l a ∨ (loN l b ≤ loN l a ∧ hiN l a ≤ hiN l b) := by
  obtain ⟨el, _, _, _, a1, a2, _⟩ := f
  obtain ⟨el', _, _, _, b1, b2, _⟩ := g
  have e : k' + j' = k + j := by omega
  rw [e] at b1 b2
  have hp := two_pos j
  have e1 := two_sub h
  have e2 : b * 2 ^ j' = b * 2 ^ (j' - j) * 2 ^ j := by rw [e1, Int.mul_assoc]
  rw [e2] at b1 b2
  rcases Int.lt_or_le a (b * 2 ^ (j' - j)) with c | c
  · have := mul_lt c hp
    omega
  · rcases Int.lt_or_le a (b * 2 ^ (j' - j) + 2 ^ (j' - j)) with d | d
    · have g1 := mul_up c hp
      have g2 := mul_lt d hp
      rw [Int.add_mul, ← e1] at g2
      omega
    · have g2 := mul_up d hp
      rw [Int.add_mul, ← e1] at g2
      omega
theorem nest {l a b : Int} (ha : Node l a) (hb : Node l b) : hiN l a < loN l b ∨ hiN l b < loN l a ∨ (loN l b ≤ loN l a ∧ hiN l a ≤ hiN l b) ∨ (loN l a ≤ loN l b ∧ hiN l b ≤ hiN l a) := by
  obtain ⟨k, j, f⟩ := node_form ha
  obtain ⟨k', j', g⟩ := node_form hb
  rcases Nat.le_total j j' with h | h
  · have := nest_le f g h; omega
  · have := nest_le g f h; omega
/-- of two nodes that begin alike the one of the lesser number holds more -/
theorem less_more {l a b : Int} (ha : Node l a) (hb : Node l b) (h : loN l a = loN l b) (hab : a ≤ b) : hiN l b ≤ hiN l a := by
  obtain ⟨k, j, f⟩ := node_form ha
  obtain ⟨k', j', g⟩ := node_form hb
  obtain ⟨el, _, _, _, a1, a2, a3⟩ := f
  obtain ⟨el', _, _, _, b1, b2, b3⟩ := g
  have e : k' + j' = k + j := by omega
  rw [e] at b1 b2
  rcases Nat.lt_or_ge j j' with c | c
  · exfalso
    have e1 := two_sub (Nat.le_of_lt c)
    have e3 : b * 2 ^ (j' - j) * 2 ^ j = a * 2 ^ j := by rw [Int.mul_assoc, ← e1]; omega
    have e4 := mul_inj e3 (two_pos j)
    have e5 : (2 : Int) ≤ 2 ^ (j' - j) := by have := two_le 1 (j' - j) (by omega); omega
    have := Int.mul_le_mul_of_nonneg_left e5 (show 0 ≤ b by omega)
    omega
  · have := two_le j' j c
    omega
/-- a node that begins where a right child begins holds no more than it -/
theorem odd_top {l c b : Int} (hc : Node l c) (hb : Node l (2 * b + 1)) (h : loN l c = loN l (2 * b + 1)) : hiN l c ≤ hiN l (2 * b + 1) := by
  obtain ⟨k, j, f⟩ := node_form hc
  obtain ⟨k', j', g⟩ := node_form hb
  obtain ⟨el, _, _, _, a1, a2, a3⟩ := f
  obtain ⟨el', _, _, _, b1, b2, b3⟩ := g
  have e : k' + j' = k + j := by omega
  rw [e] at b1 b2
  rcases Nat.lt_or_ge j' j with d | d
  · exfalso
    have e1 := two_sub (Nat.le_of_lt d)
    have e3 : c * 2 ^ (j - j') * 2 ^ j' = (2 * b + 1) * 2 ^ j' := by rw [Int.mul_assoc, ← e1]; omega
    have e4 := mul_inj e3 (two_pos j')
    obtain ⟨i, hi⟩ : ∃ i, j - j' = i + 1 := ⟨j - j' - 1, by omega⟩
    rw [hi, two_succ, Int.mul_left_comm] at e4
    omega
  · have := two_le j j' d
    omega
/-- a node and its children -/
theorem kids_form {l id : Int} {k j : Nat} (f : Form l id k (j + 1)) : (Node l (2 * id) ∧ Form l (2 * id) (k + 1) j) ∧ (Node l (2 * id + 1) ∧ Form l (2 * id + 1) (k + 1) j) ∧
    loN l (2 * id) = loN l id ∧ hiN l (2 * id + 1) = hiN l id ∧ hiN l (2 * id) + 1 = loN l (2 * id + 1) := by
  obtain ⟨el, h48, h1, hd, a1, a2, a3⟩ := f
  have ⟨d1, d2⟩ := dep_kids hd
  have n1 := node_mk (l := l) (k := k + 1) (j := j) (by omega) (by omega) (by omega) d1
  have n2 := node_mk (l := l) (k := k + 1) (j := j) (by omega) (by omega) (by omega) d2
  have b1 := n1.2.2.2.2.2
  have b2 := n2.2.2.2.2.2
  have e : k + 1 + j = k + (j + 1) := by omega
  rw [e] at b1 b2
  have m0 : id * 2 ^ (j + 1) = 2 * (id * 2 ^ j) := by rw [two_succ, Int.mul_left_comm]
  have m1 : 2 * id * 2 ^ j = 2 * (id * 2 ^ j) := Int.mul_assoc ..
  have m2 : (2 * id + 1) * 2 ^ j = 2 * (id * 2 ^ j) + 2 ^ j := by rw [Int.add_mul, m1]; omega
  have m3 : (2 : Int) ^ (j + 1) = 2 * 2 ^ j := two_succ j
  rw [m0] at a1 a2
  rw [m1] at b1
  rw [m2] at b2
  rw [m3] at a2
  exact ⟨n1, n2, by omega, by omega, by omega⟩
theorem half_form {l id : Int} {k j : Nat} (f : Form l id (k + 1) j) : Node l (id / 2) ∧ Form l (id / 2) k (j + 1) := by
  obtain ⟨el, h48, h1, hd, _⟩ := f
  exact node_mk (by omega) (by omega) (by omega) (dep_half hd)
theorem form_two {l id : Int} {k j : Nat} (f : Form l id k j) (h : 2 ≤ id) : ∃ m, k = m + 1 := by
  refine ⟨k - 1, ?_⟩
  cases k with
  | zero => have := dep_zero f.2.2.2.1; omega
  | succ k => rfl
/-- a pair: the parent holds what both hold -/
theorem pair_half {l id : Int} (h : Node l id) (h2 : 2 ≤ id) (ho : id % 2 = 1) : Node l (id - 1) ∧ Node l (id / 2) ∧ loN l (id / 2) = loN l (id - 1) ∧ hiN l (id / 2) = hiN l id ∧ hiN l (id - 1) + 1 = loN l id := by
  obtain ⟨k, j, f⟩ := node_form h
  obtain ⟨m, rfl⟩ := form_two f h2
  have hf := half_form f
  have kf := kids_form hf.2
  have e : 2 * (id / 2) = id - 1 := by omega
  have e2 : id - 1 + 1 = id := by omega
  rw [e, e2] at kf
  exact ⟨kf.1.1, hf.1, kf.2.2.1.symm, kf.2.2.2.1.symm, kf.2.2.2.2⟩
theorem node_pair {l id : Int} (h : Node l id) (h2 : 2 ≤ id) (he : id % 2 = 0) : Node l (id + 1) ∧ Node l (id / 2) ∧ loN l (id / 2) = loN l id ∧ hiN l (id / 2) = hiN l (id + 1) ∧ hiN l id + 1 = loN l (id + 1) := by
  obtain ⟨k, j, f⟩ := node_form h
  obtain ⟨m, rfl⟩ := form_two f h2
  have hf := half_form f
  have kf := kids_form hf.2
  have e : 2 * (id / 2) = id := by omega
  rw [e] at kf
  exact ⟨kf.2.1.1, hf.1, kf.2.2.1.symm, kf.2.2.2.1.symm, kf.2.2.2.2⟩
/-- s lies ahead of t, and makes no pair with it -/
def Rel (l s t : Int) : Prop := hiN l s < loN l t ∧ ¬ (s % 2 = 0 ∧ t = s + 1)
def Nodes (l : Int) (T : List Int) : Prop := ∀ t ∈ T, Node l t
def TiGood (l : Int) (T : List Int) : Prop := Nodes l T ∧ T.Pairwise (Rel l)
def Held (l : Int) (T : List Int) (x : Int) : Prop := ∃ t ∈ T, loN l t ≤ x ∧ x ≤ hiN l t
theorem held_nil (l x : Int) : ¬ Held l [] x := fun ⟨t, h, _⟩ => by simp at h
theorem held_cons (l a : Int) (T : List Int) (x : Int) : Held l (a :: T) x ↔ (loN l a ≤ x ∧ x ≤ hiN l a) ∨ Held l T x := by
  unfold Held; simp
theorem held_app (l : Int) (S T : List Int) (x : Int) : Held l (S ++ T) x ↔ Held l S x ∨ Held l T x := by
  unfold Held
  constructor
  · rintro ⟨t, h, g⟩
    rcases List.mem_append.1 h with h | h
    · exact .inl ⟨t, h, g⟩
    · exact .inr ⟨t, h, g⟩
  · rintro (⟨t, h, g⟩ | ⟨t, h, g⟩)
    · exact ⟨t, List.mem_append.2 (.inl h), g⟩
    · exact ⟨t, List.mem_append.2 (.inr h), g⟩
theorem held_rev (l : Int) (T : List Int) (x : Int) : Held l T.reverse x ↔ Held l T x := by
  unfold Held; simp
theorem held_hi {l : Int} {T : List Int} (h : Nodes l T) {t : Int} (ht : t ∈ T) : Held l T (hiN l t) := ⟨t, ht, (node_bd (h t ht)).2.1, Int.le_refl _⟩
theorem good_tail {l a : Int} {T : List Int} (h : TiGood l (a :: T)) : Node l a ∧ TiGood l T ∧ (∀ t ∈ T, Rel l a t) :=
  ⟨h.1 a (by simp), ⟨fun t ht => h.1 t (by simp [ht]), (List.pairwise_cons.1 h.2).2⟩, (List.pairwise_cons.1 h.2).1⟩
/-- where a list of that kind begins as a node and holds all that it holds, its first node is no less -/
theorem first_cover (l : Int) : ∀ (j : Nat) (k : Nat) (B : Int), Form l B k j → Node l B → ∀ (A : Int) (R : List Int), TiGood l (A :: R) → loN l A = loN l B → (∀ x, loN l B ≤ x → x ≤ hiN l B → Held l (A :: R) x) → hiN l B ≤ hiN l A := by
  intro j
  induction j with
  | zero =>
    intro k B f hB A R hg h hc
    have := f.2.2.2.2.1
    have := f.2.2.2.2.2.1
    have := node_bd (hg.1 A (by simp))
    simp at *
    omega
  | succ j ih =>
    intro k B f hB A R hg h hc
    obtain ⟨⟨nL, fL⟩, ⟨nR, fR⟩, e1, e2, e3⟩ := kids_form f
    obtain ⟨nA, gR, rA⟩ := good_tail hg
    have bL := node_bd nL
    have bR := node_bd nR
    have i1 := ih (k + 1) (2 * B) fL nL A R hg (by omega) (fun x g1 g2 => hc x (by omega) (by omega))
    rcases Int.lt_or_le (hiN l A) (hiN l B) with hlt | hge
    · exfalso
      -- the first node is the left child
      have hA : A = 2 * B := by
        obtain ⟨kA, jA, fA⟩ := node_form nA
        have q1 := fA.2.2.2.2.1
        have q2 := fA.2.2.2.2.2.1
        have q3 := f.2.2.2.2.1
        have q4 := f.2.2.2.2.2.1
        have q5 := fL.2.2.2.2.1
        have q6 := fL.2.2.2.2.2.1
        have hj1 : jA < j + 1 := two_lt (by omega)
        have hj2 : j ≤ jA := wid_lt (by omega)
        have : jA = j := by omega
        subst this
        exact same_form fA fL (by omega)
      subst hA
      have hx := hc (loN l (2 * B + 1)) (by omega) (by omega)
      rw [held_cons] at hx
      rcases hx with hx | ⟨t, ht, hx⟩
      · omega
      · cases R with
        | nil => simp at ht
        | cons C R =>
          obtain ⟨nC, gC, rC⟩ := good_tail gR
          have hAC := rA C (by simp)
          have hle : loN l C ≤ loN l t := by
            rcases List.mem_cons.1 ht with rfl | hm
            · exact Int.le_refl _
            · have := rC t hm; have := this.1; have := node_bd nC; omega
          have hlo : loN l C = loN l (2 * B + 1) := by have := hAC.1; omega
          have i2 := ih (k + 1) (2 * B + 1) fR nR C R gR hlo (fun x g1 g2 => by
            have := hc x (by omega) (by omega)
            rw [held_cons] at this
            rcases this with g | g
            · omega
            · exact g)
          have i3 := odd_top nC nR hlo
          have := same_ends nC nR hlo (by omega)
          exact hAC.2 ⟨by omega, this⟩
    · exact hge
/-- a list of that kind is told by the values that it holds -/
theorem uniq {l : Int} : ∀ {T T' : List Int}, TiGood l T → TiGood l T' → (∀ x, Held l T x ↔ Held l T' x) → T = T' := by
  intro T
  induction T with
  | nil =>
    intro T' h h' e
    cases T' with
    | nil => rfl
    | cons B R =>
      exact absurd ((e _).2 (held_hi h'.1 (List.mem_cons_self ..))) (held_nil _ _)
  | cons A R ih =>
    intro T' h h' e
    cases T' with
    | nil => exact absurd ((e _).1 (held_hi h.1 (List.mem_cons_self ..))) (held_nil _ _)
    | cons B R' =>
      obtain ⟨nA, gR, rA⟩ := good_tail h
      obtain ⟨nB, gR', rB⟩ := good_tail h'
      have bA := node_bd nA
      have bB := node_bd nB
      have lo1 : loN l B ≤ loN l A := by
        obtain ⟨t, ht, g⟩ := (e (loN l A)).1 ((held_cons ..).2 (.inl ⟨by omega, by omega⟩))
        rcases List.mem_cons.1 ht with rfl | hm
        · omega
        · have := (rB t hm).1; omega
      have lo2 : loN l A ≤ loN l B := by
        obtain ⟨t, ht, g⟩ := (e (loN l B)).2 ((held_cons ..).2 (.inl ⟨by omega, by omega⟩))
        rcases List.mem_cons.1 ht with rfl | hm
        · omega
        · have := (rA t hm).1; omega
      have lo : loN l A = loN l B := by omega
      obtain ⟨kA, jA, fA⟩ := node_form nA
      obtain ⟨kB, jB, fB⟩ := node_form nB
      have h1 := first_cover l jB kB B fB nB A R h lo (fun x g1 g2 => (e x).2 ((held_cons ..).2 (.inl ⟨g1, g2⟩)))
      have h2 := first_cover l jA kA A fA nA B R' h' lo.symm (fun x g1 g2 => (e x).1 ((held_cons ..).2 (.inl ⟨g1, g2⟩)))
      have hAB := same_ends nA nB lo (by omega)
      subst hAB
      congr 1
      refine ih gR gR' fun x => ?_
      constructor
      · intro hx
        have := (e x).1 ((held_cons ..).2 (.inr hx))
        rw [held_cons] at this
        rcases this with g | g
        · obtain ⟨t, ht, g'⟩ := hx
          have := (rA t ht).1; omega
        · exact g
      · intro hx
        have := (e x).2 ((held_cons ..).2 (.inr hx))
        rw [held_cons] at this
        rcases this with g | g
        · obtain ⟨t, ht, g'⟩ := hx
          have := (rB t ht).1; omega
        · exact g
/-- how many values the nodes hold, each by itself -/
def tot (l : Int) : List Int → Int
  | [] => 0
  | t :: T => (hiN l t - loN l t + 1) + tot l T
theorem tot_app (l : Int) (S T : List Int) : tot l (S ++ T) = tot l S + tot l T := by
  induction S with
  | nil => simp [tot]
  | cons a S ih => simp [tot, ih]; omega
theorem tot_rev (l : Int) (T : List Int) : tot l T.reverse = tot l T := by
  induction T with
  | nil => rfl
  | cons a T ih => simp [tot_app, tot, ih]; omega
def putR : List Int → Int → List Int
  | [], id => [id]
  | t :: R, id => if 2 ≤ id ∧ t = pairN id then putR R (id / 2) else id :: t :: R
theorem putR_len : ∀ (R : List Int) (id : Int), (putR R id).length ≤ R.length + 1 := by
  intro R
  induction R with
  | nil => intro id; simp [putR]
  | cons t R ih =>
    intro id
    rw [putR]
    split
    · have := ih (id / 2); simp; omega
    · simp
/-- a stack: told from its end -/
def Stack (l : Int) (R : List Int) : Prop := Nodes l R ∧ R.Pairwise (fun t s => Rel l s t)
theorem stack_good {l : Int} {R : List Int} (h : Stack l R) : TiGood l R.reverse := ⟨fun t ht => h.1 t (List.mem_reverse.1 ht), List.pairwise_reverse.2 h.2⟩
theorem stack_tail {l a : Int} {T : List Int} (h : Stack l (a :: T)) : Node l a ∧ Stack l T ∧ (∀ t ∈ T, Rel l t a) :=
  ⟨h.1 a (by simp), ⟨fun t ht => h.1 t (by simp [ht]), (List.pairwise_cons.1 h.2).2⟩, (List.pairwise_cons.1 h.2).1⟩
theorem put_good {l : Int} : ∀ (R : List Int) (id : Int), Stack l R → Node l id → (∀ t ∈ R, hiN l t < loN l id) →
    Stack l (putR R id) ∧ (∀ x, Held l (putR R id) x ↔ Held l R x ∨ (loN l id ≤ x ∧ x ≤ hiN l id)) ∧ tot l (putR R id) = tot l R + (hiN l id - loN l id + 1) := by
  intro R
  induction R with
  | nil =>
    intro id hs hn hb
    refine ⟨⟨fun t ht => ?_, by simp [putR]⟩, fun x => ?_, by simp [putR, tot]⟩
    · simp [putR] at ht; subst ht; exact hn
    · simp [putR, Held]
  | cons t R ih =>
    intro id hs hn hb
    obtain ⟨nt, sR, rt⟩ := stack_tail hs
    have bt := hb t (by simp)
    have btt := node_bd nt
    have bid := node_bd hn
    rw [putR]
    split
    · rename_i hc
      obtain ⟨h2, hp⟩ := hc
      rw [(pair_yes h2).1] at hp
      split at hp
      · rename_i he
        exfalso
        have := node_pair hn h2 he
        subst hp
        have := node_bd nt
        omega
      · rename_i he
        obtain ⟨q1, q2, q3, q4, q5⟩ := pair_half hn h2 (by omega)
        subst hp
        obtain ⟨p1, p2, p3⟩ := ih (id / 2) sR q2 (fun u hu => by have := (rt u hu).1; omega)
        refine ⟨p1, fun x => ?_, ?_⟩
        · rw [p2, held_cons, q3, q4]
          constructor
          · rintro (g | g)
            · exact .inl (.inr g)
            · by_cases hx : x ≤ hiN l (id - 1)
              · exact .inl (.inl ⟨g.1, hx⟩)
              · exact .inr ⟨by omega, g.2⟩
          · rintro ((g | g) | g)
            · exact .inr ⟨g.1, by omega⟩
            · exact .inl g
            · exact .inr ⟨by omega, g.2⟩
        · rw [p3, q3, q4, tot]; omega
    · rename_i hc
      refine ⟨⟨fun u hu => ?_, ?_⟩, fun x => ?_, ?_⟩
      · rcases List.mem_cons.1 hu with rfl | hu
        · exact hn
        · exact hs.1 u hu
      · refine List.pairwise_cons.2 ⟨fun u hu => ⟨hb u hu, ?_⟩, hs.2⟩
        rintro ⟨g1, g2⟩
        rcases List.mem_cons.1 hu with rfl | hu
        · refine hc ⟨by omega, ?_⟩
          rw [(pair_yes (by omega)).1, if_neg (by omega)]; omega
        · have n := node_bd (hs.1 u (by simp [hu]))
          have hr := (rt u hu).1
          have := pair_half hn (by omega) (by omega)
          have e : id - 1 = u := by omega
          rw [e] at this
          omega
      · rw [held_cons]; exact Or.comm
      · rw [tot]; omega
def cnt (l a b : Int) : Nat → Int → Nat
  | 0, id => if a ≤ loN l id ∧ hiN l id ≤ b then 1 else 0
  | h + 1, id => if a ≤ loN l id ∧ hiN l id ≤ b then 1 else if loN l id ≤ b ∧ a ≤ hiN l id then cnt l a b h (2 * id) + cnt l a b h (2 * id + 1) else 0
def intoR (l a b : Int) : Nat → Int → List Int → List Int
  | 0, id, R => if a ≤ loN l id ∧ hiN l id ≤ b then putR R id else R
  | h + 1, id, R => if a ≤ loN l id ∧ hiN l id ≤ b then putR R id else if loN l id ≤ b ∧ a ≤ hiN l id then intoR l a b h (2 * id + 1) (intoR l a b h (2 * id) R) else R
theorem into_len (l a b : Int) : ∀ (h : Nat) (id : Int) (R : List Int), (intoR l a b h id R).length ≤ R.length + cnt l a b h id := by
  intro h
  induction h with
  | zero =>
    intro id R
    rw [intoR, cnt]
    split
    · exact putR_len R id
    · simp
  | succ h ih =>
    intro id R
    rw [intoR, cnt]
    split
    · exact putR_len R id
    · split
      · have h1 := ih (2 * id) R
        have h2 := ih (2 * id + 1) (intoR l a b h (2 * id) R)
        omega
      · simp
/-- at most two a depth -/
theorem cnt_le (l a b : Int) : ∀ (h : Nat) (k : Nat) (id : Int), Form l id k h →
    (cnt l a b h id ≤ 1 ∨ cnt l a b h id ≤ 2 * h) ∧ (hiN l id < a → cnt l a b h id = 0) ∧ (b < loN l id → cnt l a b h id = 0) ∧ (a ≤ loN l id ∧ hiN l id ≤ b → cnt l a b h id = 1) ∧
    (¬ (a ≤ loN l id ∧ hiN l id ≤ b) → (hiN l id ≤ b → cnt l a b h id ≤ h) ∧ (a ≤ loN l id → cnt l a b h id ≤ h) ∧ cnt l a b h id ≤ 2 * h) := by
  intro h
  induction h with
  | zero =>
    intro k id f
    have e1 := f.2.2.2.2.1
    have e2 := f.2.2.2.2.2.1
    simp at e1 e2
    rw [cnt]
    split <;> omega
  | succ h ih =>
    intro k id f
    obtain ⟨⟨n1, f1⟩, ⟨n2, f2⟩, k1, k2, k3⟩ := kids_form f
    have i1 := ih _ _ f1
    have i2 := ih _ _ f2
    have b1 := node_bd n1
    have b2 := node_bd n2
    obtain ⟨c, hc, hv⟩ : ∃ c, cnt l a b (h + 1) id = c ∧ (((a ≤ loN l id ∧ hiN l id ≤ b) ∧ c = 1) ∨ (¬ (a ≤ loN l id ∧ hiN l id ≤ b) ∧ (loN l id ≤ b ∧ a ≤ hiN l id) ∧ c = cnt l a b h (2 * id) + cnt l a b h (2 * id + 1)) ∨ (¬ (a ≤ loN l id ∧ hiN l id ≤ b) ∧ ¬ (loN l id ≤ b ∧ a ≤ hiN l id) ∧ c = 0)) := by
      refine ⟨_, rfl, ?_⟩
      rw [cnt]
      split
      · exact .inl ⟨by assumption, rfl⟩
      · split
        · exact .inr (.inl ⟨by assumption, by assumption, rfl⟩)
        · exact .inr (.inr ⟨by assumption, by assumption, rfl⟩)
    rw [hc]
    clear hc ih
    generalize cnt l a b h (2 * id) = c1 at *
    generalize cnt l a b h (2 * id + 1) = c2 at *
    rcases hv with ⟨g, rfl⟩ | ⟨g, g', rfl⟩ | ⟨g, g', rfl⟩
    · omega
    · by_cases p1 : a ≤ loN l (2 * id) <;> by_cases p2 : hiN l (2 * id + 1) ≤ b <;> by_cases p3 : a ≤ loN l (2 * id + 1) <;> by_cases p4 : hiN l (2 * id) ≤ b <;> omega
    · omega
theorem into_good {l a b : Int} : ∀ (h : Nat) (k : Nat) (id : Int) (R : List Int), Form l id k h → Node l id → Stack l R → (∀ t ∈ R, hiN l t < a ∨ hiN l t < loN l id) → a ≤ b →
    Stack l (intoR l a b h id R) ∧ (∀ x, Held l (intoR l a b h id R) x ↔ Held l R x ∨ (loN l id ≤ x ∧ x ≤ hiN l id ∧ a ≤ x ∧ x ≤ b)) ∧
    tot l (intoR l a b h id R) = tot l R + max 0 (min (hiN l id) b - max (loN l id) a + 1) := by
  intro h
  induction h with
  | zero =>
    intro k id R f hn hs hb hab
    have e1 := f.2.2.2.2.1
    have e2 := f.2.2.2.2.2.1
    simp at e1 e2
    rw [intoR]
    split
    · rename_i hc
      obtain ⟨p1, p2, p3⟩ := put_good R id hs hn (fun t ht => by have := hb t ht; omega)
      exact ⟨p1, fun x => by rw [p2]; constructor <;> rintro (g | g) <;> first | exact .inl g | exact .inr (by omega), by rw [p3]; omega⟩
    · exact ⟨hs, fun x => ⟨.inl, by rintro (g | g); exact g; omega⟩, by omega⟩
  | succ h ih =>
    intro k id R f hn hs hb hab
    obtain ⟨⟨n1, f1⟩, ⟨n2, f2⟩, k1, k2, k3⟩ := kids_form f
    have b1 := node_bd n1
    have b2 := node_bd n2
    rw [intoR]
    split
    · rename_i hc
      obtain ⟨p1, p2, p3⟩ := put_good R id hs hn (fun t ht => by have := hb t ht; omega)
      exact ⟨p1, fun x => by rw [p2]; constructor <;> rintro (g | g) <;> first | exact .inl g | exact .inr (by omega), by rw [p3]; omega⟩
    · split
      · obtain ⟨p1, p2, p3⟩ := ih _ (2 * id) R f1 n1 hs (fun t ht => by have := hb t ht; omega) hab
        obtain ⟨q1, q2, q3⟩ := ih _ (2 * id + 1) (intoR l a b h (2 * id) R) f2 n2 p1 (fun t ht => by
          have g := (p2 _).1 (held_hi p1.1 ht)
          rcases g with ⟨u, hu, g⟩ | g
          · have := hb u hu; omega
          · omega) hab
        refine ⟨q1, fun x => ?_, by rw [q3, p3]; omega⟩
        rw [q2, p2]
        constructor
        · rintro ((g | g) | g)
          · exact .inl g
          · exact .inr (by omega)
          · exact .inr (by omega)
        · rintro (g | g)
          · exact .inl (.inl g)
          · by_cases hx : x ≤ hiN l (2 * id)
            · exact .inl (.inr (by omega))
            · exact .inr (by omega)
      · exact ⟨hs, fun x => ⟨.inl, by rintro (g | g); exact g; omega⟩, by omega⟩
/-- where two ways up meet -/
theorem meet_anc : ∀ (k : Nat) (a b : Int), AtDep a k → AtDep b k → ∃ s : Nat, s ≤ k ∧ meetI a b = a / 2 ^ s ∧ a / 2 ^ s = b / 2 ^ s := by
  intro k
  induction k with
  | zero =>
    intro a b ha hb
    have h1 := dep_zero ha
    have h2 := dep_zero hb
    subst h1 h2
    exact ⟨0, Nat.le_refl _, by rw [meet_same 1 (by omega)]; simp, rfl⟩
  | succ k ih =>
    intro a b ha hb
    by_cases e : a = b
    · subst e
      exact ⟨0, by omega, by rw [meet_same a (by have := ha.1; have := two_pos (k + 1); omega)]; simp, rfl⟩
    · obtain ⟨s, hs, h1, h2⟩ := ih _ _ (dep_half ha) (dep_half hb)
      rw [half_div] at h1 h2
      rw [half_div] at h2
      exact ⟨s + 1, by omega, by rw [meet_both ha hb e, h1], h2⟩
theorem lay_top {l a b : Int} (ha : ValC l a) (hb : ValC l b) : ∃ k h : Nat, Form l (meetN (leafN l a) (leafN l b)) k h ∧ Node l (meetN (leafN l a) (leafN l b)) ∧ meetB (leafN l a) (leafN l b) = true ∧
    loN l (meetN (leafN l a) (leafN l b)) ≤ a ∧ a ≤ hiN l (meetN (leafN l a) (leafN l b)) ∧ loN l (meetN (leafN l a) (leafN l b)) ≤ b ∧ b ≤ hiN l (meetN (leafN l a) (leafN l b)) := by
  rw [(leaf_yes ha).1, (leaf_yes hb).1]
  obtain ⟨l1, l48, a0, a1⟩ := ha
  obtain ⟨_, _, b0, b1⟩ := hb
  have da : AtDep (2 ^ l.toNat + a) l.toNat := ⟨by omega, by omega⟩
  have db : AtDep (2 ^ l.toNat + b) l.toNat := ⟨by omega, by omega⟩
  have hp := two_pos l.toNat
  have hm := meet_yes (a := 2 ^ l.toNat + a) (b := 2 ^ l.toNat + b) ⟨by omega, by omega⟩
  obtain ⟨s, hs, h1, h2⟩ := meet_anc _ _ _ da db
  rw [hm.1, h1]
  have hd := dep_up da hs
  have hn := node_mk (l := l) (k := l.toNat - s) (j := s) (by omega) (by omega) (by omega) hd
  have e1 := div_bds (2 ^ l.toNat + a) (two_pos s)
  have e2 := div_bds (2 ^ l.toNat + b) (two_pos s)
  rw [← h2] at e2
  have f1 := hn.2.2.2.2.2.1
  have f2 := hn.2.2.2.2.2.2.1
  have e3 : l.toNat - s + s = l.toNat := by omega
  rw [e3] at f1 f2
  exact ⟨_, _, hn.2, hn.1, hm.2, by omega, by omega, by omega, by omega⟩
/-- the run from a to b is laid on the stack -/
def Laid (l a b : Int) (R R' : List Int) : Prop :=
  Stack l R' ∧ (∀ x, Held l R' x ↔ Held l R x ∨ (a ≤ x ∧ x ≤ b)) ∧ tot l R' = tot l R + max 0 (b - a + 1) ∧ R'.length ≤ R.length + 2 * l.toNat
theorem laid_none {l a b : Int} {R : List Int} (h : Stack l R) (hab : b < a) : Laid l a b R R :=
  ⟨h, fun x => ⟨.inl, by rintro (g | g); exact g; omega⟩, by omega, by omega⟩
theorem laid_into {l a b : Int} {R : List Int} {k h : Nat} {top : Int} (f : Form l top k h) (hn : Node l top) (hs : Stack l R) (hR : ∀ t ∈ R, hiN l t < a) (hab : a ≤ b) (h1 : loN l top ≤ a) (h2 : b ≤ hiN l top) :
    Laid l a b R (intoR l a b h top R) := by
  obtain ⟨p1, p2, p3⟩ := into_good h k top R f hn hs (fun t ht => .inl (hR t ht)) hab
  refine ⟨p1, fun x => ?_, by omega, ?_⟩
  · rw [p2]
    constructor <;> rintro (g | g) <;> first | exact .inl g | exact .inr (by omega)
  · have := into_len l a b h top R
    have := (cnt_le l a b h k top f).1
    have := f.1; have := f.2.2.1
    omega
theorem laid_cnt {l a b : Int} {k h : Nat} {top : Int} (f : Form l top k h) : cnt l a b h top ≤ 96 := by
  have := (cnt_le l a b h k top f).1
  have := f.1; have := f.2.1
  omega
end Go.Proofs.YtmfdpaahklndnaaGreat
namespace Go.Proofs.YtmfdpaahklndnaaGreat
set_option linter.unusedVariables false
theorem node_end {l t : Int} (h1 : t ≤ 9223372036854775807) : endB l t = true ↔ Node l t := by
  constructor
  · intro h
    by_cases g : RightC l t
    · exact ⟨g, h1⟩
    · rw [(end_no g).2.2] at h; simp at h
  · intro h; exact (end_yes h.1).2.2
theorem node_of_end {l t : Int} (h : endB l t = true) (h1 : t ≤ 9223372036854775807) : Node l t := (node_end h1).1 h
theorem tiRight_one (l : Int) : rightB l 1 = uniB l := by
  have e : logN 1 = 0 := (dep_is (id := 1) (k := 0) ⟨by simp, by simp⟩ (by omega)).1
  by_cases h : 1 ≤ l ∧ l ≤ 48
  · rw [uni_yes h, right_yes ⟨h.1, h.2, by omega, by omega⟩]
  · rw [uni_no h, right_no fun g => h ⟨g.1, g.2.1⟩]
theorem top_node {l : Int} (h : 1 ≤ l ∧ l ≤ 48) : Node l 1 ∧ loN l 1 = 0 ∧ hiN l 1 = 2 ^ l.toNat - 1 := by
  obtain ⟨hn, f⟩ := node_mk (l := l) (id := 1) (k := 0) (j := l.toNat) (by omega) (by omega) (by omega) ⟨by simp, by simp⟩
  have a := f.2.2.2.2.1
  have b := f.2.2.2.2.2.1
  simp at a b
  exact ⟨hn, by omega, by omega⟩
def heldB (l : Int) (T : List Int) (x : Int) : Bool := T.any fun t => decide (loN l t ≤ x) && decide (x ≤ hiN l t)
theorem heldB_iff (l : Int) (T : List Int) (x : Int) : heldB l T x = true ↔ Held l T x := by
  unfold heldB Held; simp
/-- of a row that is sorted by the least values, of such that begin alike the highest first -/
def Before (l s t : Int) : Prop := loN l s < loN l t ∨ (loN l s = loN l t ∧ s ≤ t)
def JoinInv (l : Int) (P R : List Int) (nx : Int) : Prop :=
  Stack l R ∧ (∀ x, Held l R x ↔ Held l P x) ∧ R.length ≤ P.length ∧ (∀ p ∈ P, hiN l p < nx) ∧ (nx = 0 ∨ ∃ p ∈ P, nx = hiN l p + 1)
theorem join_start (l : Int) : JoinInv l [] [] 0 := ⟨⟨fun t h => by simp at h, List.Pairwise.nil⟩, fun x => Iff.rfl, by simp, fun p h => by simp at h, .inl rfl⟩
theorem held_snoc (l : Int) (P : List Int) (t x : Int) : Held l (P ++ [t]) x ↔ Held l P x ∨ (loN l t ≤ x ∧ x ≤ hiN l t) := by
  rw [held_app, held_cons]
  constructor <;> rintro (h | h)
  · exact .inl h
  · rcases h with h | h
    · exact .inr h
    · exact absurd h (held_nil l x)
  · exact .inl h
  · exact .inr (.inl h)
theorem join_put {l : Int} {P R : List Int} {nx t : Int} (h : JoinInv l P R nx) (hP : Nodes l P) (ht : Node l t) (hx : nx ≤ loN l t) : JoinInv l (P ++ [t]) (putR R t) (hiN l t + 1) := by
  obtain ⟨h1, h2, h3, h4, h5⟩ := h
  have hb : ∀ u ∈ R, hiN l u < loN l t := fun u hu => by
    obtain ⟨q, hq, g⟩ := (h2 _).1 (held_hi h1.1 hu)
    have := h4 q hq; omega
  obtain ⟨p1, p2, p3⟩ := put_good R t h1 ht hb
  refine ⟨p1, fun x => by rw [p2, held_snoc, h2], by have := putR_len R t; simp; omega, fun p hp => ?_, .inr ⟨t, by simp, rfl⟩⟩
  have := node_bd ht
  rcases List.mem_append.1 hp with hp | hp
  · have := h4 p hp; omega
  · simp at hp; subst hp; omega
theorem join_skip {l : Int} {P R : List Int} {nx t : Int} (h : JoinInv l P R nx) (hP : Nodes l P) (ht : Node l t) (hs : ∀ p ∈ P, Before l p t) (hx : loN l t < nx) : JoinInv l (P ++ [t]) R nx := by
  obtain ⟨h1, h2, h3, h4, h5⟩ := h
  have bt := node_bd ht
  rcases h5 with h5 | ⟨p, hp, h5⟩
  · omega
  have hn := hP p hp
  have hle : hiN l t ≤ hiN l p ∧ loN l p ≤ loN l t := by
    rcases hs p hp with g | ⟨g, g'⟩
    · rcases nest ht hn with q | q | q | q <;> omega
    · exact ⟨less_more hn ht g g', by omega⟩
  refine ⟨h1, fun x => ?_, by simp; omega, fun q hq => ?_, .inr ⟨p, by simp [hp], h5⟩⟩
  · rw [held_snoc, h2]
    exact ⟨.inl, fun g => g.elim id fun g => ⟨p, hp, by omega⟩⟩
  · rcases List.mem_append.1 hq with hq | hq
    · exact h4 q hq
    · simp at hq; subst hq; omega
theorem join_nx {l : Int} {P R : List Int} {nx : Int} (h : JoinInv l P R nx) (hP : Nodes l P) : 0 ≤ nx ∧ nx ≤ 281474976710656 := by
  rcases h.2.2.2.2 with e | ⟨p, hp, e⟩
  · omega
  · have := node_bd (hP p hp); omega
def RestInv (l : Int) (P R : List Int) (nx : Int) : Prop :=
  Stack l R ∧ (∀ x, Held l R x ↔ (0 ≤ x ∧ x < nx) ∧ ¬ Held l P x) ∧ tot l R + tot l P = nx ∧ R.length ≤ P.length * 96 ∧ (∀ p ∈ P, hiN l p < nx) ∧ (nx = 0 ∨ ∃ p ∈ P, nx = hiN l p + 1)
theorem rest_start (l : Int) : RestInv l [] [] 0 := ⟨⟨fun t h => by simp at h, List.Pairwise.nil⟩, fun x => ⟨fun h => absurd h (held_nil l x), fun h => by omega⟩, rfl, by simp, fun p h => by simp at h, .inl rfl⟩
theorem rest_ahead {l : Int} {P R : List Int} {nx : Int} (h : RestInv l P R nx) : ∀ t ∈ R, hiN l t < nx := fun t ht => ((h.2.1 _).1 (held_hi h.1.1 ht)).1.2
theorem rest_step {l : Int} {P R R' : List Int} {nx t : Int} (h : RestInv l P R nx) (hP : Nodes l P) (ht : Node l t) (hb : ∀ p ∈ P, Rel l p t) (hL : Laid l nx (loN l t - 1) R R') : RestInv l (P ++ [t]) R' (hiN l t + 1) := by
  obtain ⟨h1, h2, h3, h4, h5, h6⟩ := h
  obtain ⟨k1, k2, k3, k4⟩ := hL
  have bt := node_bd ht
  have hl : l.toNat ≤ 48 := by have := ht.1.2.1; omega
  have hnx : 0 ≤ nx ∧ nx ≤ loN l t := by
    rcases h6 with e | ⟨p, hp, e⟩
    · omega
    · have := (hb p hp).1; have := node_bd (hP p hp); omega
  refine ⟨k1, fun x => ?_, by rw [k3, tot_app]; simp [tot]; omega, by simp; omega, fun p hp => ?_, .inr ⟨t, by simp, rfl⟩⟩
  · rw [k2, h2, held_snoc]
    constructor
    · rintro (⟨g1, g2⟩ | g)
      · exact ⟨by omega, fun q => q.elim g2 fun q => by omega⟩
      · refine ⟨by omega, fun q => q.elim (fun ⟨p, hp, q⟩ => ?_) fun q => by omega⟩
        have := h5 p hp; omega
    · rintro ⟨g1, g2⟩
      by_cases e : x < nx
      · exact .inl ⟨by omega, fun q => g2 (.inl q)⟩
      · by_cases e2 : x ≤ loN l t - 1
        · exact .inr (by omega)
        · exact absurd (.inr ⟨by omega, by omega⟩) g2
  · rcases List.mem_append.1 hp with hp | hp
    · have := (hb p hp).1; omega
    · simp at hp; subst hp; omega
theorem rest_nx {l : Int} {P R : List Int} {nx : Int} (h : RestInv l P R nx) (hP : Nodes l P) : 0 ≤ nx ∧ nx ≤ 2 ^ l.toNat := by
  rcases h.2.2.2.2.2 with e | ⟨p, hp, e⟩
  · have := two_pos l.toNat; omega
  · have := node_bd (hP p hp); omega
theorem rest_end {l : Int} {P R R' : List Int} {nx : Int} (h : RestInv l P R nx) (hP : Nodes l P) (hl : 1 ≤ l ∧ l ≤ 48) (hL : Laid l nx (2 ^ l.toNat - 1) R R') :
    Stack l R' ∧ (∀ x, Held l R' x ↔ (0 ≤ x ∧ x < 2 ^ l.toNat) ∧ ¬ Held l P x) ∧ tot l R' + tot l P = 2 ^ l.toNat ∧ R'.length ≤ P.length * 96 + 96 := by
  have hx := rest_nx h hP
  obtain ⟨h1, h2, h3, h4, h5, h6⟩ := h
  obtain ⟨k1, k2, k3, k4⟩ := hL
  refine ⟨k1, fun x => ?_, by omega, by omega⟩
  rw [k2, h2]
  constructor
  · rintro (⟨g1, g2⟩ | g)
    · exact ⟨by omega, g2⟩
    · refine ⟨by omega, fun ⟨p, hp, q⟩ => ?_⟩
      have := h5 p hp; omega
  · rintro ⟨g1, g2⟩
    by_cases e : x < nx
    · exact .inl ⟨by omega, g2⟩
    · exact .inr (by omega)
/-- a list of that kind that holds a run is the one that is laid -/
theorem run_laid {l a b : Int} {T : List Int} (h : TiGood l T) (hT : ∀ x, Held l T x ↔ a ≤ x ∧ x ≤ b) (ha : ValC l a) (hb : ValC l b) (hab : a ≤ b) : T.length ≤ 2 * l.toNat ∧ tot l T = b - a + 1 := by
  obtain ⟨k, j, f, hn, _, t1, t2, t3, t4⟩ := lay_top ha hb
  obtain ⟨p1, p2, p3, p4⟩ := laid_into f hn (R := []) ⟨fun t h => by simp at h, List.Pairwise.nil⟩ (fun t h => by simp at h) hab t1 t4
  have e := uniq h (stack_good p1) (fun x => by
    rw [hT, held_rev, p2]
    exact ⟨.inr, fun g => g.elim (fun g => absurd g (held_nil l x)) id⟩)
  rw [e, tot_rev, p3]
  simp at p4 ⊢
  exact ⟨p4, by simp [tot]; omega⟩
def OfInv (l a b : Int) (T : List Int) (at_ : Int) : Prop :=
  TiGood l T ∧ (∀ x, Held l T x ↔ a ≤ x ∧ x < at_) ∧ a ≤ at_ ∧ at_ ≤ b + 1 ∧ (∀ t ∈ T, t % 2 = 0 → b < hiN l (t / 2))
theorem of_start {l a b : Int} (h : a ≤ b) : OfInv l a b [] a := ⟨⟨fun t h => by simp at h, List.Pairwise.nil⟩, fun x => ⟨fun g => absurd g (held_nil l x), fun g => by omega⟩, Int.le_refl _, by omega, fun t h => by simp at h⟩
theorem good_snoc {l : Int} {T : List Int} {t : Int} (h : TiGood l T) (ht : Node l t) (hr : ∀ s ∈ T, Rel l s t) : TiGood l (T ++ [t]) := by
  refine ⟨fun s hs => ?_, List.pairwise_append.2 ⟨h.2, by simp, fun s hs u hu => ?_⟩⟩
  · rcases List.mem_append.1 hs with hs | hs
    · exact h.1 s hs
    · simp at hs; subst hs; exact ht
  · simp at hu; subst hu; exact hr s hs
theorem tiOf_step {l a b : Int} {T : List Int} {id : Int} (h : OfInv l a b T (loN l id)) (hn : Node l id) (hb : hiN l id ≤ b) (ho : id % 2 = 0 → b < hiN l (id / 2)) : OfInv l a b (T ++ [id]) (hiN l id + 1) := by
  obtain ⟨h1, h2, h3, h4, h5⟩ := h
  have bd := node_bd hn
  refine ⟨good_snoc h1 hn fun s hs => ⟨((h2 _).1 (held_hi h1.1 hs)).2, fun ⟨g1, g2⟩ => ?_⟩, fun x => ?_, by omega, by omega, fun t ht => ?_⟩
  · have := node_bd (h1.1 s hs)
    have := node_pair (h1.1 s hs) (by omega) g1
    have := h5 s hs g1
    subst g2
    omega
  · rw [held_snoc, h2]
    constructor
    · rintro (g | g) <;> omega
    · intro g
      by_cases e : x < loN l id
      · exact .inl (by omega)
      · exact .inr (by omega)
  · rcases List.mem_append.1 ht with ht | ht
    · exact h5 t ht
    · simp at ht; subst ht; exact ho
theorem tiOf_len {l a b : Int} {T : List Int} {at_ : Int} (h : OfInv l a b T at_) (ha : ValC l a) (hb : ValC l b) : T.length ≤ 96 := by
  obtain ⟨h1, h2, h3, h4, h5⟩ := h
  by_cases e : at_ = a
  · subst e
    cases T with
    | nil => simp
    | cons t T => have := (h2 _).1 (held_hi h1.1 (List.mem_cons_self ..)); omega
  · have := (run_laid (a := a) (b := at_ - 1) h1 (fun x => by rw [h2]; omega) ha ⟨ha.1, ha.2.1, by have := ha.2.2.1; omega, by have := hb.2.2.2; omega⟩ (by omega)).1
    have := ha.2.1
    omega
theorem of_end {l a b : Int} {T : List Int} {at_ : Int} (h : OfInv l a b T at_) (e : b < at_) : TiGood l T ∧ (∀ x, Held l T x ↔ a ≤ x ∧ x ≤ b) := by
  obtain ⟨h1, h2, h3, h4, h5⟩ := h
  exact ⟨h1, fun x => by rw [h2]; omega⟩
theorem leaf_node {l x : Int} (h : ValC l x) : Node l (leafN l x) ∧ loN l (leafN l x) = x ∧ hiN l (leafN l x) = x := by
  rw [(leaf_yes h).1]
  obtain ⟨l1, l48, a0, a1⟩ := h
  obtain ⟨hn, f⟩ := node_mk (l := l) (id := 2 ^ l.toNat + x) (k := l.toNat) (j := 0) (by omega) (by omega) (by omega) ⟨by omega, by omega⟩
  have a := f.2.2.2.2.1
  have b := f.2.2.2.2.2.1
  simp at a b
  exact ⟨hn, by omega, by omega⟩
end Go.Proofs.YtmfdpaahklndnaaGreat
namespace Go.Proofs.YtmfdpaahklndnaaGreat
set_option linter.unusedVariables false
abbrev Rn := Int × Int
def InR (L : List Rn) (x : Int) : Prop := ∃ r ∈ L, r.1 ≤ x ∧ x ≤ r.2
def Gap (r s : Rn) : Prop := r.2 + 1 < s.1
/-- runs of values below m -/
def Runs (m : Int) (L : List Rn) : Prop := (∀ r ∈ L, 0 ≤ r.1 ∧ r.1 ≤ r.2 ∧ r.2 < m) ∧ L.Pairwise Gap
theorem inR_nil (x : Int) : ¬ InR [] x := fun ⟨r, h, _⟩ => by simp at h
theorem inR_app (L M : List Rn) (x : Int) : InR (L ++ M) x ↔ InR L x ∨ InR M x := by
  unfold InR
  constructor
  · rintro ⟨t, h, g⟩
    rcases List.mem_append.1 h with h | h
    · exact .inl ⟨t, h, g⟩
    · exact .inr ⟨t, h, g⟩
  · rintro (⟨t, h, g⟩ | ⟨t, h, g⟩)
    · exact ⟨t, List.mem_append.2 (.inl h), g⟩
    · exact ⟨t, List.mem_append.2 (.inr h), g⟩
theorem inR_one (r : Rn) (x : Int) : InR [r] x ↔ r.1 ≤ x ∧ x ≤ r.2 := by unfold InR; simp
/-- between: some runs were looked at (P); x0 has become x; what is ahead, and behind -/
structure WInv (m : Int) (P : List Rn) (x0 : Rn) (A : List Rn) (x : Rn) (B : List Rn) : Prop where
  ahead : ∀ r ∈ A, r ∈ P
  behind : ∀ r ∈ B, r ∈ P
  pa : A.Pairwise Gap
  pb : B.Pairwise Gap
  ax : ∀ r ∈ A, Gap r x
  xb : ∀ r ∈ B, Gap x r
  low : 0 ≤ x.1
  mid : x.1 ≤ x.2
  top : x.2 < m
  all : ∀ y, (InR A y ∨ (x.1 ≤ y ∧ y ≤ x.2) ∨ InR B y) ↔ InR P y ∨ (x0.1 ≤ y ∧ y ≤ x0.2)
  len : A.length + B.length ≤ P.length
theorem w_start {m : Int} {x : Rn} (h : 0 ≤ x.1 ∧ x.1 ≤ x.2 ∧ x.2 < m) : WInv m [] x [] x [] :=
  ⟨fun r h => by simp at h, fun r h => by simp at h, List.Pairwise.nil, List.Pairwise.nil, fun r h => by simp at h, fun r h => by simp at h, h.1, h.2.1, h.2.2,
    fun y => ⟨fun g => g.elim (fun g => absurd g (inR_nil y)) fun g => g.elim .inr (fun g => absurd g (inR_nil y)), fun g => g.elim (fun g => absurd g (inR_nil y)) fun g => .inr (.inl g)⟩, by simp⟩
theorem pw_snoc {A : List Rn} {e : Rn} (h : A.Pairwise Gap) (g : ∀ r ∈ A, Gap r e) : (A ++ [e]).Pairwise Gap :=
  List.pairwise_append.2 ⟨h, by simp, fun s hs u hu => by simp at hu; subst hu; exact g s hs⟩
theorem mem_snoc {A : List Rn} {e r : Rn} (h : r ∈ A ++ [e]) : r ∈ A ∨ r = e := by simpa using h
/-- the next run lies behind all that were looked at -/
theorem w_ahead {m : Int} {P A B : List Rn} {x0 x e : Rn} (h : WInv m P x0 A x B) (he : e.1 ≤ e.2) (hP : ∀ p ∈ P, Gap p e) (hPr : ∀ p ∈ P, p.1 ≤ p.2) (c : e.2 + 1 < x.1) : WInv m (P ++ [e]) x0 (A ++ [e]) x B := by
  have hB : B = [] := by
    cases B with
    | nil => rfl
    | cons r B =>
      have a := h.xb r (by simp)
      have b := hP r (h.behind r (by simp))
      have d := hPr r (h.behind r (by simp))
      have := h.mid
      unfold Gap at a b; omega
  subst hB
  refine ⟨fun r hr => ?_, fun r hr => by simp at hr, pw_snoc h.pa fun r hr => hP r (h.ahead r hr), h.pb, fun r hr => ?_, h.xb, h.low, h.mid, h.top, fun y => ?_, by have := h.len; simp at *; omega⟩
  · rcases mem_snoc hr with hr | rfl
    · simp [h.ahead r hr]
    · simp
  · rcases mem_snoc hr with hr | rfl
    · exact h.ax r hr
    · exact c
  · rw [inR_app, inR_app, inR_one]
    have := h.all y
    constructor
    · rintro ((g | g) | g)
      · exact (this.1 (.inl g)).elim (fun q => .inl (.inl q)) .inr
      · exact .inl (.inr g)
      · exact (this.1 (.inr g)).elim (fun q => .inl (.inl q)) .inr
    · rintro ((g | g) | g)
      · rcases this.2 (.inl g) with q | q
        · exact .inl (.inl q)
        · exact .inr q
      · exact .inl (.inr g)
      · rcases this.2 (.inr g) with q | q
        · exact .inl (.inl q)
        · exact .inr q
theorem w_behind {m : Int} {P A B : List Rn} {x0 x e : Rn} (h : WInv m P x0 A x B) (he : e.1 ≤ e.2) (hP : ∀ p ∈ P, Gap p e) (c : x.2 + 1 < e.1) : WInv m (P ++ [e]) x0 A x (B ++ [e]) := by
  refine ⟨fun r hr => by simp [h.ahead r hr], fun r hr => ?_, h.pa, pw_snoc h.pb fun r hr => hP r (h.behind r hr), h.ax, fun r hr => ?_, h.low, h.mid, h.top, fun y => ?_, by have := h.len; simp at *; omega⟩
  · rcases mem_snoc hr with hr | rfl
    · simp [h.behind r hr]
    · simp
  · rcases mem_snoc hr with hr | rfl
    · exact h.xb r hr
    · exact c
  · rw [inR_app, inR_app, inR_one]
    have := h.all y
    constructor
    · rintro (g | g | g | g)
      · exact (this.1 (.inl g)).elim (fun q => .inl (.inl q)) .inr
      · exact (this.1 (.inr (.inl g))).elim (fun q => .inl (.inl q)) .inr
      · exact (this.1 (.inr (.inr g))).elim (fun q => .inl (.inl q)) .inr
      · exact .inl (.inr g)
    · rintro ((g | g) | g)
      · rcases this.2 (.inl g) with q | q | q
        · exact .inl q
        · exact .inr (.inl q)
        · exact .inr (.inr (.inl q))
      · exact .inr (.inr (.inr g))
      · rcases this.2 (.inr g) with q | q | q
        · exact .inl q
        · exact .inr (.inl q)
        · exact .inr (.inr (.inl q))
theorem w_touch {m : Int} {P A B : List Rn} {x0 x e : Rn} (h : WInv m P x0 A x B) (he : 0 ≤ e.1 ∧ e.1 ≤ e.2 ∧ e.2 < m) (hP : ∀ p ∈ P, Gap p e) (hPr : ∀ p ∈ P, p.1 ≤ p.2) (c : ¬ e.2 + 1 < x.1) (d : ¬ x.2 + 1 < e.1) {lo hi : Int} (hlo : lo = min e.1 x.1) (hhi : hi = max e.2 x.2) :
    WInv m (P ++ [e]) x0 A (lo, hi) B := by
  have hB : B = [] := by
    cases B with
    | nil => rfl
    | cons r B =>
      have a := h.xb r (by simp)
      have b := hP r (h.behind r (by simp))
      have d := hPr r (h.behind r (by simp))
      unfold Gap at a b; omega
  subst hB
  have hx := h.mid
  have h0 := h.low
  have h2 := h.top
  refine ⟨fun r hr => by simp [h.ahead r hr], fun r hr => by simp at hr, h.pa, h.pb, fun r hr => ?_, fun r hr => by simp at hr, ?_, ?_, ?_, fun y => ?_, by have := h.len; simp at *; omega⟩
  · have a := h.ax r hr
    have b := hP r (h.ahead r hr)
    unfold Gap at *; simp only; omega
  · simp only; omega
  · simp only; omega
  · simp only; omega
  · rw [inR_app, inR_one]
    have := h.all y
    simp only
    constructor
    · rintro (g | g | g)
      · exact (this.1 (.inl g)).elim (fun q => .inl (.inl q)) .inr
      · by_cases q : x.1 ≤ y ∧ y ≤ x.2
        · exact (this.1 (.inr (.inl q))).elim (fun q => .inl (.inl q)) .inr
        · exact .inl (.inr (by omega))
      · exact absurd g (inR_nil y)
    · rintro ((g | g) | g)
      · rcases this.2 (.inl g) with q | q | q
        · exact .inl q
        · exact .inr (.inl (by omega))
        · exact absurd q (inR_nil y)
      · exact .inr (.inl (by omega))
      · rcases this.2 (.inr g) with q | q | q
        · exact .inl q
        · exact .inr (.inl (by omega))
        · exact absurd q (inR_nil y)
theorem w_end {m : Int} {P A B : List Rn} {x0 x : Rn} (hP : Runs m P) (h : WInv m P x0 A x B) : Runs m (A ++ [x] ++ B) ∧ (∀ y, InR (A ++ [x] ++ B) y ↔ InR P y ∨ (x0.1 ≤ y ∧ y ≤ x0.2)) ∧ (A ++ [x] ++ B).length ≤ P.length + 1 := by
  refine ⟨⟨fun r hr => ?_, List.pairwise_append.2 ⟨pw_snoc h.pa h.ax, h.pb, fun s hs u hu => ?_⟩⟩, fun y => ?_, by have := h.len; simp; omega⟩
  · rcases List.mem_append.1 hr with hr | hr
    · rcases mem_snoc hr with hr | rfl
      · exact hP.1 r (h.ahead r hr)
      · exact ⟨h.low, h.mid, h.top⟩
    · exact hP.1 r (h.behind r hr)
  · have b := h.xb u hu
    rcases mem_snoc hs with hs | rfl
    · have a := h.ax s hs
      have := h.mid
      unfold Gap at *; omega
    · exact b
  · rw [inR_app, inR_app, inR_one, ← h.all y]
    exact ⟨fun g => g.elim (fun g => g.elim .inl fun g => .inr (.inl g)) fun g => .inr (.inr g), fun g => g.elim (fun g => .inl (.inl g)) fun g => g.elim (fun g => .inl (.inr g)) .inr⟩
/-- T lays out the runs P -/
def LaidR (l : Int) (P : List Rn) (T : List Int) : Prop := TiGood l T ∧ (∀ x, Held l T x ↔ InR P x) ∧ T.length ≤ P.length * 96
theorem laidR_start (l : Int) : LaidR l [] [] := ⟨⟨fun t h => by simp at h, List.Pairwise.nil⟩, fun x => ⟨fun g => absurd g (held_nil l x), fun g => absurd g (inR_nil x)⟩, by simp⟩
theorem laidR_step {l : Int} {P : List Rn} {T U : List Int} {r : Rn} (h : LaidR l P T) (hP : ∀ p ∈ P, Gap p r) (hU : TiGood l U) (hr : ∀ x, Held l U x ↔ r.1 ≤ x ∧ x ≤ r.2) (hl : U.length ≤ 96) : LaidR l (P ++ [r]) (T ++ U) := by
  obtain ⟨h1, h2, h3⟩ := h
  refine ⟨⟨fun t ht => ?_, List.pairwise_append.2 ⟨h1.2, hU.2, fun s hs u hu => ?_⟩⟩, fun x => ?_, by simp; omega⟩
  · rcases List.mem_append.1 ht with ht | ht
    · exact h1.1 t ht
    · exact hU.1 t ht
  · obtain ⟨p, hp, g⟩ := (h2 _).1 (held_hi h1.1 hs)
    have a := hP p hp
    have nu := node_bd (hU.1 u hu)
    have b := (hr (loN l u)).1 ⟨u, hu, Int.le_refl _, nu.2.1⟩
    unfold Gap at a
    refine ⟨by omega, fun ⟨q1, q2⟩ => ?_⟩
    have ns := node_bd (h1.1 s hs)
    have := node_pair (h1.1 s hs) (by omega) q1
    subst q2
    omega
  · rw [held_app, inR_app, inR_one, h2, hr]
end Go.Proofs.YtmfdpaahklndnaaGreat
namespace Go.Proofs.YtmfdpaahklndnaaGreat
set_option linter.unusedVariables false
open Go.RowKit
def pairs : List Rn → List Value
  | [] => []
  | r :: L => .int .i64 r.1 :: .int .i64 r.2 :: pairs L
theorem pairs_len (L : List Rn) : (pairs L).length = L.length * 2 := by
  induction L with
  | nil => rfl
  | cons r L ih => simp [pairs, ih]; omega
theorem pairs_app (L M : List Rn) : pairs (L ++ M) = pairs L ++ pairs M := by
  induction L with
  | nil => simp [pairs]
  | cons r L ih => simp [pairs, ih]
def rz : Rn := (0, 0)
theorem pairs_get : ∀ (L : List Rn) (k : Nat), k < L.length → (pairs L)[k * 2]? = some (.int .i64 (L.getD k rz).1) ∧ (pairs L)[k * 2 + 1]? = some (.int .i64 (L.getD k rz).2) := by
  intro L
  induction L with
  | nil => intro k h; simp at h
  | cons r L ih =>
    intro k h
    cases k with
    | zero => simp [pairs]
    | succ k =>
      have := ih k (by simp at h; omega)
      have e1 : (k + 1) * 2 = k * 2 + 1 + 1 := by omega
      rw [e1]
      simp only [pairs, List.getElem?_cons_succ, List.getD_cons_succ]
      exact this
def OwnP (e : TypeId) (w : World) (B : Nat) (v : Value) (L : List Rn) : Prop := w.ownsRow B e 2 v L.length (pairs L)
theorem ownP_nil (e : TypeId) (w : World) (B : Nat) : OwnP e w B (.slice none 0 0) [] := World.ownsRow_nil w B e 2
theorem ownP_snoc {e : TypeId} {w : World} {B : Nat} {v : Value} {L : List Rn} {x y : Int} (h : w.ownsRow B e 2 v (L.length + 1) (pairs L ++ [.int .i64 x, .int .i64 y])) : OwnP e w B v (L ++ [(x, y)]) := by
  unfold OwnP
  rw [pairs_app, List.length_append]
  exact h
theorem pairs_one (L : List Rn) : ∀ u ∈ pairs L, u.oneCell' = true := by
  induction L with
  | nil => intro u h; simp [pairs] at h
  | cons r L ih =>
    intro u h
    simp only [pairs, List.mem_cons] at h
    rcases h with rfl | rfl | h
    · rfl
    · rfl
    · exact ih u h
theorem ownP_join {e : TypeId} {w : World} {B : Nat} {v : Value} {L M : List Rn} {x y : Int} (h : w.ownsRow B e 2 v (L.length + 1 + M.length) (pairs L ++ .int .i64 x :: .int .i64 y :: pairs M)) : OwnP e w B v (L ++ [(x, y)] ++ M) := by
  unfold OwnP
  rw [pairs_app, pairs_app, List.length_append, List.length_append, List.append_assoc]
  exact h
/-- a slice of runs that is only read -/
def RunsAt (w : World) (v : Value) (L : List Rn) : Prop := ∃ A c, v = .slice A L.length c ∧ (0 < L.length → ∃ b o, A = some ⟨b, o, none⟩ ∧ b < w.heap.size ∧ ∀ k, k < L.length → w.cell? ⟨b, o + k * 2, none⟩ = some (.int .i64 (L.getD k rz).1) ∧ w.cell? ⟨b, o + k * 2 + 1, none⟩ = some (.int .i64 (L.getD k rz).2))
theorem RunsAt.below {w w' : World} {v : Value} {L : List Rn} (h : RunsAt w v L) (hb : Below w.heap.size w w') : RunsAt w' v L := by
  obtain ⟨A, c, e, hc⟩ := h
  refine ⟨A, c, e, fun h0 => ?_⟩
  obtain ⟨b, o, ea, hlt, hk⟩ := hc h0
  exact ⟨b, o, ea, Nat.lt_of_lt_of_le hlt hb.size, fun k hk' => ⟨(hb.cell (p := ⟨b, o + k * 2, none⟩) hlt).trans (hk k hk').1, (hb.cell (p := ⟨b, o + k * 2 + 1, none⟩) hlt).trans (hk k hk').2⟩⟩
theorem runs_cells {w : World} {A : Option Addr} {m c : Nat} {L : List Rn} (h : RunsAt w (.slice A m c) L) : m = L.length ∧ (0 < L.length → ∃ b o, A = some ⟨b, o, none⟩ ∧ b < w.heap.size ∧ ∀ k, k < L.length → w.cell? ⟨b, o + k * 2, none⟩ = some (.int .i64 (L.getD k rz).1) ∧ w.cell? ⟨b, o + k * 2 + 1, none⟩ = some (.int .i64 (L.getD k rz).2)) := by
  obtain ⟨A', c', e, hc⟩ := h
  injection e with e1 e2 e3
  subst e1
  exact ⟨e2, hc⟩
theorem ownP_runs {e : TypeId} {w : World} {B : Nat} {v : Value} {L : List Rn} (h : OwnP e w B v L) : RunsAt w v L := by
  have hf := h
  rcases h.2 with ⟨hv, h0⟩ | ⟨g, cap, cur, hv, hb, hg, hn, hc, _⟩
  · exact ⟨none, 0, by rw [hv, h0], fun h => by omega⟩
  · subst hv
    refine ⟨_, cap, rfl, fun h0 => ⟨g, 0, rfl, (hf.lt g rfl).2, fun k hk => ?_⟩⟩
    have a := World.ownsRow.cellAt hf (k * 2) (by omega)
    have b := World.ownsRow.cellAt hf (k * 2 + 1) (by omega)
    have c := pairs_get L k hk
    rw [Nat.zero_add, a, b]
    exact c
theorem getDr_mem {L : List Rn} {k : Nat} (h : k < L.length) : L.getD k rz ∈ L := by
  rw [List.getD_eq_getElem?_getD, List.getElem?_eq_getElem h]; exact List.getElem_mem h
theorem take_atr {T : List Rn} {k : Nat} (h : k < T.length) : T.take (k + 1) = T.take k ++ [T.getD k rz] := by
  rw [List.take_succ_eq_append_getElem h]; simp [List.getD_eq_getElem?_getD, List.getElem?_eq_getElem h]
theorem gap_at {S : List Rn} (h : S.Pairwise Gap) {k : Nat} (hk : k < S.length) : ∀ p ∈ S.take k, Gap p (S.getD k rz) := by
  have e := List.take_append_drop k S
  have d : S.drop k = S.getD k rz :: S.drop (k + 1) := by
    rw [List.drop_eq_getElem_cons hk]; simp [List.getD_eq_getElem?_getD, List.getElem?_eq_getElem hk]
  rw [d] at e
  rw [← e] at h
  exact fun p hp => (List.pairwise_append.1 h).2.2 p hp _ (by simp)
/-- two rows of the call's own, and a box -/
structure WithAt (e : TypeId) (N : Nat) (w0 w : World) (va vb : Value) (x : Rn) (A B : List Rn) : Prop where
  a : OwnP e w (N + 1) va A
  b : OwnP e w (N + 1) vb B
  ne : va.ownBlock = none ∨ va.ownBlock ≠ vb.ownBlock
  box : w.heap[N]? = some (.cells #[.int .i64 x.1, .int .i64 x.2] e (0, 0))
  below : Below N w0 w
  room : N + 1 ≤ w.heap.size
theorem WithAt.drew {e : TypeId} {N : Nat} {w0 w : World} {va vb : Value} {x : Rn} {A B : List Rn} (h : WithAt e N w0 w va vb x A B) (q : Nat) : WithAt e N w0 (w.drewN q) va vb x A B :=
  ⟨h.a, h.b, h.ne, h.box, drewN_below h.below q, h.room⟩
theorem WithAt.cells {e : TypeId} {N : Nat} {w0 w : World} {va vb : Value} {x : Rn} {A B : List Rn} (h : WithAt e N w0 w va vb x A B) :
    w.cell? ⟨N, 0, none⟩ = some (.int .i64 x.1) ∧ w.cell? ⟨N, 1, none⟩ = some (.int .i64 x.2) ∧ w.frozen? ⟨N, 0, none⟩ = false ∧ w.frozen? ⟨N, 1, none⟩ = false := by
  have := h.box
  refine ⟨?_, ?_, ?_, ?_⟩ <;> simp [World.cell?, World.frozen?, this]
theorem WithAt.far {e : TypeId} {N : Nat} {w0 w : World} {va vb : Value} {x : Rn} {A B : List Rn} (h : WithAt e N w0 w va vb x A B) : va.ownBlock ≠ some N ∧ vb.ownBlock ≠ some N :=
  ⟨fun g => by have := (World.ownsRow.lt h.a N g).1; omega, fun g => by have := (World.ownsRow.lt h.b N g).1; omega⟩
theorem WithAt.set0 {e : TypeId} {N : Nat} {w0 w : World} {va vb : Value} {x : Rn} {A B : List Rn} (h : WithAt e N w0 w va vb x A B) (y : Int) : WithAt e N w0 (w.setCell ⟨N, 0, none⟩ (.int .i64 y)) va vb (y, x.2) A B :=
  ⟨ownsRow_setCell_other h.a h.far.1 _, ownsRow_setCell_other h.b h.far.2 _, h.ne, by rw [heap_setCell_same _ _ _ _ _ _ h.box]; rfl, h.below.setCell (Nat.le_refl _) _, by simpa using h.room⟩
theorem WithAt.set1 {e : TypeId} {N : Nat} {w0 w : World} {va vb : Value} {x : Rn} {A B : List Rn} (h : WithAt e N w0 w va vb x A B) (y : Int) : WithAt e N w0 (w.setCell ⟨N, 1, none⟩ (.int .i64 y)) va vb (x.1, y) A B :=
  ⟨ownsRow_setCell_other h.a h.far.1 _, ownsRow_setCell_other h.b h.far.2 _, h.ne, by rw [heap_setCell_same _ _ _ _ _ _ h.box]; rfl, h.below.setCell (Nat.le_refl _) _, by simpa using h.room⟩
theorem WithAt.start (e : TypeId) (w : World) (x y : Int) : WithAt e w.heap.size w (w.alloc (.cells #[.int .i64 x, .int .i64 y] e)) (.slice none 0 0) (.slice none 0 0) (x, y) [] [] :=
  ⟨ownP_nil .., ownP_nil .., .inl rfl, heap_alloc_new w _, (Below.refl _ _).alloc (Nat.le_refl _) _, by simp⟩
theorem WithAt.growA {e : TypeId} {N : Nat} {w0 w w2 : World} {va vb v' : Value} {x : Rn} {A B A' : List Rn} {o : Obj} (h : WithAt e N w0 w va vb x A B) (hown : OwnP e w2 (N + 1) v' A') (hg : (w.alloc o).grownBy w2 va.ownBlock) (hat : v'.ownBlock = va.ownBlock ∨ v'.ownBlock = some (w.heap.size + 1)) :
    WithAt e N w0 w2 v' vb x A' B := by
  have hr := h.room
  have g0 : w.grownBy w2 va.ownBlock := (World.grownBy_alloc w o _).trans hg
  have hb : vb.ownBlock = none ∨ vb.ownBlock ≠ va.ownBlock := by
    rcases h.ne with q | q
    · cases hv : vb.ownBlock with
      | none => exact .inl rfl
      | some k => exact .inr (by rw [q]; simp)
    · exact .inr (Ne.symm q)
  refine ⟨hown, World.ownsRow.kept h.b g0 hb, ?_, ?_, ?_, by have := g0.size; omega⟩
  · rcases hat with q | q
    · rw [q]; exact h.ne
    · right
      rw [q]
      intro g
      have := (World.ownsRow.lt h.b _ g.symm).2
      omega
  · rw [g0.block N (by omega) (Ne.symm h.far.1)]; exact h.box
  · exact h.below.trans ⟨g0.os, g0.tape, g0.output, g0.size, fun k hk => g0.block k (by omega) (fun q => by have := (World.ownsRow.lt h.a k q.symm).1; omega)⟩
theorem WithAt.growB {e : TypeId} {N : Nat} {w0 w w2 : World} {va vb v' : Value} {x : Rn} {A B B' : List Rn} {o : Obj} (h : WithAt e N w0 w va vb x A B) (hown : OwnP e w2 (N + 1) v' B') (hg : (w.alloc o).grownBy w2 vb.ownBlock) (hat : v'.ownBlock = vb.ownBlock ∨ v'.ownBlock = some (w.heap.size + 1)) :
    WithAt e N w0 w2 va v' x A B' := by
  have hr := h.room
  have g0 : w.grownBy w2 vb.ownBlock := (World.grownBy_alloc w o _).trans hg
  refine ⟨World.ownsRow.kept h.a g0 h.ne, hown, ?_, ?_, ?_, by have := g0.size; omega⟩
  · rcases hat with q | q
    · rw [q]; exact h.ne
    · cases hv : va.ownBlock with
      | none => exact .inl rfl
      | some k =>
        right
        rw [q]
        intro g
        injection g with g
        have := (World.ownsRow.lt h.a k hv).2
        omega
  · rw [g0.block N (by omega) (Ne.symm h.far.2)]; exact h.box
  · exact h.below.trans ⟨g0.os, g0.tape, g0.output, g0.size, fun k hk => g0.block k (by omega) (fun q => by have := (World.ownsRow.lt h.b k q.symm).1; omega)⟩
end Go.Proofs.YtmfdpaahklndnaaGreat
namespace Go.Proofs.YtmfdpaahklndnaaGreat
set_option linter.unusedVariables false
end Go.Proofs.YtmfdpaahklndnaaGreat
namespace Go.Proofs.YtmfdpaahklndnaaGreat
set_option linter.unusedVariables false
open Go.RowKit
theorem int_info : (Tryz.prog.info? 3).map (fun i => (i.zero, i.size, i.bytes)) = some (some (.int .i64 0), 1, 8) := by kernel_rfl
/-- what put leaves -/
def TiPutPost (B : Nat) (w : World) (v : Value) (R : List Int) (id : Int) (e : Ending) (w' : World) : Prop :=
  ∃ v', e = .returned v' ∧ OwnI 3 w' B v' (putR R id).reverse ∧ w.grownBy w' v.ownBlock ∧ At w v v'
theorem suf_top {R S P : List Int} {t : Int} (h : R = P ++ (t :: S)) : R.reverse.getD S.length 0 = t ∧ S.length < R.reverse.length := by
  subst h
  simp [List.getD_eq_getElem?_getD]
theorem rev_parts {R S P : List Int} (h : R = P ++ S) : R.reverse = S.reverse ++ P.reverse := by subst h; simp
theorem tiPut_step {t : Int} {S : List Int} {id : Int} (h2 : 2 ≤ id) (h : t = pairN id) : putR (t :: S) id = putR S (id / 2) := if_pos ⟨h2, h⟩
theorem put_stop {t : Int} {S : List Int} {id : Int} (h : ¬ (2 ≤ id ∧ t = pairN id)) : putR (t :: S) id = id :: t :: S := if_neg h
theorem put_end {B : Nat} {w w1 : World} {v v' : Value} {R S : List Int} {id j : Int} {o : Obj} {vb : Option Nat} {n : Nat} (hn : n = S.length) (hown : w1.ownsRow B 3 1 v' (n + 1) (ints S.reverse ++ [.int .i64 j])) (hput : putR R id = j :: S)
    (hg : (w.alloc o).grownBy w1 vb) (hvb : vb = v.ownBlock) (hat : v'.ownBlock = vb ∨ v'.ownBlock = some (w.heap.size + 1)) : TiPutPost B w v R id (.returned v') w1 := by
  subst hvb
  refine ⟨v', rfl, ?_, ?_, ?_⟩
  · rw [hput, List.reverse_cons]
    exact ownI_snoc (by simp [hn]) hown
  · exact (World.grownBy_alloc w o _).trans hg
  · exact hat.imp (fun e => e) fun e => ⟨_, e, by omega⟩
set_option maxHeartbeats 1600000 in
theorem tiPut_any (B : Nat) (v : Value) (R : List Int) (id : Int) (w : World) (hown : OwnI 3 w B v R.reverse) (N0 : 1 ≤ id) (N1 : id ≤ 9223372036854775807) (hl : R.length ≤ 1000000) (hB : B ≤ w.heap.size) :
    Calls Tryz.prog 71 #[v, .int .i64 id] w (TiPutPost B w v R id) := by
  obtain ⟨i0, hi, hz0, hz1, hz2⟩ := info_parts int_info
  rcases ownI_form hown with ⟨rfl, hR⟩ | ⟨g, cap, rfl, hBg, hgw, hn, hcap⟩
  · obtain rfl : R = [] := by simpa using hR
    have hown0 := ownI_nil 3 w B
    clear hR hown
    go_enter Tryz.func71, Tryz.ntmps71
    go_wp2_with fail
    go_loop [1, 5] (fun i n => i = .int .i64 id ∧ n = .int .i64 0) (fun _ _ => 0)
    case atStart => exact ⟨rfl, rfl⟩
    case round =>
      obtain ⟨rfl, rfl⟩ := hrel
      go_wp2_with (at_builtin; refine wpList_append_own_at _ rfl _ _ 46 rfl B 3 i0 (.int .i64 0) 1 8 Tryz.underlying46 hi hz0 hz1 hz2 rfl (by decide) _ 0 [] rfl ((ownI_nil 3 w B).alloc _) ⟨w.heap.size, 0, none⟩ 1 1 [.int .i64 id] rfl rfl (one_new _ _ _ _ rfl) (one_int _) (by unfold maxLen; omega) (by omega) (by simp; omega) ?_)
      intro v' w1 hown1 hgrow _ hat
      go_wp2_with fail
      go_ret
      exact put_end (S := []) (j := id) rfl hown1 rfl hgrow rfl hat
  · have HO := Lib.hid hown
    have hn' : R.length ≤ cap := by simpa using hn
    have hcap' : cap ≤ 9223372036854775807 := by unfold maxLen at hcap; omega
    clear hn hcap hown
    simp only [List.length_reverse]
    go_enter Tryz.func71, Tryz.ntmps71
    go_wp2_with fail
    go_loop [1, 5] (fun i n => ∃ (S P : List Int) (j : Int), R = P ++ S ∧ i = .int .i64 j ∧ n = .int .i64 (S.length : Int) ∧ putR R id = putR S j ∧ 1 ≤ j ∧ j ≤ id) (fun _ n => (intOf n).toNat)
    case atStart => exact ⟨R, [], id, by simp, rfl, rfl, rfl, N0, Int.le_refl _⟩
    case round =>
      obtain ⟨S, P, j, hR, rfl, rfl, hput, hj0, hj1⟩ := hrel
      have HR := Lib.hid hR
      have HP := Lib.hid hput
      have hSR : S.length ≤ R.length := by have := congrArg List.length hR; simp at this; omega
      have HC := Lib.hid (show w.ownsRow B 3 1 (.slice (some ⟨g, 0, none⟩) S.length cap) S.length (ints S.reverse) from by
        have h := HO.out
        have h2 := rev_parts hR
        rw [h2] at h
        have h3 := ownI_cut h
        unfold OwnI at h3
        rwa [List.length_reverse] at h3)
      clear hR hput
      cases S with
      | nil =>
        simp only [List.length_nil]
        go_wp2_with (at_builtin; refine wpList_append_own_at _ rfl _ _ 46 rfl B 3 i0 (.int .i64 0) 1 8 Tryz.underlying46 hi hz0 hz1 hz2 rfl (by decide) _ 0 [] rfl (World.ownsRow.alloc HC.out _) ⟨w.heap.size, 0, none⟩ 1 1 [.int .i64 j] rfl rfl (one_new _ _ _ _ rfl) (one_int _) (by unfold maxLen; omega) (by omega) (by simp; omega) ?_)
        intro v' w1 hown1 hgrow _ hat
        go_wp2_with fail
        go_ret
        exact put_end (S := []) (j := j) rfl hown1 HP.out hgrow rfl hat
      | cons t S =>
        simp only [List.length_cons] at *
        push_cast
        have hcell : w.cell? ⟨g, S.length, none⟩ = some (.int .i64 t) := by
          have h1 := suf_top HR.out
          have h2 := HO.out
          rw [ownI_cell h2 S.length h1.2, h1.1]
        by_cases h2 : 2 ≤ j
        · have hb := (pair_yes h2).2
          by_cases ht : t = pairN j
          · have HS := Lib.hid (tiPut_step h2 ht (S := S))
            have hq : (t == pairN j) = true := by simpa using ht
            have hq' : (t != pairN j) = false := by simpa using ht
            have hu := tUp_yes (id := j) (b := 1) ⟨by omega, by omega, by have := dep_of (id := j) (by omega) (by omega); obtain ⟨k, _, e, _, hd⟩ := this; rw [e]; cases k with | zero => have := dep_zero hd; omega | succ k => omega⟩
            have hu1 : tUpN j 1 = j / 2 := by rw [hu.1]; rfl
            have hu2 := hu.2
            clear hu ht
            go_wp2_with (first | (go_at_call 116; refine (pair_any _ _ (by omega) (by omega)).mono ?_; rintro e w1 ⟨rfl, rfl⟩) | (go_at_call 117; refine (tUp_any _ _ _ (by omega) (by omega) (by omega) (by omega)).mono ?_; rintro e w1 ⟨rfl, rfl⟩))
            go_round
            case rel => exact ⟨S, P ++ [t], j / 2, by rw [HR.out]; simp, rfl, by go_num, by rw [HP.out, HS.out], by omega, by omega⟩
            case measure => simp [intOf]
          · have hq : (t == pairN j) = false := by simpa using ht
            have hq' : (t != pairN j) = true := by simpa using ht
            have HS := Lib.hid (put_stop (S := S) (t := t) (id := j) (fun g => ht g.2))
            clear ht
            go_wp2_with (first | (go_at_call 116; refine (pair_any _ _ (by omega) (by omega)).mono ?_; rintro e w1 ⟨rfl, rfl⟩) | (at_builtin; refine wpList_append_own_at _ rfl _ _ 46 rfl B 3 i0 (.int .i64 0) 1 8 Tryz.underlying46 hi hz0 hz1 hz2 rfl (by decide) _ (S.length + 1) (ints (t :: S).reverse) rfl (World.ownsRow.alloc HC.out _) ⟨w.heap.size, 0, none⟩ 1 1 [.int .i64 j] rfl rfl (one_new _ _ _ _ rfl) (one_int _) (by unfold maxLen; omega) (by omega) (by simp; omega) ?_))
            intro v' w1 hown1 hgrow _ hat
            go_wp2_with fail
            go_ret
            exact put_end (S := t :: S) (j := j) rfl (by rw [List.reverse_cons]; exact hown1) (HP.out.trans HS.out) hgrow rfl hat
        · have hb := (pair_no h2).2
          have HS := Lib.hid (put_stop (S := S) (t := t) (id := j) (fun g => h2 g.1))
          go_wp2_with (first | (go_at_call 116; refine (pair_any _ _ (by omega) (by omega)).mono ?_; rintro e w1 ⟨rfl, rfl⟩) | (at_builtin; refine wpList_append_own_at _ rfl _ _ 46 rfl B 3 i0 (.int .i64 0) 1 8 Tryz.underlying46 hi hz0 hz1 hz2 rfl (by decide) _ (S.length + 1) (ints (t :: S).reverse) rfl (World.ownsRow.alloc HC.out _) ⟨w.heap.size, 0, none⟩ 1 1 [.int .i64 j] rfl rfl (one_new _ _ _ _ rfl) (one_int _) (by unfold maxLen; omega) (by omega) (by simp; omega) ?_))
          intro v' w1 hown1 hgrow _ hat
          go_wp2_with fail
          go_ret
          exact put_end (S := t :: S) (j := j) rfl (by rw [List.reverse_cons]; exact hown1) (HP.out.trans HS.out) hgrow rfl hat
/-- the function value that goes into itself -/
def layF (N : Nat) : Value := .func (.func 80) #[] #[.pointer (some ⟨N + 1, 0, none⟩), .pointer (some ⟨N + 2, 0, none⟩), .pointer (some ⟨N + 3, 0, none⟩), .pointer (some ⟨N, 0, none⟩), .pointer (some ⟨N + 4, 0, none⟩)]
/-- what it captured: the stack, the universe, both ends, itself -/
def LayAt (B N : Nat) (l a b : Int) (w : World) (v : Value) (R : List Int) : Prop :=
  N + 4 < w.heap.size ∧ B ≤ N ∧ w.heap[N]? = some (.cells #[v] 46 (0, 0)) ∧ w.cell? ⟨N + 1, 0, none⟩ = some (.int .i64 l) ∧ w.cell? ⟨N + 2, 0, none⟩ = some (.int .i64 a) ∧ w.cell? ⟨N + 3, 0, none⟩ = some (.int .i64 b) ∧
  w.cell? ⟨N + 4, 0, none⟩ = some (layF N) ∧ w.ownsRow B 3 1 v R.length (ints R.reverse) ∧ (∀ g, v.ownBlock = some g → g < N ∨ N + 4 < g)
/-- all but the stack's cell and its row is as it was -/
structure Moved (N : Nat) (w w' : World) (v : Value) : Prop where
  os : w'.os = w.os
  tape : w'.tape = w.tape
  output : w'.output = w.output
  size : w.heap.size ≤ w'.heap.size
  block : ∀ k, k < w.heap.size → k ≠ N → some k ≠ v.ownBlock → w'.heap[k]? = w.heap[k]?
theorem Moved.refl (N : Nat) (w : World) (v : Value) : Moved N w w v := ⟨rfl, rfl, rfl, Nat.le_refl _, fun _ _ _ _ => rfl⟩
theorem Moved.trans {N : Nat} {w w1 w2 : World} {v v1 : Value} (h : Moved N w w1 v) (h1 : Moved N w1 w2 v1) (ha : At w v v1) : Moved N w w2 v :=
  ⟨h1.os.trans h.os, h1.tape.trans h.tape, h1.output.trans h.output, Nat.le_trans h.size h1.size, fun k hk hN hne => by
    rw [h1.block k (Nat.lt_of_lt_of_le hk h.size) hN ?_, h.block k hk hN hne]
    rcases ha with e | ⟨j, e, hj⟩
    · rw [e]; exact hne
    · rw [e]; intro g; injection g; omega⟩
theorem moved_put {N : Nat} {w w1 : World} {v u : Value} (h : w.grownBy w1 v.ownBlock) : Moved N w (w1.setCell ⟨N, 0, none⟩ u) v :=
  ⟨h.os, h.tape, h.output, by simpa using h.size, fun k hk hN hne => by rw [Below.heap_setCell _ _ _ _ hN]; exact h.block k hk hne⟩
theorem layAt_put {B N : Nat} {l a b : Int} {w w1 : World} {v v' : Value} {R R' : List Int} (h : LayAt B N l a b w v R) (hg : w.grownBy w1 v.ownBlock) (ha : At w v v') (hown : OwnI 3 w1 B v' R'.reverse) :
    LayAt B N l a b (w1.setCell ⟨N, 0, none⟩ v') v' R' ∧ w1.cell? ⟨N, 0, none⟩ = some v ∧ w1.frozen? ⟨N, 0, none⟩ = false := by
  obtain ⟨h1, h2, h3, h4, h5, h6, h7, h8, h9⟩ := h
  have hs := hg.size
  have hne : ∀ i, i ≤ 4 → some (N + i) ≠ v.ownBlock := fun i hi e => by have := h9 _ e.symm; omega
  have hv' : ∀ g, v'.ownBlock = some g → g < N ∨ N + 4 < g := fun g e => by
    rcases ha with q | ⟨k, q, hk⟩
    · exact h9 g (q.symm.trans e)
    · rw [q] at e; injection e with e; omega
  have hb : ∀ i, i ≤ 4 → w1.heap[N + i]? = w.heap[N + i]? := fun i hi => hg.block _ (by omega) (hne i hi)
  have hN := hb 0 (by omega)
  rw [Nat.add_zero] at hN
  have h3' := hN.trans h3
  have cell : ∀ i x, 1 ≤ i → i ≤ 4 → w.cell? ⟨N + i, 0, none⟩ = some x → (w1.setCell ⟨N, 0, none⟩ v').cell? ⟨N + i, 0, none⟩ = some x := fun i x hi hi4 hx => by
    rw [World.cell?_setCell_other _ _ _ _ (fun e => by injection e with e; omega)]
    exact (World.cell?_of_block (a := ⟨N + i, 0, none⟩) (hb i hi4)).trans hx
  refine ⟨⟨by simp; omega, h2, one_setCell h3', cell 1 _ (by omega) (by omega) h4, cell 2 _ (by omega) (by omega) h5, cell 3 _ (by omega) (by omega) h6, cell 4 _ (by omega) (by omega) h7, ?_, hv'⟩, cell_of_one h3', free_of_one h3'⟩
  unfold OwnI at hown
  rw [List.length_reverse] at hown
  exact ownsRow_setCell_other hown (fun e => by have q := hv' N e; omega) _
def IntoPost (B N : Nat) (l a b : Int) (w : World) (v : Value) (R' : List Int) (e : Ending) (w' : World) : Prop :=
  ∃ v', e = .returned (.tuple #[]) ∧ LayAt B N l a b w' v' R' ∧ Moved N w w' v ∧ At w v v'
theorem into_one {l a b : Int} {h : Nat} {id : Int} {R : List Int} (c : a ≤ loN l id ∧ hiN l id ≤ b) : intoR l a b h id R = putR R id ∧ cnt l a b h id = 1 := by
  cases h <;> simp [intoR, cnt, c]
theorem into_two {l a b : Int} {h : Nat} {id : Int} {R : List Int} (c : ¬ (a ≤ loN l id ∧ hiN l id ≤ b)) (d : loN l id ≤ b ∧ a ≤ hiN l id) :
    intoR l a b (h + 1) id R = intoR l a b h (2 * id + 1) (intoR l a b h (2 * id) R) ∧ cnt l a b (h + 1) id = cnt l a b h (2 * id) + cnt l a b h (2 * id + 1) := by
  simp [intoR, cnt, c, d]
theorem into_none {l a b : Int} {h : Nat} {id : Int} {R : List Int} (c : ¬ (a ≤ loN l id ∧ hiN l id ≤ b)) (d : ¬ (loN l id ≤ b ∧ a ≤ hiN l id)) : intoR l a b h id R = R := by
  cases h <;> simp [intoR, c, d]
set_option maxHeartbeats 1600000 in
theorem into_full (B N : Nat) (l a b : Int) (h : Nat) (id : Int) (hn : Node l id) (R : List Int) (v : Value) (w : World) (hlay : LayAt B N l a b w v R) (hl0 : R.length ≤ 1000000) (c1 : a ≤ loN l id) (c2 : hiN l id ≤ b) :
    Calls Tryz.prog 80 #[.int .i64 id, .pointer (some ⟨N + 1, 0, none⟩), .pointer (some ⟨N + 2, 0, none⟩), .pointer (some ⟨N + 3, 0, none⟩), .pointer (some ⟨N, 0, none⟩), .pointer (some ⟨N + 4, 0, none⟩)] w (IntoPost B N l a b w v (intoR l a b h id R)) := by
  have HI := Lib.hid (into_one (h := h) (R := R) ⟨c1, c2⟩)
  have hbd := node_bd hn
  have hl1 := hn.1.1
  have hl2 := hn.1.2.1
  have hid := right_id hn.1 hn.2
  have L := Lib.hid hlay
  obtain ⟨g1, g2, g3, g4, g5, g6, g7, g8, g9⟩ := hlay
  have g3' := cell_of_one g3
  unfold layF at g7
  have he := (end_yes hn.1).2.2
  have G9 := Lib.hid g9
  clear g9 g3
  go_enter Tryz.func80, Tryz.ntmps80
  go_wp2_with (go_at_call 41; refine (ends_any _ _ _ (by omega) (by omega) (by omega) (by omega)).mono ?_; rintro e w1 ⟨rfl, rfl⟩)
  refine (tiPut_any B v R id w (by unfold OwnI; rw [List.length_reverse]; exact g8) (by omega) (by omega) hl0 (by omega)).mono ?_
  rintro e w1 ⟨v', rfl, hown1, hg1, ha1⟩
  obtain ⟨L1, q1, q2⟩ := layAt_put L.out hg1 ha1 hown1
  have M1 := moved_put (N := N) (u := v') hg1
  clear g1 g3' g4 g5 g6 g7 g8 hg1
  obtain ⟨A', m', c', rfl⟩ := own_slice hown1
  clear hown1
  go_wp2_with fail
  go_end0
  refine ⟨_, rfl, ?_, M1, ha1⟩
  rw [HI.out.1]
  exact L1
set_option maxHeartbeats 1600000 in
theorem into_out (B N : Nat) (l a b : Int) (h : Nat) (id : Int) (hn : Node l id) (R : List Int) (v : Value) (w : World) (hlay : LayAt B N l a b w v R) (c0 : ¬ (a ≤ loN l id ∧ hiN l id ≤ b)) (c : ¬ (loN l id ≤ b ∧ a ≤ hiN l id)) :
    Calls Tryz.prog 80 #[.int .i64 id, .pointer (some ⟨N + 1, 0, none⟩), .pointer (some ⟨N + 2, 0, none⟩), .pointer (some ⟨N + 3, 0, none⟩), .pointer (some ⟨N, 0, none⟩), .pointer (some ⟨N + 4, 0, none⟩)] w (IntoPost B N l a b w v (intoR l a b h id R)) := by
  have HI := Lib.hid (into_none (h := h) (R := R) c0 c)
  have hbd := node_bd hn
  have hl1 := hn.1.1
  have hl2 := hn.1.2.1
  have hid := right_id hn.1 hn.2
  have L := Lib.hid hlay
  obtain ⟨g1, g2, g3, g4, g5, g6, g7, g8, g9⟩ := hlay
  have g3' := cell_of_one g3
  unfold layF at g7
  have he := (end_yes hn.1).2.2
  have G9 := Lib.hid g9
  clear g9 g3
  rcases (show (loN l id < a ∧ b < loN l id) ∨ (loN l id < a ∧ loN l id ≤ b ∧ hiN l id < a) ∨ (a ≤ loN l id ∧ b < hiN l id ∧ b < loN l id) by omega) with ⟨c1, c2⟩ | ⟨c1, c2, c3⟩ | ⟨c1, c2, c3⟩
  all_goals
    clear c c0
    go_enter Tryz.func80, Tryz.ntmps80
    go_wp2_with (go_at_call 41; refine (ends_any _ _ _ (by omega) (by omega) (by omega) (by omega)).mono ?_; rintro e w1 ⟨rfl, rfl⟩)
    go_end0
    refine ⟨v, rfl, ?_, Moved.refl .., At.refl ..⟩
    rw [HI.out]
    exact L.out
set_option maxHeartbeats 3200000 in
theorem into_kids (B N : Nat) (l a b : Int) (h k : Nat) (IH : Hid (∀ (k : Nat) (id : Int), Form l id k h → Node l id → ∀ (R : List Int) (v : Value) (w : World), LayAt B N l a b w v R → R.length + cnt l a b h id ≤ 1000000 →
    Calls Tryz.prog 80 #[.int .i64 id, .pointer (some ⟨N + 1, 0, none⟩), .pointer (some ⟨N + 2, 0, none⟩), .pointer (some ⟨N + 3, 0, none⟩), .pointer (some ⟨N, 0, none⟩), .pointer (some ⟨N + 4, 0, none⟩)] w (IntoPost B N l a b w v (intoR l a b h id R))))
    (id : Int) (f : Form l id k (h + 1)) (hn : Node l id) (R : List Int) (v : Value) (w : World) (hlay : LayAt B N l a b w v R) (hlen : R.length + cnt l a b (h + 1) id ≤ 1000000) (c0 : ¬ (a ≤ loN l id ∧ hiN l id ≤ b)) (c : loN l id ≤ b ∧ a ≤ hiN l id) :
    Calls Tryz.prog 80 #[.int .i64 id, .pointer (some ⟨N + 1, 0, none⟩), .pointer (some ⟨N + 2, 0, none⟩), .pointer (some ⟨N + 3, 0, none⟩), .pointer (some ⟨N, 0, none⟩), .pointer (some ⟨N + 4, 0, none⟩)] w (IntoPost B N l a b w v (intoR l a b (h + 1) id R)) := by
  have HI := Lib.hid (into_two (h := h) (R := R) c0 c)
  have HK := Lib.hid (kids_form f)
  have hk := kid_yes (l := l) (id := id) ⟨hn.1, fun g => by have q := f.1; have q2 := g.2.2.2; have q3 := (dep_is f.2.2.2.1 hn.2).1; omega⟩
  have hk1 := hk.1
  have hk2 := hk.2.1
  have hk3 := hk.2.2
  clear hk f
  have hbd := node_bd hn
  have hl1 := hn.1.1
  have hl2 := hn.1.2.1
  have hid := right_id hn.1 hn.2
  have L := Lib.hid hlay
  obtain ⟨g1, g2, g3, g4, g5, g6, g7, g8, g9⟩ := hlay
  have g3' := cell_of_one g3
  unfold layF at g7
  have he := (end_yes hn.1).2.2
  have G9 := Lib.hid g9
  clear g9 g3
  obtain ⟨c2, c3⟩ := c
  rcases (show loN l id < a ∨ (a ≤ loN l id ∧ b < hiN l id) by omega) with c1 | ⟨c1, c4⟩
  all_goals
    clear c0
    go_enter Tryz.func80, Tryz.ntmps80
    go_wp2_with (first | (go_at_call 41; refine (ends_any _ _ _ (by omega) (by omega) (by omega) (by omega)).mono ?_; rintro e w1 ⟨rfl, rfl⟩) | (go_at_call 81; refine (kids_any _ _ _ (by omega) (by omega) (by omega) (by omega)).mono ?_; rintro e w1 ⟨rfl, rfl⟩))
    refine (IH.out _ _ HK.out.1.2 HK.out.1.1 R v _ L.out (by have := HI.out.2; omega)).mono ?_
    rintro e w1 ⟨v1, rfl, L1, M1, A1⟩
    have L1' := Lib.hid L1
    have Z := M1.size
    have B1 := into_len l a b h (2 * id) R
    obtain ⟨q1, q2, q3, q4, q5, q6, q7, q8, q9⟩ := L1
    unfold layF at q7
    clear g1 g3' g4 g5 g6 g7 g8 q1 q3 q8 q9
    go_wp2_with fail
    refine (IH.out _ _ HK.out.2.1.2 HK.out.2.1.1 _ v1 _ L1'.out (by have := HI.out.2; omega)).mono ?_
    rintro e w2 ⟨v2, rfl, L2, M2, A2⟩
    clear q4 q5 q6 q7
    go_wp2_with fail
    go_end0
    refine ⟨_, rfl, ?_, M1.trans M2 A1, A1.trans A2 Z⟩
    rw [HI.out.1]
    exact L2
theorem into_any (B N : Nat) (l a b : Int) : ∀ (h k : Nat) (id : Int), Form l id k h → Node l id → ∀ (R : List Int) (v : Value) (w : World), LayAt B N l a b w v R → R.length + cnt l a b h id ≤ 1000000 →
    Calls Tryz.prog 80 #[.int .i64 id, .pointer (some ⟨N + 1, 0, none⟩), .pointer (some ⟨N + 2, 0, none⟩), .pointer (some ⟨N + 3, 0, none⟩), .pointer (some ⟨N, 0, none⟩), .pointer (some ⟨N + 4, 0, none⟩)] w (IntoPost B N l a b w v (intoR l a b h id R)) := by
  intro h
  induction h with
  | zero =>
    intro k id f hn R v w hlay hlen
    by_cases c : a ≤ loN l id ∧ hiN l id ≤ b
    · exact into_full B N l a b 0 id hn R v w hlay (by omega) c.1 c.2
    · exact into_out B N l a b 0 id hn R v w hlay c (by have e1 := f.2.2.2.2.1; have e2 := f.2.2.2.2.2.1; simp at e1 e2; omega)
  | succ h ih =>
    intro k id f hn R v w hlay hlen
    by_cases c : a ≤ loN l id ∧ hiN l id ≤ b
    · exact into_full B N l a b (h + 1) id hn R v w hlay (by omega) c.1 c.2
    · by_cases d : loN l id ≤ b ∧ a ≤ hiN l id
      · exact into_kids B N l a b h k (Lib.hid ih) id f hn R v w hlay hlen c d
      · exact into_out B N l a b (h + 1) id hn R v w hlay c d
def LayPost (B : Nat) (l a b : Int) (w : World) (v : Value) (R : List Int) (e : Ending) (w' : World) : Prop :=
  ∃ v' R', e = .returned v' ∧ OwnI 3 w' B v' R'.reverse ∧ Laid l a b R R' ∧ w.grownBy w' v.ownBlock ∧ At w v v'
set_option maxHeartbeats 1600000 in
theorem lay_none (B : Nat) (l a b : Int) (v : Value) (R : List Int) (w : World) (hown : OwnI 3 w B v R.reverse) (hs : Stack l R) (hab : b < a) :
    Calls Tryz.prog 42 #[v, .int .i64 l, .int .i64 a, .int .i64 b] w (LayPost B l a b w v R) := by
  have H := Lib.hid hown
  obtain ⟨A', m', c', rfl⟩ := own_slice hown
  clear hown
  go_enter Tryz.func42, Tryz.ntmps42
  go_wp2_with fail
  go_ret
  refine ⟨_, R, rfl, ?_, laid_none hs hab, ?_, At.refl ..⟩
  · exact (((H.out.alloc _).alloc _).alloc _).alloc _
  · exact (((World.grownBy_alloc _ _ _).trans (World.grownBy_alloc _ _ _)).trans (World.grownBy_alloc _ _ _)).trans (World.grownBy_alloc _ _ _)
theorem layAt_made (B : Nat) (l a b : Int) (w : World) (v : Value) (R : List Int) (hown : OwnI 3 w B v R.reverse) (hB : B ≤ w.heap.size) :
    LayAt B w.heap.size l a b (((((w.alloc (.cells #[v] 46)).alloc (.cells #[.int .i64 l] 3)).alloc (.cells #[.int .i64 a] 3)).alloc (.cells #[.int .i64 b] 3)).alloc (.cells #[layF w.heap.size] 132)) v R := by
  refine ⟨by simp, hB, ?_, ?_, ?_, ?_, ?_, ?_, fun g e => .inl (World.ownsRow.lt hown g e).2⟩
  · rw [old_blk (by simp <;> omega), old_blk (by simp <;> omega), old_blk (by simp <;> omega), old_blk (by simp)]
    exact heap_alloc_new w _
  · rw [old_cell (by simp <;> omega), old_cell (by simp <;> omega), old_cell (by simp), new_cell _ _ _ _ (by simp)]
  · rw [old_cell (by simp <;> omega), old_cell (by simp), new_cell _ _ _ _ (by simp)]
  · rw [old_cell (by simp), new_cell _ _ _ _ (by simp)]
  · rw [new_cell _ _ _ _ (by simp)]
  · unfold OwnI at hown
    rw [List.length_reverse] at hown
    exact ((((hown.alloc _).alloc _).alloc _).alloc _).alloc _
theorem moved_made {w w' : World} {v : Value} {o1 o2 o3 o4 o5 : Obj} (h : Moved w.heap.size (((((w.alloc o1).alloc o2).alloc o3).alloc o4).alloc o5) w' v) : w.grownBy w' v.ownBlock := by
  refine ⟨h.os, h.tape, h.output, by have := h.size; simp at this; omega, fun k hk hne => ?_⟩
  rw [h.block k (by simp <;> omega) (by omega) hne]
  rw [old_blk (by simp <;> omega), old_blk (by simp <;> omega), old_blk (by simp <;> omega), old_blk (by simp <;> omega), old_blk hk]
set_option maxHeartbeats 1600000 in
theorem lay_some (B : Nat) (l a b : Int) (v : Value) (R : List Int) (w : World) (hown : OwnI 3 w B v R.reverse) (hs : Stack l R) (hab : a ≤ b) (ha : ValC l a) (hb : ValC l b) (hR : ∀ t ∈ R, hiN l t < a) (hl : R.length ≤ 900000) (hB : B ≤ w.heap.size) :
    Calls Tryz.prog 42 #[v, .int .i64 l, .int .i64 a, .int .i64 b] w (LayPost B l a b w v R) := by
  have H := Lib.hid hown
  have HR := Lib.hid hR
  obtain ⟨k, h, f, hn, hmb, t1, t2, t3, t4⟩ := lay_top ha hb
  have F := Lib.hid f
  have h2 := (leaf_yes ha).2
  have h3 := (leaf_yes hb).2
  have hl1 := ha.1
  have hl2 := ha.2.1
  have b1 : (2 : Int) ^ l.toNat ≤ 281474976710656 := two_le l.toNat 48 (by omega)
  have hbd1 : 0 ≤ leafN l a ∧ leafN l a ≤ 562949953421312 := by rw [(leaf_yes ha).1]; have := ha.2.2; have := two_pos l.toNat; omega
  have hbd2 : 0 ≤ leafN l b ∧ leafN l b ≤ 562949953421312 := by rw [(leaf_yes hb).1]; have := hb.2.2; have := two_pos l.toNat; omega
  have ha2 := ha.2.2
  have hb2 := hb.2.2
  obtain ⟨A', m', c', rfl⟩ := own_slice hown
  clear hown hR f ha hb
  go_enter Tryz.func42, Tryz.ntmps42
  go_wp2_with (first | (go_at_call 82; refine (leaf_any _ _ _ (by omega) (by omega) (by omega) (by omega)).mono ?_; rintro e w1 ⟨rfl, rfl⟩) | (go_at_call 83; refine (meet_any _ _ _ (by omega) (by omega) (by omega) (by omega)).mono ?_; rintro e w1 ⟨rfl, rfl⟩))
  refine (into_any B w.heap.size l a b h k _ F.out hn R _ _ (layAt_made B l a b w _ R H.out hB) (by have := laid_cnt (a := a) (b := b) F.out; omega)).mono ?_
  rintro e w1 ⟨v1, rfl, L1, M1, A1⟩
  have A1' := Lib.hid A1
  have M1' := Lib.hid M1
  have HL := Lib.hid (laid_into F.out hn hs HR.out hab t1 t4)
  obtain ⟨q1, q2, q3, q4, q5, q6, q7, q8, q9⟩ := L1
  have q3' := cell_of_one q3
  have Q8 := Lib.hid q8
  obtain ⟨A2, m2, c2, rfl⟩ := own_slice q8
  clear q1 q3 q4 q5 q6 q7 q8 q9 A1 M1
  go_wp2_with fail
  go_ret
  refine ⟨_, _, rfl, ?_, HL.out, moved_made M1'.out, ?_⟩
  · unfold OwnI
    rw [List.length_reverse]
    exact Q8.out
  · rcases A1'.out with e | ⟨k, e, hk⟩
    · exact .inl e
    · exact .inr ⟨k, e, by simp at hk; omega⟩
end Go.Proofs.YtmfdpaahklndnaaGreat
namespace Go.Proofs.YtmfdpaahklndnaaGreat
set_option linter.unusedVariables false
open Go.RowKit
def CutPost (w : World) (T : List Int) (e : Ending) (w' : World) : Prop := ∃ A c, e = .returned (.slice A T.length c) ∧ IntsAt w (.slice A T.length c) T ∧ w' = w
theorem cut_any (B : Nat) (v : Value) (T : List Int) (w : World) (h : OwnI 3 w B v T) : Calls Tryz.prog 43 #[v] w (CutPost w T) := by
  rcases ownI_form h with ⟨rfl, rfl⟩ | ⟨g, cap, rfl, hb, hg, hn, hc⟩
  · clear h
    go_enter Tryz.func43, Tryz.ntmps43
    go_wp2_with fail
    go_ret
    exact ⟨none, 0, rfl, ints_nil w, rfl⟩
  · have H := Lib.hid h
    have hc' : cap ≤ 9223372036854775807 := by unfold maxLen at hc; omega
    clear h hc
    generalize hT : T.length = n at *
    have HT := Lib.hid hT
    clear hT
    go_enter Tryz.func43, Tryz.ntmps43
    go_wp2_with fail
    go_ret
    refine ⟨some ⟨g, 0, none⟩, n, by rw [HT.out]; rfl, ?_, rfl⟩
    exact ⟨_, n, rfl, fun h0 => ⟨g, 0, rfl, hg, fun k hk => by rw [Nat.zero_add]; have q := H.out; rw [← HT.out] at q; exact ownI_cell q k hk⟩⟩
theorem tUniverse_any (l : Int) (w : World) (L0 : -9223372036854775808 ≤ l) (L1 : l ≤ 9223372036854775807) :
    Calls Tryz.prog 111 #[.int .i64 l] w fun e w' => e = .returned (.bool (uniB l)) ∧ w = w' := by
  have h := tiRight_one l
  go_enter Tryz.func111, Tryz.ntmps111
  go_wp2_with (go_at_call 78; refine (right_any _ _ _ (by omega) (by omega) (by omega) (by omega)).mono ?_; rintro e w1 ⟨rfl, rfl⟩)
  go_ret
  exact ⟨ret_b (by first | rfl | exact h), rfl⟩
/-- a list of tiles is handed out: these hold what P says -/
def Told (l : Int) (P : Int → Prop) (m : Nat) (w : World) (e : Ending) (w' : World) : Prop :=
  ∃ A c T, e = .returned (.tuple #[.slice A (List.length T) c, .bool true]) ∧ IntsAt w' (.slice A T.length c) T ∧ TiGood l T ∧ (∀ x, Held l T x ↔ P x) ∧ T.length ≤ m ∧ Below w.heap.size w w'
def NoneTold (w : World) (e : Ending) (w' : World) : Prop := e = .returned (.tuple #[.slice none 0 0, .bool false]) ∧ Below w.heap.size w w'
def OfC (l a b : Int) : Prop := ValC l a ∧ ValC l b ∧ a ≤ b
end Go.Proofs.YtmfdpaahklndnaaGreat
namespace Go.Proofs.YtmfdpaahklndnaaGreat
set_option linter.unusedVariables false
open Go.RowKit
def Bds (T : List Int) : Prop := ∀ t ∈ T, -9223372036854775808 ≤ t ∧ t ≤ 9223372036854775807
theorem bds_at {T : List Int} (h : Bds T) {k : Nat} (hk : k < T.length) : -9223372036854775808 ≤ T.getD k 0 ∧ T.getD k 0 ≤ 9223372036854775807 := h _ (getD_mem hk)
theorem bds_nodes {l : Int} {T : List Int} (h : Nodes l T) : Bds T := fun t ht => by have := node_bd (h t ht); have := (h t ht).2; omega
end Go.Proofs.YtmfdpaahklndnaaGreat
namespace Go.Proofs.YtmfdpaahklndnaaGreat
set_option linter.unusedVariables false
set_option maxRecDepth 100000
open Go.RowKit Go.Sort
def orN (x y : Int) : Int := if x = 0 then y else x
set_option maxHeartbeats 800000 in
theorem or_two (x y : Int) (g : Nat) (w : World) (h0 : w.cell? ⟨g, 0, none⟩ = some (.int .i64 x)) (h1 : w.cell? ⟨g, 1, none⟩ = some (.int .i64 y)) :
    Calls Tryz.prog 114 #[.slice (some ⟨g, 0, none⟩) 2 2] w fun e w' => e = .returned (.int .i64 (orN x y)) ∧ w = w' := by
  by_cases hx : x = 0
  · subst hx
    by_cases hy : y = 0
    · subst hy
      go_enter Tryz.func114, Tryz.ntmps114
      go_wp2_with fail
      go_loop [8] (fun i => ∃ k : Nat, k ≤ 2 ∧ i = .int .i64 k) (fun i => 2 - (intOf i).toNat)
      case atStart => exact ⟨0, by omega, rfl⟩
      case round =>
        obtain ⟨k, hk, rfl⟩ := hrel
        rcases (show k = 0 ∨ k = 1 ∨ k = 2 by omega) with rfl | rfl | rfl
        · go_wp2_with fail
          go_round
          case rel => exact ⟨1, by omega, rfl⟩
          case measure => simp [intOf]
        · go_wp2_with fail
          go_round
          case rel => exact ⟨2, by omega, rfl⟩
          case measure => simp [intOf]
        · go_wp2_with fail
          go_ret
          exact ⟨rfl, rfl⟩
    · have h1' : (y != 0) = true := by simpa using hy
      have H := Lib.hid (show orN 0 y = y from rfl)
      go_enter Tryz.func114, Tryz.ntmps114
      go_wp2_with fail
      go_loop [8] (fun i => ∃ k : Nat, k ≤ 1 ∧ i = .int .i64 k) (fun i => 2 - (intOf i).toNat)
      case atStart => exact ⟨0, by omega, rfl⟩
      case round =>
        obtain ⟨k, hk, rfl⟩ := hrel
        rcases (show k = 0 ∨ k = 1 by omega) with rfl | rfl
        · go_wp2_with fail
          go_round
          case rel => exact ⟨1, by omega, rfl⟩
          case measure => simp [intOf]
        · go_wp2_with fail
          go_ret
          exact ⟨by rw [H.out]; rfl, rfl⟩
  · have h1' : (x != 0) = true := by simpa using hx
    have H := Lib.hid (show orN x y = x from if_neg hx)
    go_enter Tryz.func114, Tryz.ntmps114
    go_wp2_with fail
    go_loop [8] (fun i => i = .int .i64 0) (fun i => 2 - (intOf i).toNat)
    case atStart => rfl
    case round =>
      subst hrel
      go_wp2_with fail
      go_ret
      exact ⟨by rw [H.out]; rfl, rfl⟩
theorem or_drew (x y : Int) (t : TypeId) (g : Nat) (w : World) (hg : g = w.heap.size) :
    Calls Tryz.prog 114 #[.slice (some ⟨g, 0, none⟩) 2 2] (w.alloc (.cells #[.int .i64 x, .int .i64 y] t)).drew fun e w' => e = .returned (.int .i64 (orN x y)) ∧ (w.alloc (.cells #[.int .i64 x, .int .i64 y] t)).drew = w' :=
  or_two x y g _ (by subst hg; simp) (by subst hg; simp)
theorem cmp_any (x y : Int) (w : World) : Calls Tryz.prog 115 #[.int .i64 x, .int .i64 y] w fun e w' => e = .returned (.int .i64 (Lib.compareInt x y)) ∧ w = w' := by
  have h := AnyG.cmp_Compare_int Tryz.cmpInt x y w
  change Calls Tryz.prog 115 _ _ _ at h
  exact h.mono fun _ _ ⟨a, b⟩ => ⟨a, b.symm⟩
theorem cmp_still (x y : Int) (w : World) : Calls Tryz.prog 115 #[.int .i64 x, .int .i64 y] w fun e w' => e = .returned (.int .i64 (Lib.compareInt x y)) ∧ w' = w :=
  (cmp_any x y w).mono fun _ _ ⟨a, b⟩ => ⟨a, b.symm⟩
theorem grown_cells (W : World) (a b c d e f : Value) (t : TypeId) : ((W.alloc (.cells #[a, b, c] t)).alloc (.cells #[d, e, f] t)).cell? ⟨W.heap.size, 0, none⟩ = some a ∧ ((W.alloc (.cells #[a, b, c] t)).alloc (.cells #[d, e, f] t)).cell? ⟨W.heap.size, 1, none⟩ = some b ∧
    ((W.alloc (.cells #[a, b, c] t)).alloc (.cells #[d, e, f] t)).cell? ⟨W.heap.size + 1, 0, none⟩ = some d ∧ ((W.alloc (.cells #[a, b, c] t)).alloc (.cells #[d, e, f] t)).cell? ⟨W.heap.size + 1, 1, none⟩ = some e := by
  refine ⟨?_, ?_, ?_, ?_⟩ <;> simp [World.cell?_alloc_lt]
theorem grown_three (W : World) (x y z : Obj) : ∃ q os', (((W.alloc x).alloc y).drew.alloc z) = grow (W.drewN q) os' :=
  ⟨1, #[x, y, z], by rw [alloc_eq_grow, alloc_eq_grow, alloc_eq_grow, grow_grow]; exact grow_grow (W.drewN 1) _ _⟩
/-- what the row is sorted by -/
def tileC (l : Int) (s t : Int) : Int := orN (Lib.compareInt (loN l s) (loN l t)) (Lib.compareInt s t)
set_option maxHeartbeats 400000 in
theorem tileCmp_any (s sl sh t tl th : Int) (W : World) :
    Calls Tryz.prog 113 #[.agg #[.int .i64 s, .int .i64 sl, .int .i64 sh], .agg #[.int .i64 t, .int .i64 tl, .int .i64 th]] W fun e w' => e = .returned (.int .i64 (orN (Lib.compareInt sl tl) (Lib.compareInt s t))) ∧ ∃ q os', w' = grow (W.drewN q) os' := by
  go_enter Tryz.func113, Tryz.ntmps113
  go_wp2_with fail
  have c0 := grown_cells W (.int .i64 s) (.int .i64 sl) (.int .i64 sh) (.int .i64 t) (.int .i64 tl) (.int .i64 th) 128
  have g3 := grown_three W (.cells #[.int .i64 s, .int .i64 sl, .int .i64 sh] 128) (.cells #[.int .i64 t, .int .i64 tl, .int .i64 th] 128) (.cells #[.int .i64 (Lib.compareInt sl tl), .int .i64 (Lib.compareInt s t)] 3)
  have G3 := Lib.hid g3
  have hz : W.heap.size + 1 + 1 = ((W.alloc (.cells #[.int .i64 s, .int .i64 sl, .int .i64 sh] 128)).alloc (.cells #[.int .i64 t, .int .i64 tl, .int .i64 th] 128)).heap.size := by simp
  clear g3
  revert c0 G3 hz
  generalize ((W.alloc (.cells #[.int .i64 s, .int .i64 sl, .int .i64 sh] 128)).alloc (.cells #[.int .i64 t, .int .i64 tl, .int .i64 th] 128)) = W0
  intro ⟨c1, c2, c3, c4⟩ G3 hz
  have HZ := Lib.hid hz
  clear hz
  have hd : ∀ a, ({ heap := W0.heap, tape := W0.tape, drawn := W0.drawn + 1, os := W0.os, output := W0.output } : World).cell? a = W0.cell? a := fun _ => rfl
  go_still_tail 10, (by kernel_rfl)
  still_call (cmp_still _ _ _)
  repeat still_step
  still_call (cmp_still _ _ _)
  refine wpStill_nil ?_
  change wpList _ _ _ _ _ (World.drew W0)
  clear hd c1 c2 c3 c4
  go_wp2_with fail
  refine (or_drew _ _ _ _ W0 (by simp)).mono ?_
  rintro e w1 ⟨rfl, rfl⟩
  go_wp2_with fail
  go_ret
  exact ⟨rfl, G3.out⟩
end Go.Proofs.YtmfdpaahklndnaaGreat
namespace Go.Proofs.YtmfdpaahklndnaaGreat
set_option linter.unusedVariables false
set_option maxRecDepth 100000
open Go.RowKit Go.Sort Go.Lib Go.Shelf
/-- a node, with its ends, as it lies in a row -/
def encT (l t : Int) : List Value := [.int .i64 t, .int .i64 (loN l t), .int .i64 (hiN l t)]
def flat3 (l : Int) : List Int → List Value
  | [] => []
  | t :: T => encT l t ++ flat3 l T
theorem flat3_snoc (l : Int) (T : List Int) (t : Int) : flat3 l (T ++ [t]) = flat3 l T ++ encT l t := by
  induction T with
  | nil => simp [flat3]
  | cons a T ih => simp [flat3, ih]
theorem flat3_get (l : Int) : ∀ (T : List Int) (j c : Nat), j < T.length → c < 3 → (flat3 l T)[j * 3 + c]? = (encT l (T.getD j 0))[c]? := by
  intro T
  induction T with
  | nil => intro j c h; simp at h
  | cons t T ih =>
    intro j c h hc
    cases j with
    | zero =>
      rw [flat3, List.getElem?_append_left (by simp [encT]; omega)]
      simp
    | succ j =>
      rw [flat3, List.getElem?_append_right (by simp [encT]; omega)]
      have e : (j + 1) * 3 + c - (encT l t).length = j * 3 + c := by simp [encT]; omega
      rw [e, ih j c (by simp at h; omega) hc]
      simp
/-- behind the address A lie the nodes S, with their ends -/
def Trips (l : Int) (w : World) (A : Option Addr) (S : List Int) : Prop :=
  0 < S.length → ∃ b o, A = some ⟨b, o, none⟩ ∧ b < w.heap.size ∧ ∀ k, k < S.length → w.cell? ⟨b, o + k * 3, none⟩ = some (.int .i64 (S.getD k 0)) ∧ w.cell? ⟨b, o + k * 3 + 1, none⟩ = some (.int .i64 (loN l (S.getD k 0))) ∧ w.cell? ⟨b, o + k * 3 + 2, none⟩ = some (.int .i64 (hiN l (S.getD k 0)))
theorem own_holds {l : Int} {e : TypeId} {w : World} {B g cap : Nat} {T : List Int} (h : w.ownsRow B e 3 (.slice (some ⟨g, 0, none⟩) T.length cap) T.length (flat3 l T)) : HoldsK (encT l) 3 w g 0 T.toArray := by
  intro t ht
  rw [size_flatK] at ht
  simp at ht
  have e1 : t = t / 3 * 3 + t % 3 := by omega
  have hj : t / 3 < T.length := by omega
  refine ⟨?_, ?_⟩
  · rw [Nat.zero_add, World.ownsRow.cellAt h t ht, get_flatK _ _ _ _ (by simpa using ht)]
    have := flat3_get l T (t / 3) (t % 3) hj (by omega)
    rw [← e1] at this
    rw [this]
    have hm : t % 3 < 3 := by omega
    have e2 : T.toArray[t / 3]! = T.getD (t / 3) 0 := by
      rw [getElem!_pos _ _ (by simpa using hj)]; simp [List.getD_eq_getElem?_getD, List.getElem?_eq_getElem hj]
    rw [e2]
    have : t % 3 = 0 ∨ t % 3 = 1 ∨ t % 3 = 2 := by omega
    rcases this with q | q | q <;> rw [q] <;> rfl
  · exact World.ownsRow.frozenAt h _
theorem holds_trips {l : Int} {w : World} {g : Nat} {d : Array Int} (h : HoldsK (encT l) 3 w g 0 d) (hg : g < w.heap.size) : Trips l w (some ⟨g, 0, none⟩) d.toList := fun h0 => by
  refine ⟨g, 0, rfl, hg, fun k hk => ?_⟩
  have hk' : k < d.size := by simpa using hk
  have e : d[k]! = d.toList.getD k 0 := by rw [getElem!_pos d k hk']; simp [List.getD_eq_getElem?_getD, hk']
  have c0 := (HoldsK.cell h hk' (c := 0) (by omega)).1
  have c1 := (HoldsK.cell h hk' (c := 1) (by omega)).1
  have c2 := (HoldsK.cell h hk' (c := 2) (by omega)).1
  rw [e] at c0 c1 c2
  exact ⟨c0, c1, c2⟩
theorem below_sort {α : Type} [Inhabited α] {enc : α → List Value} {k : Nat} {w : World} {blk off n B : Nat} {d : Array α} {os : Array Obj} (h : B ≤ blk) (hB : B ≤ w.heap.size) : Go.RowKit.Below B w (sortWorldK enc k w blk off n d os) := by
  refine ⟨rfl, rfl, rfl, ?_, fun i hi => ?_⟩
  · simp [sortWorldK, grow, putRowK, putRow, mapBlock]
  · show ((w.heap.modify blk _) ++ os)[i]? = _
    rw [Array.getElem?_append_left (by simp; omega), Array.getElem?_modify, if_neg (by omega)]
theorem tileC_lt (l s t : Int) : ltOf (tileC l) s t = decide (loN l s < loN l t ∨ (loN l s = loN l t ∧ s < t)) := by
  unfold ltOf tileC orN Lib.compareInt
  by_cases h1 : loN l s < loN l t
  · simp [h1]
  · by_cases h2 : loN l t < loN l s
    · have : ¬ loN l s = loN l t := by omega
      simp [h1, h2, this]
    · have e : loN l s = loN l t := by omega
      by_cases h3 : s < t
      · simp [e, h3]
      · by_cases h4 : t < s <;> simp [e, h3, h4]
theorem tile_swo (l : Int) : SWO (ltOf (tileC l)) where
  irrefl x := by rw [tileC_lt]; simp
  trans x y z h1 h2 := by rw [tileC_lt] at *; simp at *; omega
  ntrans x y z h1 h2 := by rw [tileC_lt] at *; simp at *; omega
theorem tile_before {l s t : Int} (h : ltOf (tileC l) t s = false) : Before l s t := by
  rw [tileC_lt] at h; simp at h; unfold Before; omega
/-- the row: the nodes, sorted -/
def RowTold (l : Int) (ids : List Int) (w : World) (e : Ending) (w' : World) : Prop :=
  ∃ A c S, e = .returned (.tuple #[.slice A (List.length S) c, .bool true]) ∧ Trips l w' A S ∧ S.Perm ids ∧ S.Pairwise (Before l) ∧ Go.RowKit.Below w.heap.size w w'
theorem tile_info : (Tryz.prog.info? 128).map (fun i => (i.zero, i.size, i.bytes)) = some (some (.agg #[.int .i64 0, .int .i64 0, .int .i64 0]), 3, 24) := by kernel_rfl
theorem sort_tiles (l : Int) (g cap : Nat) (d : Array Int) (w : World) (hH : HoldsK (encT l) 3 w g 0 d) (hg : g < w.heap.size) (hsz : d.size < 4611686018427387904) :
    Calls Tryz.prog 112 #[.slice (some ⟨g, 0, none⟩) d.size cap, .func (.func 113) #[] #[]] w fun e w' =>
      e = .returned (.tuple #[]) ∧ ∃ d' n os, PermIn 0 d.size d d' ∧ SortedIn (ltOf (tileC l)) 0 d.size d' ∧ w' = sortWorldK (encT l) 3 w g 0 n d' os := by
  have eg : ∀ args w, (callFunc 113 args).run Tryz.prog w = .ok (.enter 113 args) w := enters_of Tryz.func113 (by kernel_rfl) rfl
  exact AnyQ.slices_SortFunc Tryz.sortTile 3 Tryz.isAgg128 Tryz.sizeOf128 (encT l) (fun _ => rfl) (fun x v hv => by simp [encT] at hv; rcases hv with rfl | rfl | rfl <;> rfl) (tileC l) (tile_swo l) 113 #[] g 0 cap d w eg
    (fun _ _ _ _ x y => tileCmp_any x (loN l x) (hiN l x) y (loN l y) (hiN l y) _) hH hg hsz
theorem sorted_list {l : Int} {d d' : Array Int} (hp : PermIn 0 d.size d d') (hs : SortedIn (ltOf (tileC l)) 0 d.size d') : d'.toList.Perm d.toList ∧ d'.toList.Pairwise (Before l) := by
  have e1 : d'.extract 0 d.size = d' := by rw [← hp.1]; simp
  have e2 : d.extract 0 d.size = d := by simp
  have := hp.2.2
  rw [e1, e2] at this
  refine ⟨this, ?_⟩
  rw [List.pairwise_iff_getElem]
  intro i j hi hj hij
  have h := tile_before (hs i j (Nat.zero_le _) hij (by rw [← hp.1]; simpa using hj))
  rw [getElem!_pos d' i (by simpa using hi), getElem!_pos d' j (by simpa using hj)] at h
  simpa using h
end Go.Proofs.YtmfdpaahklndnaaGreat
namespace Go.Proofs.YtmfdpaahklndnaaGreat
set_option linter.unusedVariables false
set_option maxRecDepth 100000
open Go.RowKit Go.Sort Go.Lib Go.Shelf
theorem three_new (w : World) (x y z : Value) (t : TypeId) (g : Nat) (hg : g = w.heap.size) : ∀ j u, [x, y, z][j]? = some u → (w.alloc (.cells #[x, y, z] t)).cell? ((⟨g, 0, none⟩ : Addr).add j) = some u := fun j u hj => by
  subst hg
  match j, hj with
  | 0, hj => simp at hj; subst hj; simp [Addr.add]
  | 1, hj => simp at hj; subst hj; simp [Addr.add]
  | 2, hj => simp at hj; subst hj; simp [Addr.add]
theorem three_cell (x y z : Int) : ∀ u ∈ [Value.int .i64 x, Value.int .i64 y, Value.int .i64 z], u.oneCell' = true := fun u hu => by
  simp at hu; rcases hu with rfl | rfl | rfl <;> rfl
def NotAll (l : Int) (ids : List Int) : Prop := uniB l = false ∨ ∃ t ∈ ids, endB l t = false
def IsAll (l : Int) (ids : List Int) : Prop := uniB l = true ∧ ∀ t ∈ ids, endB l t = true
theorem all_nodes {l : Int} {ids : List Int} (h : IsAll l ids) (hb : Bds ids) : Nodes l ids := fun t ht => node_of_end (h.2 t ht) (hb t ht).2
theorem all_or (l : Int) (ids : List Int) : IsAll l ids ∨ NotAll l ids := by
  by_cases h : uniB l = true
  · by_cases g : ∀ t ∈ ids, endB l t = true
    · exact .inl ⟨h, g⟩
    · right; right
      false_or_by_contra
      rename_i q
      refine g fun t ht => ?_
      cases e : endB l t
      · exact absurd ⟨t, ht, e⟩ q
      · rfl
  · exact .inr (.inl (by simpa using h))
def InRowPost (l : Int) (ids : List Int) (w : World) (e : Ending) (w' : World) : Prop := (IsAll l ids ∧ RowTold l ids w e w') ∨ (NotAll l ids ∧ NoneTold w e w')
set_option maxHeartbeats 1600000 in
theorem inRow_any (l : Int) (A : Option Addr) (n c : Nat) (ids : List Int) (w : World) (hA : IntsAt w (.slice A n c) ids) (hB : Bds ids) (hn : n ≤ 1000000) (L0 : -9223372036854775808 ≤ l) (L1 : l ≤ 9223372036854775807) :
    Calls Tryz.prog 70 #[.int .i64 l, .slice A n c] w (InRowPost l ids w) := by
  obtain ⟨hlen, hcells⟩ := ints_cells hA
  have HC := Lib.hid hcells
  have HL := Lib.hid hlen
  have HB := Lib.hid hB
  clear hcells hlen hA hB
  by_cases hu : uniB l = true
  · have HU := Lib.hid hu
    obtain ⟨i0, hi, hz0, hz1, hz2⟩ := info_parts tile_info
    have hm := fun w => make_room (P := Tryz.prog) Tryz.underlying124 hi hz0 hz1 hz2 n (by omega) (by omega) w
    go_enter Tryz.func70, Tryz.ntmps70
    go_wp2_with (go_at_call 111; refine (tUniverse_any _ _ (by omega) (by omega)).mono ?_; rintro e w1 ⟨rfl, rfl⟩)
    clear hm
    go_loopw [6, 20] (fun v i wr => ∃ k : Nat, k ≤ n ∧ i = .int .i64 k ∧ wr.ownsRow w.heap.size 128 3 v k (flat3 l (ids.take k)) ∧ (∀ t ∈ ids.take k, endB l t = true) ∧ Go.RowKit.Below w.heap.size w wr ∧ v ≠ .slice none 0 0) (fun _ i _ => n - (intOf i).toNat)
    case atStart => exact ⟨0, by omega, rfl, room_own (Nat.le_refl _) (by unfold maxLen; omega), fun t ht => by simp at ht, (Go.RowKit.Below.refl _ _).alloc (Nat.le_refl _) _, by simp⟩
    case round =>
      rename_i wr
      obtain ⟨k, hk, rfl, hown, hall, hb, hne⟩ := hrel
      have NE := Lib.hid hne
      clear hne
      have HA := Lib.hid hall
      clear hall
      by_cases hlt : k < n
      · have hk2 : k < ids.length := by have := HL.out; omega
        obtain ⟨b, o, rfl, hbl, hcell⟩ := HC.out (by omega)
        have hck : wr.cell? ⟨b, o + k, none⟩ = some (.int .i64 (ids.getD k 0)) := (hb.cell (p := ⟨b, o + k, none⟩) hbl).trans (hcell k hk2)
        have hbd := bds_at HB.out hk2
        have htk := Lib.hid (take_at hk2)
        have hmem := Lib.hid (getD_mem hk2)
        have hsz := hb.size
        clear hcell
        generalize ids.getD k 0 = t at *
        have he := end_bd l t hbd.2
        by_cases hen : endB l t = true
        · go_wp2_with (first | (go_at_call 41; refine (ends_any _ _ _ (by omega) (by omega) (by omega) (by omega)).mono ?_; rintro e w1 ⟨rfl, rfl⟩) | (at_builtin; refine wpList_append_own _ rfl _ _ 124 rfl w.heap.size 128 i0 (.agg #[.int .i64 0, .int .i64 0, .int .i64 0]) 3 24 Tryz.underlying124 hi hz0 hz1 hz2 rfl (by decide) _ _ _ rfl (hown.alloc _) ⟨wr.heap.size, 0, none⟩ 1 1 [.int .i64 t, .int .i64 (loN l t), .int .i64 (hiN l t)] rfl rfl (three_new _ _ _ _ _ _ rfl) (three_cell _ _ _) (by unfold maxLen; omega) (by omega) (by simp; omega) ?_))
          intro v' w2 hown2 hgrow hnil
          have NE2 := Lib.hid (show v' ≠ .slice none 0 0 from hnil)
          clear hnil
          have hb2 : Go.RowKit.Below w.heap.size w w2 := (hb.alloc hsz _).grown hgrow (by simp; omega) (fun g hg => (hown.lt g hg).1)
          have HO2 := Lib.hid hown2
          clear hown hgrow hown2
          go_wp2_with fail
          go_roundw
          case rel => exact ⟨k + 1, by omega, by go_num, by rw [htk.out, flat3_snoc]; exact HO2.out, fun u hu => by
            rw [htk.out] at hu
            rcases List.mem_append.1 hu with hu | hu
            · exact HA.out u hu
            · simp at hu; subst hu; exact hen, hb2, NE2.out⟩
          case measure => simp [intOf]; omega
        · have hen' : endB l t = false := by simpa using hen
          clear hen
          go_wp2_with (go_at_call 41; refine (ends_any _ _ _ (by omega) (by omega) (by omega) (by omega)).mono ?_; rintro e w1 ⟨rfl, rfl⟩)
          go_ret2
          exact .inr ⟨.inr ⟨t, hmem.out, hen'⟩, rfl, hb⟩
      · have hd : Hid (ids.take k = ids) := List.take_of_length_le (by have := HL.out; omega)
        have hkn : Hid (k = ids.length) := by have := HL.out; show k = _; omega
        rcases hown.2 with ⟨e0, _⟩ | ⟨g, cap, cur, rfl, hbg, hgh, _⟩
        · exact absurd e0 NE.out
        have hgl := lt_of_block hgh
        have HH := Lib.hid (show HoldsK (encT l) 3 wr g 0 ids.toArray from own_holds (T := ids) (by
          have q := hown
          rw [hd] at q
          have e : k = ids.length := hkn
          rw [e] at q
          exact q))
        have HS := Lib.hid (sort_tiles l g cap ids.toArray wr HH.out hgl (by simp; have := HL.out; omega))
        have hz : ids.toArray.size = k := by simp; have : k = ids.length := hkn; omega
        rw [hz] at HS
        have HZ := Lib.hid hz
        clear hown hz hgh NE
        go_wp2_with fail
        refine HS.out.mono ?_
        rintro e w2 ⟨rfl, d', m, os, hp, hs, hw⟩
        have HW := Lib.hid hw
        have hq : PermIn 0 ids.toArray.size ids.toArray d' ∧ SortedIn (ltOf (tileC l)) 0 ids.toArray.size d' := by rw [HZ.out]; exact ⟨hp, hs⟩
        obtain ⟨p1, p2⟩ := sorted_list hq.1 hq.2
        have P1 := Lib.hid p1
        have P2 := Lib.hid p2
        have PZ := Lib.hid hq.1.1
        clear hp hs hq p1 p2 hw HS
        go_wp2_with fail
        go_ret2
        have hlen : d'.toList.length = k := by have := PZ.out; have := HZ.out; simp at *; omega
        refine .inl ⟨⟨HU.out, by have q := HA.out; rw [hd] at q; exact q⟩, some ⟨g, 0, none⟩, cap, d'.toList, by rw [hlen]; rfl, ?_, P1.out, P2.out, ?_⟩
        · rw [HW.out]
          exact holds_trips (holdsK_sortWorldK _ _ _ _ _ _ _ _ _ hgl HH.out PZ.out) (lt_sortWorldK _ _ _ _ _ _ _ _ hgl)
        · rw [HW.out]
          exact hb.trans (below_sort hbg hb.size)
  · have hu' : uniB l = false := by simpa using hu
    clear hu
    go_enter Tryz.func70, Tryz.ntmps70
    go_wp2_with (go_at_call 111; refine (tUniverse_any _ _ (by omega) (by omega)).mono ?_; rintro e w1 ⟨rfl, rfl⟩)
    go_ret2
    exact .inr ⟨.inl hu', rfl, Go.RowKit.Below.refl ..⟩
end Go.Proofs.YtmfdpaahklndnaaGreat
namespace Go.Proofs.YtmfdpaahklndnaaGreat
set_option linter.unusedVariables false
open Go.RowKit
end Go.Proofs.YtmfdpaahklndnaaGreat
namespace Go.Proofs.YtmfdpaahklndnaaGreat
set_option linter.unusedVariables false
set_option maxRecDepth 100000
open Go.RowKit
set_option maxHeartbeats 1600000 in
theorem r5of_yes (l a b : Int) (w : World) (h : OfC l a b) : Calls Tryz.prog 148 #[.int .i64 l, .int .i64 a, .int .i64 b] w (Told l (fun x => a ≤ x ∧ x ≤ b) (2 * l.toNat) w) := by
  obtain ⟨i0, hi, hz0, hz1, hz2⟩ := info_parts int_info
  obtain ⟨ha, hb, hab⟩ := h
  have HVA := Lib.hid ha
  have HVB := Lib.hid hb
  have hl1 := ha.1
  have hl2 := ha.2.1
  have hu := uni_yes ⟨hl1, hl2⟩
  have b1 : (2 : Int) ^ l.toNat ≤ 281474976710656 := two_le l.toNat 48 (by omega)
  have a2 := ha.2.2
  have b2 := hb.2.2
  clear ha hb
  go_enter Tryz.func148, Tryz.ntmps148
  go_wp2_with (first | (go_at_call 72; refine (rIs_any _ _ (by omega) (by omega)).mono ?_; rintro e w1 ⟨rfl, rfl⟩) | (go_at_call 63; refine (rpower_any _ _ (by omega) (by omega)).mono ?_; rintro e w1 ⟨rfl, rfl⟩))
  go_loopw [8, 9] (fun v x wr => ∃ (T : List Int) (z : Int), x = .int .i64 z ∧ OwnI 3 wr w.heap.size v T ∧ OfInv l a b T z ∧ Below w.heap.size w wr) (fun _ x _ => (b + 1 - intOf x).toNat)
  case atStart => exact ⟨[], a, rfl, ownI_nil _ _ _, of_start hab, Below.refl ..⟩
  case round =>
    rename_i wr
    obtain ⟨T, z, rfl, hown, hinv, hbw⟩ := hrel
    have INV := Lib.hid hinv
    have hz1' := hinv.2.2.1
    have hz2' := hinv.2.2.2.1
    have hln := tiOf_len hinv HVA.out HVB.out
    have OW := Lib.hid hown
    have zs := hbw.size
    obtain ⟨A2, m2, c2, rfl⟩ := own_slice hown
    clear hinv hown
    by_cases hlt : z ≤ b
    · have hv : ValC l z := ⟨hl1, hl2, by omega, by omega⟩
      obtain ⟨nl, n1, n2⟩ := leaf_node hv
      have NL := Lib.hid nl
      have N1 := Lib.hid n1
      have N2 := Lib.hid n2
      have nb := right_id nl.1 nl.2
      have nb2 := (node_bd nl).2.2.2.2
      clear nl n1 n2 hv
      obtain ⟨wo, hwo⟩ : ∃ wo : World, wo = wr := ⟨_, rfl⟩
      subst hwo
      go_wp2_with (go_at_call 166; refine (rleaf_any _ _ _ (by omega) (by omega) (by omega) (by omega)).mono ?_; rintro e w1 ⟨rfl, rfl⟩)
      go_loop [10, 12] (fun y h => ∃ id : Int, y = .int .i64 id ∧ h = .int .i64 (hiN l id) ∧ Node l id ∧ loN l id = z ∧ hiN l id ≤ b) (fun y _ => (intOf y).toNat)
      case atStart => exact ⟨_, rfl, by rw [N2.out], NL.out, N1.out, by rw [N2.out]; omega⟩
      case round =>
        obtain ⟨id, rfl, rfl, hn, hlo, hhi⟩ := hrel
        have bd := node_bd hn
        have bi := right_id hn.1 hn.2
        have HN := Lib.hid hn
        have HLO := Lib.hid hlo
        have hzh : z ≤ hiN l id := by omega
        clear hlo
        by_cases hev : id % 2 = 0
        · have hq : (id % 2 == 0) = true := by simpa using hev
          have hnp := node_pair hn (by omega) hev
          have hn2 := Lib.hid hnp.2.1
          have hp1 := hnp.2.1.1
          have he := (end_yes hp1).2.2
          have hlo2 := Lib.hid hnp.2.2.1
          have bd2 := node_bd hnp.2.1
          clear hev hn hnp
          by_cases hgt : b < hiN l (id / 2)
          · have HS := Lib.hid (tiOf_step (id := id) (by rw [HLO.out]; exact INV.out) HN.out hhi (fun _ => hgt))
            go_wp2_with (first | (go_at_call 30; refine (rends_any _ _ _ (by omega) (by omega) (by omega) (by omega)).mono ?_; rintro e w1 ⟨rfl, rfl⟩) | (at_builtin; refine wpList_append_own _ rfl _ _ 46 rfl w.heap.size 3 i0 (.int .i64 0) 1 8 Tryz.underlying46 hi hz0 hz1 hz2 rfl (by decide) _ T.length (ints T) rfl (World.ownsRow.alloc OW.out _) ⟨wo.heap.size, 0, none⟩ 1 1 [.int .i64 id] rfl rfl (one_new _ _ _ _ rfl) (one_int _) (by unfold maxLen; omega) (by omega) (by simp; omega) ?_))
            intro v' w2 hown2 hgrow _
            have hb2 : Below w.heap.size w w2 := (hbw.alloc zs _).grown hgrow (by simp; omega) (fun g hg => (World.ownsRow.lt OW.out g hg).1)
            have O2 := Lib.hid (ownI_snoc rfl hown2)
            clear hown2 hgrow
            go_wp2_with fail
            go_roundw
            case rel => exact ⟨T ++ [id], _, rfl, O2.out, HS.out, hb2⟩
            case measure => simp [intOf]; omega
          · go_wp2_with (go_at_call 30; refine (rends_any _ _ _ (by omega) (by omega) (by omega) (by omega)).mono ?_; rintro e w1 ⟨rfl, rfl⟩)
            go_round
            case rel => exact ⟨id / 2, rfl, rfl, hn2.out, by rw [hlo2.out, HLO.out], by omega⟩
            case measure => simp [intOf]; omega
        · have hq : (id % 2 == 0) = false := by simpa using hev
          have HS := Lib.hid (tiOf_step (id := id) (by rw [HLO.out]; exact INV.out) HN.out hhi (fun g => absurd g hev))
          clear hev hn
          go_wp2_with (at_builtin; refine wpList_append_own _ rfl _ _ 46 rfl w.heap.size 3 i0 (.int .i64 0) 1 8 Tryz.underlying46 hi hz0 hz1 hz2 rfl (by decide) _ T.length (ints T) rfl (World.ownsRow.alloc OW.out _) ⟨wo.heap.size, 0, none⟩ 1 1 [.int .i64 id] rfl rfl (one_new _ _ _ _ rfl) (one_int _) (by unfold maxLen; omega) (by omega) (by simp; omega) ?_)
          intro v' w2 hown2 hgrow _
          have hb2 : Below w.heap.size w w2 := (hbw.alloc zs _).grown hgrow (by simp; omega) (fun g hg => (World.ownsRow.lt OW.out g hg).1)
          have O2 := Lib.hid (ownI_snoc rfl hown2)
          clear hown2 hgrow
          go_wp2_with fail
          go_roundw
          case rel => exact ⟨T ++ [id], _, rfl, O2.out, HS.out, hb2⟩
          case measure => simp [intOf]; omega
    · have HE := Lib.hid (of_end INV.out (show b < z by omega))
      have hr := run_laid HE.out.1 HE.out.2 HVA.out HVB.out hab
      have hr1 := hr.1
      have hints := ownI_ints OW.out
      have HI := Lib.hid hints
      have hm : m2 = T.length := (ints_cells hints).1
      have HM := Lib.hid hm
      clear hr hints hm
      go_wp2_with fail
      go_ret2
      exact ⟨A2, c2, T, by rw [← HM.out]; rfl, by rw [← HM.out]; exact HI.out, HE.out.1, HE.out.2, hr1, hbw⟩
end Go.Proofs.YtmfdpaahklndnaaGreat
namespace Go.Proofs.YtmfdpaahklndnaaGreat
set_option linter.unusedVariables false
set_option maxRecDepth 100000
open Go.RowKit
theorem run_info : (Tryz.prog.info? 183).map (fun i => (i.zero, i.size, i.bytes)) = some (some (.agg #[.int .i64 0, .int .i64 0]), 2, 16) := by kernel_rfl
def WithPost (m : Int) (L : List Rn) (x y : Int) (w : World) (e : Ending) (w' : World) : Prop :=
  ∃ v L', e = .returned v ∧ RunsAt w' v L' ∧ Runs m L' ∧ (∀ z, InR L' z ↔ InR L z ∨ (x ≤ z ∧ z ≤ y)) ∧ L'.length ≤ L.length + 1 ∧ Below w.heap.size w w'
set_option maxHeartbeats 3200000 in
theorem with_any (A : Option Addr) (n c : Nat) (L : List Rn) (x y m : Int) (w : World) (h : RunsAt w (.slice A n c) L) (hr : Runs m L) (hm : m ≤ 281474976710656) (hx : 0 ≤ x ∧ x ≤ y ∧ y < m) (hn : n ≤ 1000000) :
    Calls Tryz.prog 147 #[.slice A n c, .agg #[.int .i64 x, .int .i64 y]] w (WithPost m L x y w) := by
  obtain ⟨i0, hi, hz0, hz1, hz2⟩ := info_parts run_info
  have HL := Lib.hid (runs_cells h).1
  have HC := Lib.hid (runs_cells h).2
  have HR := Lib.hid hr
  have HX := Lib.hid hx
  have hPr : Hid (∀ k, ∀ p ∈ L.take k, p.1 ≤ p.2) := fun k p hp => (hr.1 p (List.mem_of_mem_take hp)).2.1
  clear h hr hx
  go_enter Tryz.func147, Tryz.ntmps147
  go_wp2_with fail
  go_loopw [5, 6, 7] (fun va vb i wr => ∃ (k : Nat) (xl xh : Int) (P Q : List Rn), k ≤ n ∧ i = .int .i64 k ∧ WithAt 183 w.heap.size w wr va vb (xl, xh) P Q ∧ WInv m (L.take k) (x, y) P (xl, xh) Q) (fun _ _ i _ => n - (intOf i).toNat)
  case atStart => exact ⟨0, x, y, [], [], by omega, rfl, WithAt.start _ w x y, w_start HX.out⟩
  case round =>
    rename_i wr
    obtain ⟨k, xl, xh, P, Q, hk, rfl, hat, hinv⟩ := hrel
    have INV := Lib.hid hinv
    have AT := Lib.hid hat
    have x0 : 0 ≤ xl := hinv.low
    have x1 : xl ≤ xh := hinv.mid
    have x2 : xh < m := hinv.top
    have hpl : P.length ≤ n := by have := hinv.len; simp at this; omega
    have hql : Q.length ≤ n := by have := hinv.len; simp at this; omega
    obtain ⟨c0, c1, f0, f1⟩ := hat.cells
    have zs := hat.below.size
    have zr := hat.room
    obtain ⟨A1, m1, d1, rfl⟩ := own_slice hat.a
    obtain ⟨A2, m2, d2, rfl⟩ := own_slice hat.b
    clear hinv hat
    by_cases hlt : k < n
    · have hk2 : k < L.length := by have := HL.out; omega
      obtain ⟨b, o, rfl, hbl, hcell⟩ := HC.out (by omega)
      have e0 : wr.cell? ⟨b, o + k * 2, none⟩ = some (.int .i64 (L.getD k rz).1) := (AT.out.below.cell (p := ⟨b, o + k * 2, none⟩) hbl).trans (hcell k hk2).1
      have e1 : wr.cell? ⟨b, o + k * 2 + 1, none⟩ = some (.int .i64 (L.getD k rz).2) := (AT.out.below.cell (p := ⟨b, o + k * 2 + 1, none⟩) hbl).trans (hcell k hk2).2
      have htk := Lib.hid (take_atr hk2)
      have hrr := HR.out.1 _ (getDr_mem hk2)
      have hgp := Lib.hid (gap_at HR.out.2 hk2)
      have hce := Lib.hid (hcell k hk2)
      clear hcell
      generalize L.getD k rz = r at *
      obtain ⟨rl, rh⟩ := r
      simp only at e0 e1 hrr
      have hrrH := Lib.hid hrr
      obtain ⟨r0, r1, r2⟩ := hrr
      have w1 : IntKind.i64.wrap (rh + 1) = rh + 1 := IntWalk.i64_in _ (by omega)
      have w2 : IntKind.i64.wrap (xh + 1) = xh + 1 := IntWalk.i64_in _ (by omega)
      by_cases q1 : rh + 1 < xl
      · have WA := Lib.hid (w_ahead INV.out (e := (rl, rh)) r1 hgp.out (hPr k) q1)
        go_wp2_with fail
        go_quiet (fail)
        clear w1 w2
        go_wp2_with (at_builtin; refine wpList_append_own_at _ rfl _ _ 158 rfl (w.heap.size + 1) 183 i0 (.agg #[.int .i64 0, .int .i64 0]) 2 16 Tryz.underlying158 hi hz0 hz1 hz2 rfl (by decide) _ P.length (pairs P) rfl (World.ownsRow.alloc (AT.out.drew _).a _) ⟨wr.heap.size, 0, none⟩ 1 1 [.int .i64 rl, .int .i64 rh] rfl rfl (two_new _ _ _ _ _ (by simp)) (two_cell _ _) (by unfold maxLen; omega) (by omega) (by simp; omega) ?_)
        intro v' w3 hown2 hgrow _ hat2
        have AT2 := Lib.hid ((AT.out.drew _).growA (ownP_snoc hown2) hgrow hat2)
        clear hown2 hgrow hat2 c0 c1 f0 f1 e0 e1
        go_wp2_with fail
        go_roundw
        case rel => exact ⟨k + 1, xl, xh, P ++ [(rl, rh)], Q, by omega, by go_num, AT2.out, by rw [htk.out]; exact WA.out⟩
        case measure => simp [intOf]; omega
      · by_cases q2 : xh + 1 < rl
        · have WA := Lib.hid (w_behind INV.out (e := (rl, rh)) r1 hgp.out q2)
          go_wp2_with fail
          go_quiet (fail)
          go_wp2_with fail
          go_quiet (fail)
          clear w1 w2
          go_wp2_with (at_builtin; refine wpList_append_own_at _ rfl _ _ 158 rfl (w.heap.size + 1) 183 i0 (.agg #[.int .i64 0, .int .i64 0]) 2 16 Tryz.underlying158 hi hz0 hz1 hz2 rfl (by decide) _ Q.length (pairs Q) rfl (World.ownsRow.alloc (AT.out.drew _).b _) ⟨wr.heap.size, 0, none⟩ 1 1 [.int .i64 rl, .int .i64 rh] rfl rfl (two_new _ _ _ _ _ (by simp)) (two_cell _ _) (by unfold maxLen; omega) (by omega) (by simp; omega) ?_)
          intro v' w3 hown2 hgrow _ hat2
          have AT2 := Lib.hid ((AT.out.drew _).growB (ownP_snoc hown2) hgrow hat2)
          clear hown2 hgrow hat2 c0 c1 f0 f1 e0 e1
          go_wp2_with fail
          go_roundw
          case rel => exact ⟨k + 1, xl, xh, P, Q ++ [(rl, rh)], by omega, by go_num, AT2.out, by rw [htk.out]; exact WA.out⟩
          case measure => simp [intOf]; omega
        · by_cases q3 : rl < xl
          · by_cases q4 : xh < rh
            · have WA := Lib.hid (w_touch INV.out (e := (rl, rh)) hrrH.out hgp.out (hPr k) q1 q2 (lo := rl) (hi := rh) (by simp only; omega) (by simp only; omega))
              go_wp2_with fail
              go_quiet (fail)
              go_wp2_with fail
              go_quiet (fail)
              clear w1 w2
              go_wp2_with fail
              go_quiet (fail)
              go_wp2_with fail
              generalize hwq : World.setCell _ _ _ = wq
              have AT3 := Lib.hid (hwq ▸ (AT.out.drew _).set0 rl)
              clear hwq c0 c1 f0 f1 e0 e1
              obtain ⟨c0, c1, f0, f1⟩ := AT3.out.cells
              have e0 := (AT3.out.below.cell (p := ⟨b, o + k * 2, none⟩) hbl).trans hce.out.1
              have e1 := (AT3.out.below.cell (p := ⟨b, o + k * 2 + 1, none⟩) hbl).trans hce.out.2
              go_quiet (fail)
              go_wp2_with fail
              go_roundw
              case rel => exact ⟨k + 1, rl, rh, P, Q, by omega, by go_num, (AT3.out.drew _).set1 rh, by rw [htk.out]; exact WA.out⟩
              case measure => simp [intOf]; omega
            · have WA := Lib.hid (w_touch INV.out (e := (rl, rh)) hrrH.out hgp.out (hPr k) q1 q2 (lo := rl) (hi := xh) (by simp only; omega) (by simp only; omega))
              go_wp2_with fail
              go_quiet (fail)
              go_wp2_with fail
              go_quiet (fail)
              clear w1 w2
              go_wp2_with fail
              go_quiet (fail)
              go_wp2_with fail
              generalize hwq : World.setCell _ _ _ = wq
              have AT3 := Lib.hid (hwq ▸ (AT.out.drew _).set0 rl)
              clear hwq c0 c1 f0 f1 e0 e1
              obtain ⟨c0, c1, f0, f1⟩ := AT3.out.cells
              have e0 := (AT3.out.below.cell (p := ⟨b, o + k * 2, none⟩) hbl).trans hce.out.1
              have e1 := (AT3.out.below.cell (p := ⟨b, o + k * 2 + 1, none⟩) hbl).trans hce.out.2
              go_quiet (fail)
              go_wp2_with fail
              go_roundw
              case rel => exact ⟨k + 1, rl, xh, P, Q, by omega, by go_num, AT3.out.drew _, by rw [htk.out]; exact WA.out⟩
              case measure => simp [intOf]; omega
          · by_cases q4 : xh < rh
            · have WA := Lib.hid (w_touch INV.out (e := (rl, rh)) hrrH.out hgp.out (hPr k) q1 q2 (lo := xl) (hi := rh) (by simp only; omega) (by simp only; omega))
              go_wp2_with fail
              go_quiet (fail)
              go_wp2_with fail
              go_quiet (fail)
              clear w1 w2
              go_wp2_with fail
              go_quiet (fail)
              go_wp2_with fail
              go_quiet (fail)
              go_wp2_with fail
              go_roundw
              case rel => exact ⟨k + 1, xl, rh, P, Q, by omega, by go_num, (AT.out.drew _).set1 rh, by rw [htk.out]; exact WA.out⟩
              case measure => simp [intOf]; omega
            · have WA := Lib.hid (w_touch INV.out (e := (rl, rh)) hrrH.out hgp.out (hPr k) q1 q2 (lo := xl) (hi := xh) (by simp only; omega) (by simp only; omega))
              go_wp2_with fail
              go_quiet (fail)
              go_wp2_with fail
              go_quiet (fail)
              clear w1 w2
              go_wp2_with fail
              go_quiet (fail)
              go_wp2_with fail
              go_quiet (fail)
              go_wp2_with fail
              go_roundw
              case rel => exact ⟨k + 1, xl, xh, P, Q, by omega, by go_num, AT.out.drew _, by rw [htk.out]; exact WA.out⟩
              case measure => simp [intOf]; omega
    · have hd : Hid (L.take k = L) := List.take_of_length_le (by have := HL.out; omega)
      have WE := Lib.hid (w_end (P := L) HR.out (by have q := INV.out; rw [hd] at q; exact q))
      have hb2 : wr.ownsRow (w.heap.size + 1) 183 2 (.slice A2 m2 d2) Q.length (pairs Q) := AT.out.b
      rcases hb2.2 with ⟨e2, e3⟩ | ⟨g, cap, cur, e2, hbg, hgh, _⟩
      · injection e2 with s1 s2 s3
        subst s1 s2 s3
        obtain rfl : Q = [] := List.eq_nil_of_length_eq_zero e3
        clear hb2 e3
        go_wp2_with (at_builtin; refine wpList_append_own_at _ rfl _ _ 158 rfl (w.heap.size + 1) 183 i0 (.agg #[.int .i64 0, .int .i64 0]) 2 16 Tryz.underlying158 hi hz0 hz1 hz2 rfl (by decide) _ P.length (pairs P) rfl (World.ownsRow.alloc AT.out.a _) ⟨wr.heap.size, 0, none⟩ 1 1 [.int .i64 xl, .int .i64 xh] rfl rfl (two_new _ _ _ _ _ (by simp)) (two_cell _ _) (by unfold maxLen; omega) (by omega) (by simp; omega) ?_)
        intro v' w3 hown2 hgrow _ hat2
        have AT2 := Lib.hid (AT.out.growA (ownP_snoc hown2) hgrow hat2)
        obtain ⟨A3, m3, d3, rfl⟩ := own_slice hown2
        clear hgrow hat2 c0 c1 f0 f1
        go_wp2_with (at_builtin; refine wpList_append_own_none rfl _ _ 158 rfl (w.heap.size + 1) 183 i0 2 Tryz.underlying158 hi (.slice A3 m3 d3) (P.length + 1) (pairs P ++ [.int .i64 xl, .int .i64 xh]) rfl hown2 rfl ?_)
        go_ret
        exact ⟨_, _, rfl, ownP_runs AT2.out.a, by have q := WE.out.1; rwa [List.append_nil] at q, by have q := WE.out.2.1; rwa [List.append_nil] at q, by have q := WE.out.2.2; rwa [List.append_nil] at q, AT2.out.below⟩
      · have hgl := lt_of_block hgh
        injection e2 with s1 s2 s3
        subst s1 s2 s3
        clear hb2
        go_wp2_with (at_builtin; refine wpList_append_own_at _ rfl _ _ 158 rfl (w.heap.size + 1) 183 i0 (.agg #[.int .i64 0, .int .i64 0]) 2 16 Tryz.underlying158 hi hz0 hz1 hz2 rfl (by decide) _ P.length (pairs P) rfl (World.ownsRow.alloc AT.out.a _) ⟨wr.heap.size, 0, none⟩ 1 1 [.int .i64 xl, .int .i64 xh] rfl rfl (two_new _ _ _ _ _ (by simp)) (two_cell _ _) (by unfold maxLen; omega) (by omega) (by simp; omega) ?_)
        intro v' w3 hown2 hgrow _ hat2
        have AT2 := Lib.hid (AT.out.growA (ownP_snoc hown2) hgrow hat2)
        have z3 := AT2.out.room
        obtain ⟨A3, m3, d3, rfl⟩ := own_slice hown2
        clear hgrow hat2 c0 c1 f0 f1
        go_wp2_with (at_builtin; refine wpList_append_own_at _ rfl _ _ 158 rfl (w.heap.size + 1) 183 i0 (.agg #[.int .i64 0, .int .i64 0]) 2 16 Tryz.underlying158 hi hz0 hz1 hz2 rfl (by decide) (.slice A3 m3 d3) (P.length + 1) (pairs P ++ [.int .i64 xl, .int .i64 xh]) rfl hown2 ⟨g, 0, none⟩ Q.length _ (pairs Q) rfl (pairs_len Q) (World.ownsRow.cells AT2.out.b rfl) (pairs_one Q) (by unfold maxLen; omega) (by omega) (by omega) ?_)
        intro v2 w4 hown4 hgrow4 _ _
        have hb4 : Below w.heap.size w w4 := AT2.out.below.trans ⟨hgrow4.os, hgrow4.tape, hgrow4.output, hgrow4.size, fun k hk => hgrow4.block k (by omega) (fun q => by have := (World.ownsRow.lt hown2 k q.symm).1; omega)⟩
        have O4 := Lib.hid (ownP_join hown4)
        clear hown2 hown4 hgrow4
        go_wp2_with fail
        go_ret
        exact ⟨v2, _, rfl, ownP_runs O4.out, WE.out.1, WE.out.2.1, WE.out.2.2, hb4⟩
end Go.Proofs.YtmfdpaahklndnaaGreat
namespace Go.Proofs.YtmfdpaahklndnaaGreat
set_option linter.unusedVariables false
set_option maxRecDepth 100000
open Go.RowKit
def RunsPost (l : Int) (ids : List Int) (w : World) (e : Ending) (w' : World) : Prop :=
  (IsAll l ids ∧ ∃ A c L, e = .returned (.tuple #[.slice A (List.length L) c, .bool true]) ∧ RunsAt w' (.slice A L.length c) L ∧ Runs (2 ^ l.toNat) L ∧ (∀ x, InR L x ↔ Held l ids x) ∧ L.length ≤ ids.length ∧ Below w.heap.size w w') ∨
  (NotAll l ids ∧ ∃ A m c, e = .returned (.tuple #[.slice A m c, .bool false]) ∧ m ≤ ids.length ∧ Below w.heap.size w w')
theorem runs_nil (w : World) : RunsAt w (.slice none 0 0) [] := ⟨none, 0, rfl, fun h => by simp at h⟩
theorem runs_shape {w : World} {v : Value} {L : List Rn} (h : RunsAt w v L) : ∃ A c, v = .slice A L.length c := by obtain ⟨A, c, e, _⟩ := h; exact ⟨A, c, e⟩
set_option maxHeartbeats 1600000 in
theorem runs_any (l : Int) (A : Option Addr) (n c : Nat) (ids : List Int) (w : World) (hA : IntsAt w (.slice A n c) ids) (hB : Bds ids) (hn : n ≤ 100000) (L0 : -9223372036854775808 ≤ l) (L1 : l ≤ 9223372036854775807) :
    Calls Tryz.prog 118 #[.int .i64 l, .slice A n c] w (RunsPost l ids w) := by
  obtain ⟨hlen, hcells⟩ := ints_cells hA
  have HC := Lib.hid hcells
  have HL := Lib.hid hlen
  have HB := Lib.hid hB
  clear hcells hlen hA hB
  go_enter Tryz.func118, Tryz.ntmps118
  go_wp2_with fail
  go_loopw [6, 7] (fun v i wr => ∃ (k : Nat) (L : List Rn), k ≤ n ∧ i = .int .i64 k ∧ RunsAt wr v L ∧ Runs (2 ^ l.toNat) L ∧ (∀ x, InR L x ↔ Held l (ids.take k) x) ∧ L.length ≤ k ∧ (∀ t ∈ ids.take k, endB l t = true) ∧ Below w.heap.size w wr) (fun _ i _ => n - (intOf i).toNat)
  case atStart => exact ⟨0, [], by omega, rfl, runs_nil w, ⟨fun r h => by simp at h, List.Pairwise.nil⟩, fun x => ⟨fun g => absurd g (inR_nil x), fun g => absurd g (held_nil l x)⟩, by simp, fun t h => by simp at h, Below.refl ..⟩
  case round =>
    rename_i wr
    obtain ⟨k, L, hk, rfl, hra, hrs, hin, hlk, hall, hb⟩ := hrel
    have HA := Lib.hid hall
    have HIN := Lib.hid hin
    have HRS := Lib.hid hrs
    have HRA := Lib.hid hra
    have zs := hb.size
    obtain ⟨A1, c1, rfl⟩ := runs_shape hra
    have hll : L.length ≤ 1000000 := by omega
    clear hall hin hrs hra
    by_cases hlt : k < n
    · have hk2 : k < ids.length := by have := HL.out; omega
      obtain ⟨b, o, rfl, hbl, hcell⟩ := HC.out (by omega)
      have hck : wr.cell? ⟨b, o + k, none⟩ = some (.int .i64 (ids.getD k 0)) := (hb.cell (p := ⟨b, o + k, none⟩) hbl).trans (hcell k hk2)
      have hbd := bds_at HB.out hk2
      have htk := Lib.hid (take_at hk2)
      have hmem := Lib.hid (getD_mem hk2)
      clear hcell
      generalize ids.getD k 0 = t at *
      have he := end_bd l t hbd.2
      by_cases hen : endB l t = true
      · have ht := node_of_end hen hbd.2
        have bt := node_bd ht
        have HT := Lib.hid ht
        have hm48 : (2 : Int) ^ l.toNat ≤ 281474976710656 := two_le l.toNat 48 (by have := ht.1.2.1; omega)
        generalize hll2 : L.length = ll at *
        have HLL := Lib.hid hll2
        clear hll2 ht
        go_wp2_with (go_at_call 30; refine (rends_any _ _ _ (by omega) (by omega) (by omega) (by omega)).mono ?_; rintro e w1 ⟨rfl, rfl⟩)
        refine (with_any A1 ll c1 L (loN l t) (hiN l t) (2 ^ l.toNat) _ HRA.out HRS.out hm48 ⟨bt.1, bt.2.1, bt.2.2.1⟩ hll).mono ?_
        rintro e w2 ⟨v2, L2, rfl, hra2, hrs2, hin2, hlen2, hb2⟩
        have HRA2 := Lib.hid hra2
        have HRS2 := Lib.hid hrs2
        have HIN2 := Lib.hid hin2
        have hb3 : Below w.heap.size w w2 := hb.trans (hb2.mono zs)
        have hl2 : L2.length ≤ k + 1 := by have := HLL.out; omega
        obtain ⟨A3, c3, rfl⟩ := runs_shape hra2
        generalize hll3 : L2.length = ll3 at *
        have HLL3 := Lib.hid hll3
        clear hra2 hrs2 hin2 hb2 hck hlen2 hll3
        go_wp2_with fail
        go_roundw
        case rel => exact ⟨k + 1, L2, by omega, by go_num, HRA2.out, HRS2.out, fun x => by rw [HIN2.out, htk.out, held_snoc, HIN.out], by have := HLL3.out; omega, fun u hu => by
          rw [htk.out] at hu
          rcases List.mem_append.1 hu with hu | hu
          · exact HA.out u hu
          · simp at hu; subst hu; exact hen, hb3⟩
        case measure => simp [intOf]; omega
      · have hen' : endB l t = false := by simpa using hen
        clear hen
        go_wp2_with (go_at_call 30; refine (rends_any _ _ _ (by omega) (by omega) (by omega) (by omega)).mono ?_; rintro e w1 ⟨rfl, rfl⟩)
        go_ret2
        exact .inr ⟨.inr ⟨t, hmem.out, hen'⟩, none, 0, 0, rfl, by omega, hb⟩
    · have hd : Hid (ids.take k = ids) := List.take_of_length_le (by have := HL.out; omega)
      have hlk2 : L.length ≤ ids.length := by have := HL.out; omega
      generalize hll2 : L.length = ll at *
      have HLL := Lib.hid hll2
      clear hll2
      have hor := Lib.hid (all_or l ids)
      by_cases hu : uniB l = true
      · go_wp2_with (go_at_call 72; refine (rIs_any _ _ (by omega) (by omega)).mono ?_; rintro e w1 ⟨rfl, rfl⟩)
        go_ret2
        exact .inl ⟨⟨hu, by have q := HA.out; rw [hd] at q; exact q⟩, A1, c1, L, by rw [HLL.out]; rfl, by rw [HLL.out]; exact HRA.out, HRS.out, fun x => by rw [HIN.out, hd], by rw [HLL.out]; exact hlk2, hb⟩
      · have hu' : uniB l = false := by simpa using hu
        clear hu
        go_wp2_with (go_at_call 72; refine (rIs_any _ _ (by omega) (by omega)).mono ?_; rintro e w1 ⟨rfl, rfl⟩)
        go_ret2
        exact .inr ⟨.inl hu', A1, ll, c1, rfl, hlk2, hb⟩
end Go.Proofs.YtmfdpaahklndnaaGreat
namespace Go.Proofs.YtmfdpaahklndnaaGreat
set_option linter.unusedVariables false
set_option maxRecDepth 100000
open Go.RowKit
theorem ti_keep_two {W a b : World} {p q : Addr} {x y : Value} (h : a.cell? p = some x ∧ a.cell? q = some y ∧ Below W.heap.size W a) (hb : Below a.heap.size a b) (hp : p.block < W.heap.size) (hq : q.block < W.heap.size) :
    b.cell? p = some x ∧ b.cell? q = some y ∧ Below W.heap.size W b := by
  obtain ⟨h1, h2, h3⟩ := h
  have hz := h3.size
  exact ⟨(hb.cell (by omega)).trans h1, (hb.cell (by omega)).trans h2, h3.trans (hb.mono hz)⟩
def LayRPost (l : Int) (P : List Rn) (w : World) (e : Ending) (w' : World) : Prop :=
  ∃ A c T, e = .returned (.slice A (List.length T) c) ∧ IntsAt w' (.slice A T.length c) T ∧ LaidR l P T ∧ Below w.heap.size w w'
theorem ints_get {w : World} {b o m c : Nat} {T : List Int} (h : IntsAt w (.slice (some ⟨b, o, none⟩) m c) T) : ∀ j u, (ints T)[j]? = some u → w.cell? ((⟨b, o, none⟩ : Addr).add j) = some u := fun j u hj => by
  have hl : j < T.length := by
    rcases Nat.lt_or_ge j T.length with q | q
    · exact q
    · rw [List.getElem?_eq_none (by rw [ints_len]; exact q)] at hj; cases hj
  obtain ⟨b', o', e, _, hc⟩ := (ints_cells h).2 (by omega)
  injection e with e
  injection e with e1 e2
  subst e1 e2
  have ha : (⟨b, o, none⟩ : Addr).add j = ⟨b, o + j, none⟩ := by unfold Addr.add; split <;> simp_all
  rw [ha, hc j hl]
  simp [ints, List.getElem?_eq_getElem hl] at hj
  simp [List.getD_eq_getElem?_getD, List.getElem?_eq_getElem hl, hj]
theorem ints_one (T : List Int) : ∀ u ∈ ints T, u.oneCell' = true := fun u hu => by
  unfold ints at hu
  obtain ⟨x, _, rfl⟩ := List.mem_map.1 hu
  rfl
theorem ownI_join {e : TypeId} {w : World} {B : Nat} {v : Value} {T U : List Int} (h : w.ownsRow B e 1 v (T.length + U.length) (ints T ++ ints U)) : OwnI e w B v (T ++ U) := by
  unfold OwnI
  rw [ints_app, List.length_append]
  exact h
set_option maxHeartbeats 1600000 in
theorem r5lay_any (l : Int) (A : Option Addr) (n c : Nat) (L : List Rn) (w : World) (hA : RunsAt w (.slice A n c) L) (hR : Runs (2 ^ l.toNat) L) (hn : n ≤ 10000) (hl : 1 ≤ l ∧ l ≤ 48) :
    Calls Tryz.prog 119 #[.int .i64 l, .slice A n c] w (LayRPost l L w) := by
  obtain ⟨i0, hi, hz0, hz1, hz2⟩ := info_parts int_info
  have HL := Lib.hid (runs_cells hA).1
  have HC := Lib.hid (runs_cells hA).2
  have HR := Lib.hid hR
  have hb48 : (2 : Int) ^ l.toNat ≤ 281474976710656 := two_le l.toNat 48 (by omega)
  clear hA hR
  go_enter Tryz.func119, Tryz.ntmps119
  go_wp2_with fail
  go_loopw [5, 6] (fun v i wr => ∃ (k : Nat) (T : List Int), k ≤ n ∧ i = .int .i64 k ∧ OwnI 3 wr w.heap.size v T ∧ LaidR l (L.take k) T ∧ Below w.heap.size w wr) (fun _ i _ => n - (intOf i).toNat)
  case atStart => exact ⟨0, [], by omega, rfl, ownI_nil _ _ _, laidR_start l, Below.refl ..⟩
  case round =>
    rename_i wr
    obtain ⟨k, T, hk, rfl, hown, hlaid, hb⟩ := hrel
    have HLD := Lib.hid hlaid
    have OW := Lib.hid hown
    have zs := hb.size
    have htl : T.length ≤ 960000 := by have := hlaid.2.2; simp at this; omega
    obtain ⟨A2, m2, c2, rfl⟩ := own_slice hown
    clear hlaid hown
    by_cases hlt : k < n
    · have hk2 : k < L.length := by have := HL.out; omega
      obtain ⟨b, o, rfl, hbl, hcell⟩ := HC.out (by omega)
      have e0 : wr.cell? ⟨b, o + k * 2, none⟩ = some (.int .i64 (L.getD k rz).1) := (hb.cell (p := ⟨b, o + k * 2, none⟩) hbl).trans (hcell k hk2).1
      have e1 : wr.cell? ⟨b, o + k * 2 + 1, none⟩ = some (.int .i64 (L.getD k rz).2) := (hb.cell (p := ⟨b, o + k * 2 + 1, none⟩) hbl).trans (hcell k hk2).2
      have htk := Lib.hid (take_atr hk2)
      have hrr := HR.out.1 _ (getDr_mem hk2)
      have hgp := Lib.hid (gap_at HR.out.2 hk2)
      clear hcell
      generalize L.getD k rz = r at *
      obtain ⟨rl, rh⟩ := r
      simp only at e0 e1 hrr
      obtain ⟨r0, r1, r2⟩ := hrr
      have hof := Lib.hid (fun w => r5of_yes l rl rh w ⟨⟨hl.1, hl.2, by omega, by omega⟩, ⟨hl.1, hl.2, by omega, by omega⟩, r1⟩)
      have hbw0 : b < wr.heap.size := by omega
      go_wp2_with fail
      go_region_held3 (fun w' => w'.cell? ⟨b, o + k * 2, none⟩ = some (.int .i64 rl) ∧ w'.cell? ⟨b, o + k * 2 + 1, none⟩ = some (.int .i64 rh) ∧ Below wr.heap.size wr w')
        (first | (exact ti_keep_two (by assumption) (by assumption) (by dsimp only; omega) (by dsimp only; omega)) | (exact ⟨e0, e1, below_drew _⟩))
        (first | (go_at_call 148; refine (hof.out _).mono ?_; rintro e w1 ⟨A3, c3, U, rfl, hints, hgood, hheld, hlen, hbel⟩))
      clear e0 e1
      have hU : 0 < U.length := by
        cases U with
        | nil => exact absurd ((hheld rl).2 ⟨Int.le_refl _, r1⟩) (held_nil l rl)
        | cons u U => simp
      obtain ⟨b3, o3, rfl, _, _⟩ := (ints_cells hints).2 hU
      have HI3 := Lib.hid (ints_get hints)
      have hU96 : U.length ≤ 96 := by omega
      have LS := Lib.hid (laidR_step HLD.out hgp.out hgood hheld hU96)
      have hbw : Below w.heap.size w w1 := hb.trans ((⟨hbel.os, hbel.tape, hbel.output, hbel.size, fun k hk => hbel.block k hk⟩ : Below wr.heap.size wr w1).mono zs)
      have OW1 := Lib.hid (own_below OW.out (⟨hbel.os, hbel.tape, hbel.output, hbel.size, fun k hk => hbel.block k hk⟩ : Below wr.heap.size wr w1))
      have z1 := hbw.size
      generalize hu : U.length = ul at *
      have HUL := Lib.hid hu
      clear hints hgood hheld hlen hbel hu hof
      go_wp2_with (at_builtin; refine wpList_append_own _ rfl _ _ 46 rfl w.heap.size 3 i0 (.int .i64 0) 1 8 Tryz.underlying46 hi hz0 hz1 hz2 rfl (by decide) (.slice A2 m2 c2) T.length (ints T) rfl OW1.out ⟨b3, o3, none⟩ ul c3 (ints U) rfl (by rw [ints_len, HUL.out]; omega) HI3.out (ints_one U) (by unfold maxLen; omega) (by omega) (by omega) ?_)
      intro v' w2 hown2 hgrow _
      have hb2 : Below w.heap.size w w2 := hbw.grown hgrow (by omega) (fun g hg => (World.ownsRow.lt OW1.out g hg).1)
      have O2 := Lib.hid (ownI_join (T := T) (U := U) (by rw [HUL.out]; exact hown2))
      clear hown2 hgrow
      go_wp2_with fail
      go_roundw
      case rel => exact ⟨k + 1, T ++ U, by omega, by go_num, O2.out, by rw [htk.out]; exact LS.out, hb2⟩
      case measure => simp [intOf]; omega
    · have hd : Hid (L.take k = L) := List.take_of_length_le (by have := HL.out; omega)
      have hints := ownI_ints OW.out
      have HI := Lib.hid hints
      have hm : m2 = T.length := (ints_cells hints).1
      have HM := Lib.hid hm
      clear hints hm
      go_wp2_with fail
      go_ret
      have q := HLD.out
      rw [hd] at q
      exact ⟨A2, c2, T, by rw [← HM.out]; rfl, by rw [← HM.out]; exact HI.out, q, hb⟩
end Go.Proofs.YtmfdpaahklndnaaGreat
namespace Go.Proofs.YtmfdpaahklndnaaGreat
set_option linter.unusedVariables false
set_option maxRecDepth 100000
open Go.RowKit
def RJoinPost (l : Int) (ids : List Int) (w : World) (e : Ending) (w' : World) : Prop := (IsAll l ids ∧ Told l (Held l ids) (ids.length * 96) w e w') ∨ (NotAll l ids ∧ NoneTold w e w')
theorem all_uni {l : Int} {ids : List Int} (h : IsAll l ids) : 1 ≤ l ∧ l ≤ 48 := by have := h.1; unfold uniB at this; simpa using this
set_option maxHeartbeats 1600000 in
theorem r5join_any (l : Int) (A : Option Addr) (n c : Nat) (ids : List Int) (w : World) (hA : IntsAt w (.slice A n c) ids) (hB : Bds ids) (hn : n ≤ 9000) (L0 : -9223372036854775808 ≤ l) (L1 : l ≤ 9223372036854775807) :
    Calls Tryz.prog 73 #[.int .i64 l, .slice A n c] w (RJoinPost l ids w) := by
  have HL := Lib.hid (ints_cells hA).1
  have HI := Lib.hid (runs_any l A n c ids w hA hB (by omega) L0 L1)
  clear hA hB
  go_enter Tryz.func73, Tryz.ntmps73
  go_wp2_with fail
  refine HI.out.mono ?_
  rintro e w1 (⟨hall, A1, c1, L, rfl, hra, hrs, hin, hlen, hb1⟩ | ⟨hno, A1, m1, c1, rfl, hm1, hb1⟩)
  · have HALL := Lib.hid hall
    have hl48 := all_uni hall
    have hm9 : L.length ≤ 9000 := by have := HL.out; omega
    have HIN := Lib.hid hin
    have HLEN := Lib.hid hlen
    generalize hm : L.length = m at *
    have HM := Lib.hid hm
    have HLAY := Lib.hid (r5lay_any l A1 m c1 L w1 hra hrs (by omega) hl48)
    have z1 := hb1.size
    clear hall hra hrs hin hlen hm HI
    go_wp2_with fail
    refine HLAY.out.mono ?_
    rintro e w2 ⟨A2, c2, T, rfl, hints, hlaid, hb2⟩
    have HI2 := Lib.hid hints
    have HLD := Lib.hid hlaid
    generalize ht : T.length = t at *
    have HT := Lib.hid ht
    clear hints hlaid ht HLAY
    go_wp2_with fail
    go_ret2
    exact .inl ⟨HALL.out, A2, c2, T, by rw [HT.out]; rfl, by rw [HT.out]; exact HI2.out, HLD.out.1, fun x => by rw [HLD.out.2.1, HIN.out], by have := HLD.out.2.2; have := HLEN.out; have := HM.out; omega, hb1.trans (hb2.mono z1)⟩
  · have HNO := Lib.hid hno
    clear hno HI
    go_wp2_with fail
    go_ret2
    exact .inr ⟨HNO.out, rfl, hb1⟩
end Go.Proofs.YtmfdpaahklndnaaGreat
