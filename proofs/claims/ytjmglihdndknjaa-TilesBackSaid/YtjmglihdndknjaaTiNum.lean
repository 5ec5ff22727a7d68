/- Plain facts on lists of nodes of one universe: such that lie one behind the other, of which no two make a pair; a list of that kind is told by the values that it holds. No program is spoken of here. -/
import Derived.Test.YtjmglihdndknjaaTwNum
namespace Go.Proofs.Ytjmglihdndknjaa
set_option linter.unusedVariables false

theorem mul_up {x y d : Int} (h : x ≤ y) (hd : 0 < d) : x * d ≤ y * d := Int.mul_le_mul_of_nonneg_right h (Int.le_of_lt hd)
theorem mul_lt {x y d : Int} (h : x < y) (hd : 0 < d) : x * d + d ≤ y * d := by
  have := mul_up (show x + 1 ≤ y by omega) hd
  rw [Int.add_mul] at this; omega
theorem mul_inj {x y d : Int} (h : x * d = y * d) (hd : 0 < d) : x = y := by
  rcases Int.lt_trichotomy x y with g | g | g
  · have := mul_lt g hd; omega
  · exact g
  · have := mul_lt g hd; omega

/-- a node of the universe of l bits -/
def Node (l id : Int) : Prop := RightC l id ∧ id ≤ 9223372036854775807
/-- its depth is k, below it are j bits -/
def Form (l id : Int) (k j : Nat) : Prop := l = (k + j : Nat) ∧ k + j ≤ 48 ∧ 1 ≤ k + j ∧ AtDep id k ∧ loN l id = id * 2 ^ j - 2 ^ (k + j) ∧ hiN l id = id * 2 ^ j - 2 ^ (k + j) + 2 ^ j - 1 ∧ 1 ≤ id
theorem node_form {l id : Int} (h : Node l id) : ∃ k j : Nat, Form l id k j := by
  obtain ⟨k, j, e, el, hkj, h0, hd, hw⟩ := right_dep h.1 h.2
  have a := end_yes h.1
  rw [hw] at a
  have : l.toNat = k + j := by omega
  rw [this] at a
  exact ⟨k, j, el, hkj, h0, hd, a.1, by omega, h.1.2.2.1⟩
theorem node_mk {l id : Int} {k j : Nat} (hl : l = (k + j : Nat)) (h48 : k + j ≤ 48) (h1 : 1 ≤ k + j) (hd : AtDep id k) : Node l id ∧ Form l id k j := by
  have b := two_le k 48 (by omega)
  have hi : id ≤ 9223372036854775807 := by have := hd.2; omega
  have h0 : 1 ≤ id := by have := hd.1; have := two_pos k; omega
  have e := (dep_is hd hi).1
  have hn : Node l id := ⟨⟨by omega, by omega, h0, by omega⟩, hi⟩
  obtain ⟨k', j', f⟩ := node_form hn
  have : k' = k := dep_uniq f.2.2.2.1 hd
  subst this
  have : j' = j := by have := f.1; omega
  subst this
  exact ⟨hn, f⟩
theorem node_bd {l id : Int} (h : Node l id) : 0 ≤ loN l id ∧ loN l id ≤ hiN l id ∧ hiN l id < 2 ^ l.toNat ∧ hiN l id ≤ 281474976710655 ∧ 1 ≤ id := by
  obtain ⟨k, j, el, hkj, h0, hd, a, b, c⟩ := node_form h
  have hp := two_pos j
  have e : l.toNat = k + j := by omega
  have b1 := two_le (k + j) 48 hkj
  rw [e]
  have e1 := two_add k j
  obtain ⟨d1, d2⟩ := hd
  have g1 := mul_up d1 hp
  have g2 := mul_lt d2 hp
  rw [Int.mul_assoc] at g2
  rw [a, b]
  omega
theorem form_uniq {l id : Int} {k j k' j' : Nat} (f : Form l id k j) (g : Form l id k' j') : k = k' ∧ j = j' := by
  have := dep_uniq f.2.2.2.1 g.2.2.2.1
  have := f.1; have := g.1
  omega
/-- two nodes of one width that begin alike are one -/
theorem same_form {l a b : Int} {k j k' : Nat} (f : Form l a k j) (g : Form l b k' j) (h : loN l a = loN l b) : a = b := by
  have hk : k = k' := by have := f.1; have := g.1; omega
  subst hk
  have e1 := f.2.2.2.2.1
  have e2 := g.2.2.2.2.1
  exact mul_inj (d := 2 ^ j) (by omega) (two_pos j)
theorem wid_lt {i j : Nat} (h : (2 : Int) ^ i - 1 < 2 ^ j) : i ≤ j := by
  by_cases e : i ≤ j
  · exact e
  · have := two_le (j + 1) i (by omega)
    rw [two_succ] at this
    have := two_pos j
    omega
theorem same_ends {l a b : Int} (ha : Node l a) (hb : Node l b) (h1 : loN l a = loN l b) (h2 : hiN l a = hiN l b) : a = b := by
  obtain ⟨k, j, f⟩ := node_form ha
  obtain ⟨k', j', g⟩ := node_form hb
  have e : j = j' := by
    have := f.2.2.2.2.1; have := f.2.2.2.2.2.1; have := g.2.2.2.2.1; have := g.2.2.2.2.2.1
    have := wid_lt (i := j) (j := j') (by omega)
    have := wid_lt (i := j') (j := j) (by omega)
    omega
  subst e
  exact same_form f g h1
theorem two_sub {i j : Nat} (h : i ≤ j) : (2 : Int) ^ j = 2 ^ (j - i) * 2 ^ i := by rw [← two_add]; congr 1; omega
/-- two nodes are apart, or one is within the other -/
theorem nest_le {l a b : Int} {k j k' j' : Nat} (f : Form l a k j) (g : Form l b k' j') (h : j ≤ j') : hiN l a < loN l b ∨ hiN l b < loN l a ∨ (loN l b ≤ loN l a ∧ hiN l a ≤ hiN l b) := by
  obtain ⟨el, _, _, _, a1, a2, _⟩ := f
  obtain ⟨el', _, _, _, b1, b2, _⟩ := g
  have e : k' + j' = k + j := by omega
  rw [e] at b1 b2
  have hp := two_pos j
  have e1 := two_sub h
  have e2 : b * 2 ^ j' = b * 2 ^ (j' - j) * 2 ^ j := by rw [e1, Int.mul_assoc]
  rw [e2] at b1 b2
  rcases Int.lt_or_le a (b * 2 ^ (j' - j)) with c | c
  · have := mul_lt c hp
    omega
  · rcases Int.lt_or_le a (b * 2 ^ (j' - j) + 2 ^ (j' - j)) with d | d
    · have g1 := mul_up c hp
      have g2 := mul_lt d hp
      rw [Int.add_mul, ← e1] at g2
      omega
    · have g2 := mul_up d hp
      rw [Int.add_mul, ← e1] at g2
      omega
theorem nest {l a b : Int} (ha : Node l a) (hb : Node l b) : hiN l a < loN l b ∨ hiN l b < loN l a ∨ (loN l b ≤ loN l a ∧ hiN l a ≤ hiN l b) ∨ (loN l a ≤ loN l b ∧ hiN l b ≤ hiN l a) := by
  obtain ⟨k, j, f⟩ := node_form ha
  obtain ⟨k', j', g⟩ := node_form hb
  rcases Nat.le_total j j' with h | h
  · have := nest_le f g h; omega
  · have := nest_le g f h; omega
/-- of two nodes that begin alike the one of the lesser number holds more -/
theorem less_more {l a b : Int} (ha : Node l a) (hb : Node l b) (h : loN l a = loN l b) (hab : a ≤ b) : hiN l b ≤ hiN l a := by
  obtain ⟨k, j, f⟩ := node_form ha
  obtain ⟨k', j', g⟩ := node_form hb
  obtain ⟨el, _, _, _, a1, a2, a3⟩ := f
  obtain ⟨el', _, _, _, b1, b2, b3⟩ := g
  have e : k' + j' = k + j := by omega
  rw [e] at b1 b2
  rcases Nat.lt_or_ge j j' with c | c
  · exfalso
    have e1 := two_sub (Nat.le_of_lt c)
    have e3 : b * 2 ^ (j' - j) * 2 ^ j = a * 2 ^ j := by rw [Int.mul_assoc, ← e1]; omega
    have e4 := mul_inj e3 (two_pos j)
    have e5 : (2 : Int) ≤ 2 ^ (j' - j) := by have := two_le 1 (j' - j) (by omega); omega
    have := Int.mul_le_mul_of_nonneg_left e5 (show 0 ≤ b by omega)
    omega
  · have := two_le j' j c
    omega
/-- a node that begins where a right child begins holds no more than it -/
theorem odd_top {l c b : Int} (hc : Node l c) (hb : Node l (2 * b + 1)) (h : loN l c = loN l (2 * b + 1)) : hiN l c ≤ hiN l (2 * b + 1) := by
  obtain ⟨k, j, f⟩ := node_form hc
  obtain ⟨k', j', g⟩ := node_form hb
  obtain ⟨el, _, _, _, a1, a2, a3⟩ := f
  obtain ⟨el', _, _, _, b1, b2, b3⟩ := g
  have e : k' + j' = k + j := by omega
  rw [e] at b1 b2
  rcases Nat.lt_or_ge j' j with d | d
  · exfalso
    have e1 := two_sub (Nat.le_of_lt d)
    have e3 : c * 2 ^ (j - j') * 2 ^ j' = (2 * b + 1) * 2 ^ j' := by rw [Int.mul_assoc, ← e1]; omega
    have e4 := mul_inj e3 (two_pos j')
    obtain ⟨i, hi⟩ : ∃ i, j - j' = i + 1 := ⟨j - j' - 1, by omega⟩
    rw [hi, two_succ, Int.mul_left_comm] at e4
    omega
  · have := two_le j j' d
    omega
/-- a node and its children -/
theorem kids_form {l id : Int} {k j : Nat} (f : Form l id k (j + 1)) : (Node l (2 * id) ∧ Form l (2 * id) (k + 1) j) ∧ (Node l (2 * id + 1) ∧ Form l (2 * id + 1) (k + 1) j) ∧
    loN l (2 * id) = loN l id ∧ hiN l (2 * id + 1) = hiN l id ∧ hiN l (2 * id) + 1 = loN l (2 * id + 1) := by
  obtain ⟨el, h48, h1, hd, a1, a2, a3⟩ := f
  have ⟨d1, d2⟩ := dep_kids hd
  have n1 := node_mk (l := l) (k := k + 1) (j := j) (by omega) (by omega) (by omega) d1
  have n2 := node_mk (l := l) (k := k + 1) (j := j) (by omega) (by omega) (by omega) d2
  have b1 := n1.2.2.2.2.2
  have b2 := n2.2.2.2.2.2
  have e : k + 1 + j = k + (j + 1) := by omega
  rw [e] at b1 b2
  have m0 : id * 2 ^ (j + 1) = 2 * (id * 2 ^ j) := by rw [two_succ, Int.mul_left_comm]
  have m1 : 2 * id * 2 ^ j = 2 * (id * 2 ^ j) := Int.mul_assoc ..
  have m2 : (2 * id + 1) * 2 ^ j = 2 * (id * 2 ^ j) + 2 ^ j := by rw [Int.add_mul, m1]; omega
  have m3 : (2 : Int) ^ (j + 1) = 2 * 2 ^ j := two_succ j
  rw [m0] at a1 a2
  rw [m1] at b1
  rw [m2] at b2
  rw [m3] at a2
  exact ⟨n1, n2, by omega, by omega, by omega⟩
theorem half_form {l id : Int} {k j : Nat} (f : Form l id (k + 1) j) : Node l (id / 2) ∧ Form l (id / 2) k (j + 1) := by
  obtain ⟨el, h48, h1, hd, _⟩ := f
  exact node_mk (by omega) (by omega) (by omega) (dep_half hd)
theorem form_two {l id : Int} {k j : Nat} (f : Form l id k j) (h : 2 ≤ id) : ∃ m, k = m + 1 := by
  refine ⟨k - 1, ?_⟩
  cases k with
  | zero => have := dep_zero f.2.2.2.1; omega
  | succ k => rfl
/-- a pair: the parent holds what both hold -/
theorem pair_half {l id : Int} (h : Node l id) (h2 : 2 ≤ id) (ho : id % 2 = 1) : Node l (id - 1) ∧ Node l (id / 2) ∧ loN l (id / 2) = loN l (id - 1) ∧ hiN l (id / 2) = hiN l id ∧ hiN l (id - 1) + 1 = loN l id := by
  obtain ⟨k, j, f⟩ := node_form h
  obtain ⟨m, rfl⟩ := form_two f h2
  have hf := half_form f
  have kf := kids_form hf.2
  have e : 2 * (id / 2) = id - 1 := by omega
  have e2 : id - 1 + 1 = id := by omega
  rw [e, e2] at kf
  exact ⟨kf.1.1, hf.1, kf.2.2.1.symm, kf.2.2.2.1.symm, kf.2.2.2.2⟩
theorem node_pair {l id : Int} (h : Node l id) (h2 : 2 ≤ id) (he : id % 2 = 0) : Node l (id + 1) ∧ Node l (id / 2) ∧ loN l (id / 2) = loN l id ∧ hiN l (id / 2) = hiN l (id + 1) ∧ hiN l id + 1 = loN l (id + 1) := by
  obtain ⟨k, j, f⟩ := node_form h
  obtain ⟨m, rfl⟩ := form_two f h2
  have hf := half_form f
  have kf := kids_form hf.2
  have e : 2 * (id / 2) = id := by omega
  rw [e] at kf
  exact ⟨kf.2.1.1, hf.1, kf.2.2.1.symm, kf.2.2.2.1.symm, kf.2.2.2.2⟩

/-- s lies ahead of t, and makes no pair with it -/
def Rel (l s t : Int) : Prop := hiN l s < loN l t ∧ ¬ (s % 2 = 0 ∧ t = s + 1)
def Nodes (l : Int) (T : List Int) : Prop := ∀ t ∈ T, Node l t
def Good (l : Int) (T : List Int) : Prop := Nodes l T ∧ T.Pairwise (Rel l)
def Held (l : Int) (T : List Int) (x : Int) : Prop := ∃ t ∈ T, loN l t ≤ x ∧ x ≤ hiN l t
theorem held_nil (l x : Int) : ¬ Held l [] x := fun ⟨t, h, _⟩ => by simp at h
theorem held_cons (l a : Int) (T : List Int) (x : Int) : Held l (a :: T) x ↔ (loN l a ≤ x ∧ x ≤ hiN l a) ∨ Held l T x := by
  unfold Held; simp
theorem held_app (l : Int) (S T : List Int) (x : Int) : Held l (S ++ T) x ↔ Held l S x ∨ Held l T x := by
  unfold Held
  constructor
  · rintro ⟨t, h, g⟩
    rcases List.mem_append.1 h with h | h
    · exact .inl ⟨t, h, g⟩
    · exact .inr ⟨t, h, g⟩
  · rintro (⟨t, h, g⟩ | ⟨t, h, g⟩)
    · exact ⟨t, List.mem_append.2 (.inl h), g⟩
    · exact ⟨t, List.mem_append.2 (.inr h), g⟩
theorem held_rev (l : Int) (T : List Int) (x : Int) : Held l T.reverse x ↔ Held l T x := by
  unfold Held; simp
theorem held_hi {l : Int} {T : List Int} (h : Nodes l T) {t : Int} (ht : t ∈ T) : Held l T (hiN l t) := ⟨t, ht, (node_bd (h t ht)).2.1, Int.le_refl _⟩
theorem held_bd {l : Int} {T : List Int} (h : Nodes l T) {x : Int} (hx : Held l T x) : 0 ≤ x ∧ x < 2 ^ l.toNat := by
  obtain ⟨t, ht, g⟩ := hx
  have := node_bd (h t ht)
  omega
theorem good_tail {l a : Int} {T : List Int} (h : Good l (a :: T)) : Node l a ∧ Good l T ∧ (∀ t ∈ T, Rel l a t) :=
  ⟨h.1 a (by simp), ⟨fun t ht => h.1 t (by simp [ht]), (List.pairwise_cons.1 h.2).2⟩, (List.pairwise_cons.1 h.2).1⟩

/-- where a list of that kind begins as a node and holds all that it holds, its first node is no less -/
theorem first_cover (l : Int) : ∀ (j : Nat) (k : Nat) (B : Int), Form l B k j → Node l B → ∀ (A : Int) (R : List Int), Good l (A :: R) → loN l A = loN l B → (∀ x, loN l B ≤ x → x ≤ hiN l B → Held l (A :: R) x) → hiN l B ≤ hiN l A := by
  intro j
  induction j with
  | zero =>
    intro k B f hB A R hg h hc
    have := f.2.2.2.2.1
    have := f.2.2.2.2.2.1
    have := node_bd (hg.1 A (by simp))
    simp at *
    omega
  | succ j ih =>
    intro k B f hB A R hg h hc
    obtain ⟨⟨nL, fL⟩, ⟨nR, fR⟩, e1, e2, e3⟩ := kids_form f
    obtain ⟨nA, gR, rA⟩ := good_tail hg
    have bL := node_bd nL
    have bR := node_bd nR
    have i1 := ih (k + 1) (2 * B) fL nL A R hg (by omega) (fun x g1 g2 => hc x (by omega) (by omega))
    rcases Int.lt_or_le (hiN l A) (hiN l B) with hlt | hge
    · exfalso
      -- the first node is the left child
      have hA : A = 2 * B := by
        obtain ⟨kA, jA, fA⟩ := node_form nA
        have q1 := fA.2.2.2.2.1
        have q2 := fA.2.2.2.2.2.1
        have q3 := f.2.2.2.2.1
        have q4 := f.2.2.2.2.2.1
        have q5 := fL.2.2.2.2.1
        have q6 := fL.2.2.2.2.2.1
        have hj1 : jA < j + 1 := two_lt (by omega)
        have hj2 : j ≤ jA := wid_lt (by omega)
        have : jA = j := by omega
        subst this
        exact same_form fA fL (by omega)
      subst hA
      have hx := hc (loN l (2 * B + 1)) (by omega) (by omega)
      rw [held_cons] at hx
      rcases hx with hx | ⟨t, ht, hx⟩
      · omega
      · cases R with
        | nil => simp at ht
        | cons C R =>
          obtain ⟨nC, gC, rC⟩ := good_tail gR
          have hAC := rA C (by simp)
          have hle : loN l C ≤ loN l t := by
            rcases List.mem_cons.1 ht with rfl | hm
            · exact Int.le_refl _
            · have := rC t hm; have := this.1; have := node_bd nC; omega
          have hlo : loN l C = loN l (2 * B + 1) := by have := hAC.1; omega
          have i2 := ih (k + 1) (2 * B + 1) fR nR C R gR hlo (fun x g1 g2 => by
            have := hc x (by omega) (by omega)
            rw [held_cons] at this
            rcases this with g | g
            · omega
            · exact g)
          have i3 := odd_top nC nR hlo
          have := same_ends nC nR hlo (by omega)
          exact hAC.2 ⟨by omega, this⟩
    · exact hge
/-- a list of that kind is told by the values that it holds -/
theorem uniq {l : Int} : ∀ {T T' : List Int}, Good l T → Good l T' → (∀ x, Held l T x ↔ Held l T' x) → T = T' := by
  intro T
  induction T with
  | nil =>
    intro T' h h' e
    cases T' with
    | nil => rfl
    | cons B R =>
      exact absurd ((e _).2 (held_hi h'.1 (List.mem_cons_self ..))) (held_nil _ _)
  | cons A R ih =>
    intro T' h h' e
    cases T' with
    | nil => exact absurd ((e _).1 (held_hi h.1 (List.mem_cons_self ..))) (held_nil _ _)
    | cons B R' =>
      obtain ⟨nA, gR, rA⟩ := good_tail h
      obtain ⟨nB, gR', rB⟩ := good_tail h'
      have bA := node_bd nA
      have bB := node_bd nB
      have lo1 : loN l B ≤ loN l A := by
        obtain ⟨t, ht, g⟩ := (e (loN l A)).1 ((held_cons ..).2 (.inl ⟨by omega, by omega⟩))
        rcases List.mem_cons.1 ht with rfl | hm
        · omega
        · have := (rB t hm).1; omega
      have lo2 : loN l A ≤ loN l B := by
        obtain ⟨t, ht, g⟩ := (e (loN l B)).2 ((held_cons ..).2 (.inl ⟨by omega, by omega⟩))
        rcases List.mem_cons.1 ht with rfl | hm
        · omega
        · have := (rA t hm).1; omega
      have lo : loN l A = loN l B := by omega
      obtain ⟨kA, jA, fA⟩ := node_form nA
      obtain ⟨kB, jB, fB⟩ := node_form nB
      have h1 := first_cover l jB kB B fB nB A R h lo (fun x g1 g2 => (e x).2 ((held_cons ..).2 (.inl ⟨g1, g2⟩)))
      have h2 := first_cover l jA kA A fA nA B R' h' lo.symm (fun x g1 g2 => (e x).1 ((held_cons ..).2 (.inl ⟨g1, g2⟩)))
      have hAB := same_ends nA nB lo (by omega)
      subst hAB
      congr 1
      refine ih gR gR' fun x => ?_
      constructor
      · intro hx
        have := (e x).1 ((held_cons ..).2 (.inr hx))
        rw [held_cons] at this
        rcases this with g | g
        · obtain ⟨t, ht, g'⟩ := hx
          have := (rA t ht).1; omega
        · exact g
      · intro hx
        have := (e x).2 ((held_cons ..).2 (.inr hx))
        rw [held_cons] at this
        rcases this with g | g
        · obtain ⟨t, ht, g'⟩ := hx
          have := (rB t ht).1; omega
        · exact g

/-- how many values the nodes hold, each by itself -/
def tot (l : Int) : List Int → Int
  | [] => 0
  | t :: T => (hiN l t - loN l t + 1) + tot l T
theorem tot_app (l : Int) (S T : List Int) : tot l (S ++ T) = tot l S + tot l T := by
  induction S with
  | nil => simp [tot]
  | cons a S ih => simp [tot, ih]; omega
theorem tot_rev (l : Int) (T : List Int) : tot l T.reverse = tot l T := by
  induction T with
  | nil => rfl
  | cons a T ih => simp [tot_app, tot, ih]; omega

/-! ### the stack, its top first -/
def putR : List Int → Int → List Int
  | [], id => [id]
  | t :: R, id => if 2 ≤ id ∧ t = pairN id then putR R (id / 2) else id :: t :: R
theorem putR_len : ∀ (R : List Int) (id : Int), (putR R id).length ≤ R.length + 1 := by
  intro R
  induction R with
  | nil => intro id; simp [putR]
  | cons t R ih =>
    intro id
    rw [putR]
    split
    · have := ih (id / 2); simp; omega
    · simp
/-- a stack: told from its end -/
def Stack (l : Int) (R : List Int) : Prop := Nodes l R ∧ R.Pairwise (fun t s => Rel l s t)
theorem stack_good {l : Int} {R : List Int} (h : Stack l R) : Good l R.reverse := ⟨fun t ht => h.1 t (List.mem_reverse.1 ht), List.pairwise_reverse.2 h.2⟩
theorem good_stack {l : Int} {R : List Int} (h : Good l R) : Stack l R.reverse := ⟨fun t ht => h.1 t (List.mem_reverse.1 ht), List.pairwise_reverse.2 h.2⟩
theorem stack_tail {l a : Int} {T : List Int} (h : Stack l (a :: T)) : Node l a ∧ Stack l T ∧ (∀ t ∈ T, Rel l t a) :=
  ⟨h.1 a (by simp), ⟨fun t ht => h.1 t (by simp [ht]), (List.pairwise_cons.1 h.2).2⟩, (List.pairwise_cons.1 h.2).1⟩
theorem put_good {l : Int} : ∀ (R : List Int) (id : Int), Stack l R → Node l id → (∀ t ∈ R, hiN l t < loN l id) →
    Stack l (putR R id) ∧ (∀ x, Held l (putR R id) x ↔ Held l R x ∨ (loN l id ≤ x ∧ x ≤ hiN l id)) ∧ tot l (putR R id) = tot l R + (hiN l id - loN l id + 1) := by
  intro R
  induction R with
  | nil =>
    intro id hs hn hb
    refine ⟨⟨fun t ht => ?_, by simp [putR]⟩, fun x => ?_, by simp [putR, tot]⟩
    · simp [putR] at ht; subst ht; exact hn
    · simp [putR, Held]
  | cons t R ih =>
    intro id hs hn hb
    obtain ⟨nt, sR, rt⟩ := stack_tail hs
    have bt := hb t (by simp)
    have btt := node_bd nt
    have bid := node_bd hn
    rw [putR]
    split
    · rename_i hc
      obtain ⟨h2, hp⟩ := hc
      rw [(pair_yes h2).1] at hp
      split at hp
      · rename_i he
        exfalso
        have := node_pair hn h2 he
        subst hp
        have := node_bd nt
        omega
      · rename_i he
        obtain ⟨q1, q2, q3, q4, q5⟩ := pair_half hn h2 (by omega)
        subst hp
        obtain ⟨p1, p2, p3⟩ := ih (id / 2) sR q2 (fun u hu => by have := (rt u hu).1; omega)
        refine ⟨p1, fun x => ?_, ?_⟩
        · rw [p2, held_cons, q3, q4]
          constructor
          · rintro (g | g)
            · exact .inl (.inr g)
            · by_cases hx : x ≤ hiN l (id - 1)
              · exact .inl (.inl ⟨g.1, hx⟩)
              · exact .inr ⟨by omega, g.2⟩
          · rintro ((g | g) | g)
            · exact .inr ⟨g.1, by omega⟩
            · exact .inl g
            · exact .inr ⟨by omega, g.2⟩
        · rw [p3, q3, q4, tot]; omega
    · rename_i hc
      refine ⟨⟨fun u hu => ?_, ?_⟩, fun x => ?_, ?_⟩
      · rcases List.mem_cons.1 hu with rfl | hu
        · exact hn
        · exact hs.1 u hu
      · refine List.pairwise_cons.2 ⟨fun u hu => ⟨hb u hu, ?_⟩, hs.2⟩
        rintro ⟨g1, g2⟩
        rcases List.mem_cons.1 hu with rfl | hu
        · refine hc ⟨by omega, ?_⟩
          rw [(pair_yes (by omega)).1, if_neg (by omega)]; omega
        · have n := node_bd (hs.1 u (by simp [hu]))
          have hr := (rt u hu).1
          have := pair_half hn (by omega) (by omega)
          have e : id - 1 = u := by omega
          rw [e] at this
          omega
      · rw [held_cons]; exact Or.comm
      · rw [tot]; omega

/-! ### a run of values, node by node -/
def cnt (l a b : Int) : Nat → Int → Nat
  | 0, id => if a ≤ loN l id ∧ hiN l id ≤ b then 1 else 0
  | h + 1, id => if a ≤ loN l id ∧ hiN l id ≤ b then 1 else if loN l id ≤ b ∧ a ≤ hiN l id then cnt l a b h (2 * id) + cnt l a b h (2 * id + 1) else 0
def intoR (l a b : Int) : Nat → Int → List Int → List Int
  | 0, id, R => if a ≤ loN l id ∧ hiN l id ≤ b then putR R id else R
  | h + 1, id, R => if a ≤ loN l id ∧ hiN l id ≤ b then putR R id else if loN l id ≤ b ∧ a ≤ hiN l id then intoR l a b h (2 * id + 1) (intoR l a b h (2 * id) R) else R
theorem into_len (l a b : Int) : ∀ (h : Nat) (id : Int) (R : List Int), (intoR l a b h id R).length ≤ R.length + cnt l a b h id := by
  intro h
  induction h with
  | zero =>
    intro id R
    rw [intoR, cnt]
    split
    · exact putR_len R id
    · simp
  | succ h ih =>
    intro id R
    rw [intoR, cnt]
    split
    · exact putR_len R id
    · split
      · have h1 := ih (2 * id) R
        have h2 := ih (2 * id + 1) (intoR l a b h (2 * id) R)
        omega
      · simp
/-- at most two a depth -/
theorem cnt_le (l a b : Int) : ∀ (h : Nat) (k : Nat) (id : Int), Form l id k h →
    (cnt l a b h id ≤ 1 ∨ cnt l a b h id ≤ 2 * h) ∧ (hiN l id < a → cnt l a b h id = 0) ∧ (b < loN l id → cnt l a b h id = 0) ∧ (a ≤ loN l id ∧ hiN l id ≤ b → cnt l a b h id = 1) ∧
    (¬ (a ≤ loN l id ∧ hiN l id ≤ b) → (hiN l id ≤ b → cnt l a b h id ≤ h) ∧ (a ≤ loN l id → cnt l a b h id ≤ h) ∧ cnt l a b h id ≤ 2 * h) := by
  intro h
  induction h with
  | zero =>
    intro k id f
    have e1 := f.2.2.2.2.1
    have e2 := f.2.2.2.2.2.1
    simp at e1 e2
    rw [cnt]
    split <;> omega
  | succ h ih =>
    intro k id f
    obtain ⟨⟨n1, f1⟩, ⟨n2, f2⟩, k1, k2, k3⟩ := kids_form f
    have i1 := ih _ _ f1
    have i2 := ih _ _ f2
    have b1 := node_bd n1
    have b2 := node_bd n2
    obtain ⟨c, hc, hv⟩ : ∃ c, cnt l a b (h + 1) id = c ∧ (((a ≤ loN l id ∧ hiN l id ≤ b) ∧ c = 1) ∨ (¬ (a ≤ loN l id ∧ hiN l id ≤ b) ∧ (loN l id ≤ b ∧ a ≤ hiN l id) ∧ c = cnt l a b h (2 * id) + cnt l a b h (2 * id + 1)) ∨ (¬ (a ≤ loN l id ∧ hiN l id ≤ b) ∧ ¬ (loN l id ≤ b ∧ a ≤ hiN l id) ∧ c = 0)) := by
      refine ⟨_, rfl, ?_⟩
      rw [cnt]
      split
      · exact .inl ⟨by assumption, rfl⟩
      · split
        · exact .inr (.inl ⟨by assumption, by assumption, rfl⟩)
        · exact .inr (.inr ⟨by assumption, by assumption, rfl⟩)
    rw [hc]
    clear hc ih
    generalize cnt l a b h (2 * id) = c1 at *
    generalize cnt l a b h (2 * id + 1) = c2 at *
    rcases hv with ⟨g, rfl⟩ | ⟨g, g', rfl⟩ | ⟨g, g', rfl⟩
    · omega
    · by_cases p1 : a ≤ loN l (2 * id) <;> by_cases p2 : hiN l (2 * id + 1) ≤ b <;> by_cases p3 : a ≤ loN l (2 * id + 1) <;> by_cases p4 : hiN l (2 * id) ≤ b <;> omega
    · omega
theorem into_good {l a b : Int} : ∀ (h : Nat) (k : Nat) (id : Int) (R : List Int), Form l id k h → Node l id → Stack l R → (∀ t ∈ R, hiN l t < a ∨ hiN l t < loN l id) → a ≤ b →
    Stack l (intoR l a b h id R) ∧ (∀ x, Held l (intoR l a b h id R) x ↔ Held l R x ∨ (loN l id ≤ x ∧ x ≤ hiN l id ∧ a ≤ x ∧ x ≤ b)) ∧
    tot l (intoR l a b h id R) = tot l R + max 0 (min (hiN l id) b - max (loN l id) a + 1) := by
  intro h
  induction h with
  | zero =>
    intro k id R f hn hs hb hab
    have e1 := f.2.2.2.2.1
    have e2 := f.2.2.2.2.2.1
    simp at e1 e2
    rw [intoR]
    split
    · rename_i hc
      obtain ⟨p1, p2, p3⟩ := put_good R id hs hn (fun t ht => by have := hb t ht; omega)
      exact ⟨p1, fun x => by rw [p2]; constructor <;> rintro (g | g) <;> first | exact .inl g | exact .inr (by omega), by rw [p3]; omega⟩
    · exact ⟨hs, fun x => ⟨.inl, by rintro (g | g); exact g; omega⟩, by omega⟩
  | succ h ih =>
    intro k id R f hn hs hb hab
    obtain ⟨⟨n1, f1⟩, ⟨n2, f2⟩, k1, k2, k3⟩ := kids_form f
    have b1 := node_bd n1
    have b2 := node_bd n2
    rw [intoR]
    split
    · rename_i hc
      obtain ⟨p1, p2, p3⟩ := put_good R id hs hn (fun t ht => by have := hb t ht; omega)
      exact ⟨p1, fun x => by rw [p2]; constructor <;> rintro (g | g) <;> first | exact .inl g | exact .inr (by omega), by rw [p3]; omega⟩
    · split
      · obtain ⟨p1, p2, p3⟩ := ih _ (2 * id) R f1 n1 hs (fun t ht => by have := hb t ht; omega) hab
        obtain ⟨q1, q2, q3⟩ := ih _ (2 * id + 1) (intoR l a b h (2 * id) R) f2 n2 p1 (fun t ht => by
          have g := (p2 _).1 (held_hi p1.1 ht)
          rcases g with ⟨u, hu, g⟩ | g
          · have := hb u hu; omega
          · omega) hab
        refine ⟨q1, fun x => ?_, by rw [q3, p3]; omega⟩
        rw [q2, p2]
        constructor
        · rintro ((g | g) | g)
          · exact .inl g
          · exact .inr (by omega)
          · exact .inr (by omega)
        · rintro (g | g)
          · exact .inl (.inl g)
          · by_cases hx : x ≤ hiN l (2 * id)
            · exact .inl (.inr (by omega))
            · exact .inr (by omega)
      · exact ⟨hs, fun x => ⟨.inl, by rintro (g | g); exact g; omega⟩, by omega⟩

/-- where two ways up meet -/
theorem meet_anc : ∀ (k : Nat) (a b : Int), AtDep a k → AtDep b k → ∃ s : Nat, s ≤ k ∧ meetI a b = a / 2 ^ s ∧ a / 2 ^ s = b / 2 ^ s := by
  intro k
  induction k with
  | zero =>
    intro a b ha hb
    have h1 := dep_zero ha
    have h2 := dep_zero hb
    subst h1 h2
    exact ⟨0, Nat.le_refl _, by rw [meet_same 1 (by omega)]; simp, rfl⟩
  | succ k ih =>
    intro a b ha hb
    by_cases e : a = b
    · subst e
      exact ⟨0, by omega, by rw [meet_same a (by have := ha.1; have := two_pos (k + 1); omega)]; simp, rfl⟩
    · obtain ⟨s, hs, h1, h2⟩ := ih _ _ (dep_half ha) (dep_half hb)
      rw [half_div] at h1 h2
      rw [half_div] at h2
      exact ⟨s + 1, by omega, by rw [meet_both ha hb e, h1], h2⟩
theorem lay_top {l a b : Int} (ha : ValC l a) (hb : ValC l b) : ∃ k h : Nat, Form l (meetN (leafN l a) (leafN l b)) k h ∧ Node l (meetN (leafN l a) (leafN l b)) ∧ meetB (leafN l a) (leafN l b) = true ∧
    loN l (meetN (leafN l a) (leafN l b)) ≤ a ∧ a ≤ hiN l (meetN (leafN l a) (leafN l b)) ∧ loN l (meetN (leafN l a) (leafN l b)) ≤ b ∧ b ≤ hiN l (meetN (leafN l a) (leafN l b)) := by
  rw [(leaf_yes ha).1, (leaf_yes hb).1]
  obtain ⟨l1, l48, a0, a1⟩ := ha
  obtain ⟨_, _, b0, b1⟩ := hb
  have da : AtDep (2 ^ l.toNat + a) l.toNat := ⟨by omega, by omega⟩
  have db : AtDep (2 ^ l.toNat + b) l.toNat := ⟨by omega, by omega⟩
  have hp := two_pos l.toNat
  have hm := meet_yes (a := 2 ^ l.toNat + a) (b := 2 ^ l.toNat + b) ⟨by omega, by omega⟩
  obtain ⟨s, hs, h1, h2⟩ := meet_anc _ _ _ da db
  rw [hm.1, h1]
  have hd := dep_up da hs
  have hn := node_mk (l := l) (k := l.toNat - s) (j := s) (by omega) (by omega) (by omega) hd
  have e1 := div_bds (2 ^ l.toNat + a) (two_pos s)
  have e2 := div_bds (2 ^ l.toNat + b) (two_pos s)
  rw [← h2] at e2
  have f1 := hn.2.2.2.2.2.1
  have f2 := hn.2.2.2.2.2.2.1
  have e3 : l.toNat - s + s = l.toNat := by omega
  rw [e3] at f1 f2
  exact ⟨_, _, hn.2, hn.1, hm.2, by omega, by omega, by omega, by omega⟩
/-- the run from a to b is laid on the stack -/
def Laid (l a b : Int) (R R' : List Int) : Prop :=
  Stack l R' ∧ (∀ x, Held l R' x ↔ Held l R x ∨ (a ≤ x ∧ x ≤ b)) ∧ tot l R' = tot l R + max 0 (b - a + 1) ∧ R'.length ≤ R.length + 2 * l.toNat
theorem laid_none {l a b : Int} {R : List Int} (h : Stack l R) (hab : b < a) : Laid l a b R R :=
  ⟨h, fun x => ⟨.inl, by rintro (g | g); exact g; omega⟩, by omega, by omega⟩
theorem laid_into {l a b : Int} {R : List Int} {k h : Nat} {top : Int} (f : Form l top k h) (hn : Node l top) (hs : Stack l R) (hR : ∀ t ∈ R, hiN l t < a) (hab : a ≤ b) (h1 : loN l top ≤ a) (h2 : b ≤ hiN l top) :
    Laid l a b R (intoR l a b h top R) := by
  obtain ⟨p1, p2, p3⟩ := into_good h k top R f hn hs (fun t ht => .inl (hR t ht)) hab
  refine ⟨p1, fun x => ?_, by omega, ?_⟩
  · rw [p2]
    constructor <;> rintro (g | g) <;> first | exact .inl g | exact .inr (by omega)
  · have := into_len l a b h top R
    have := (cnt_le l a b h k top f).1
    have := f.1; have := f.2.2.1
    omega
theorem laid_cnt {l a b : Int} {k h : Nat} {top : Int} (f : Form l top k h) : cnt l a b h top ≤ 96 := by
  have := (cnt_le l a b h k top f).1
  have := f.1; have := f.2.1
  omega

end Go.Proofs.Ytjmglihdndknjaa
