/- Texts laid together: TiNum, TiNum2, TiNum3, TiMem2, TiNum4, Ti, Ti2, Ti3, TiRow, Ti4, Ti5, TiSame, TiRef, TiRef2, TiRef3, TiRef4, TiRef5. -/
import Derived.Test.YtnhagdlpidgkcaaGreatPln
import Derived.Test.YtnhagdlpidgkcaaGreatMmy
import Derived.Laws.Rows
import Derived.OneCell
import Derived.Test.YtnhagdlpidgkcaaGreatRkT
import Derived.Laws.EntriesVeiled
import Derived.Test.YtnhagdlpidgkcaaGreatSort
import Derived.StillTailTactics
import Derived.Sort.Grow
import Derived.Deep.QuietTactic
import Derived.BigQuiet
import Derived.Test.YtnhagdlpidgkcaaGreatRoQ
import Derived.IntWalk
import Derived.Laws.AppendOwnNone
import Derived.Deep.RegionHeld3
namespace Go.Proofs.YtnhagdlpidgkcaaGreat
set_option linter.unusedVariables false
theorem mul_up {x y d : Int} (h : x ≤ y) (hd : 0 < d) : x * d ≤ y * d := Int.mul_le_mul_of_nonneg_right h (Int.le_of_lt hd)
theorem mul_lt {x y d : Int} (h : x < y) (hd : 0 < d) : x * d + d ≤ y * d := by
  have := mul_up (show x + 1 ≤ y by omega) hd
  rw [Int.add_mul] at this; omega
theorem mul_inj {x y d : Int} (h : x * d = y * d) (hd : 0 < d) : x = y := by
  rcases Int.lt_trichotomy x y with g | g | g
  · have := mul_lt g hd; omega
  · exact g
  · have := mul_lt g hd; omega
/-- a node of the universe of l bits -/
def Node (l id : Int) : Prop := RightC l id ∧ id ≤ 9223372036854775807
/-- its depth is k, below it are j bits -/
def Form (l id : Int) (k j : Nat) : Prop := l = (k + j : Nat) ∧ k + j ≤ 48 ∧ 1 ≤ k + j ∧ AtDep id k ∧ loN l id = id * 2 ^ j - 2 ^ (k + j) ∧ hiN l id = id * 2 ^ j - 2 ^ (k + j) + 2 ^ j - 1 ∧ 1 ≤ id
theorem node_form {l id : Int} (h : Node l id) : ∃ k j : Nat, Form l id k j := by
  obtain ⟨k, j, e, el, hkj, h0, hd, hw⟩ := right_dep h.1 h.2
  have a := end_yes h.1
  rw [hw] at a
  have : l.toNat = k + j := by omega
  rw [this] at a
  exact ⟨k, j, el, hkj, h0, hd, a.1, by omega, h.1.2.2.1⟩
theorem node_mk {l id : Int} {k j : Nat} (hl : l = (k + j : Nat)) (h48 : k + j ≤ 48) (h1 : 1 ≤ k + j) (hd : AtDep id k) : Node l id ∧ Form l id k j := by
  have b := two_le k 48 (by omega)
  have hi : id ≤ 9223372036854775807 := by have := hd.2; omega
  have h0 : 1 ≤ id := by have := hd.1; have := two_pos k; omega
  have e := (dep_is hd hi).1
  have hn : Node l id := ⟨⟨by omega, by omega, h0, by omega⟩, hi⟩
  obtain ⟨k', j', f⟩ := node_form hn
  have : k' = k := dep_uniq f.2.2.2.1 hd
  subst this
  have : j' = j := by have := f.1; omega
  subst this
  exact ⟨hn, f⟩
theorem node_bd {l id : Int} (h : Node l id) : 0 ≤ loN l id ∧ loN l id ≤ hiN l id ∧ hiN l id < 2 ^ l.toNat ∧ hiN l id ≤ 281474976710655 ∧ 1 ≤ id := by
  obtain ⟨k, j, el, hkj, h0, hd, a, b, c⟩ := node_form h
  have hp := two_pos j
  have e : l.toNat = k + j := by omega
  have b1 := two_le (k + j) 48 hkj
  rw [e]
  have e1 := two_add k j
  obtain ⟨d1, d2⟩ := hd
  have g1 := mul_up d1 hp
  have g2 := mul_lt d2 hp
  rw [Int.mul_assoc] at g2
  rw [a, b]
  omega
/-- two nodes of one width that begin alike are one -/
theorem same_form {l a b : Int} {k j k' : Nat} (f : Form l a k j) (g : Form l b k' j) (h : loN l a = loN l b) : a = b := by
  have hk : k = k' := by have := f.1; have := g.1; omega
  subst hk
  have e1 := f.2.2.2.2.1
  have e2 := g.2.2.2.2.1
  exact mul_inj (d := 2 ^ j) (by omega) (two_pos j)
theorem wid_lt {i j : Nat} (h : (2 : Int) ^ i - 1 < 2 ^ j) : i ≤ j := by
  by_cases e : i ≤ j
  · exact e
  · have := two_le (j + 1) i (by omega)
    rw [two_succ] at this
    have := two_pos j
    omega
theorem same_ends {l a b : Int} (ha : Node l a) (hb : Node l b) (h1 : loN l a = loN l b) (h2 : hiN l a = hiN l b) : a = b := by
  obtain ⟨k, j, f⟩ := node_form ha
  obtain ⟨k', j', g⟩ := node_form hb
  have e : j = j' := by
    have := f.2.2.2.2.1; have := f.2.2.2.2.2.1; have := g.2.2.2.2.1; have := g.2.2.2.2.2.1
    have := wid_lt (i := j) (j := j') (by omega)
    have := wid_lt (i := j') (j := j) (by omega)
    omega
  subst e
  exact same_form f g h1
theorem two_sub {i j : Nat} (h : i ≤ j) : (2 : Int) ^ j = 2 ^ (j - i) * 2 ^ i := by rw [← two_add]; congr 1; omega
/-- a node that begins where a right child begins holds no more than it -/
theorem odd_top {l c b : Int} (hc : Node l c) (hb : Node l (2 * b + 1)) (h : loN l c = loN l (2 * b + 1)) : hiN l c ≤ hiN l (2 * b + 1) := by
  obtain ⟨k, j, f⟩ := node_form hc
  obtain ⟨k', j', g⟩ := node_form hb
  obtain ⟨el, _, _, _, a1, a2, a3⟩ := f
  obtain ⟨el', _, _, _, b1, b2, b3⟩ := g
  have e : k' + j' = k + j := by omega
  rw [e] at b1 b2
  rcases Nat.lt_or_ge j' j with d | d
  · exfalso
    have e1 := two_sub (Nat.le_of_lt d)
    have e3 : c * 2 ^ (j - j') * 2 ^ j' = (2 * b + 1) * 2 ^ j' := by rw [Int.mul_assoc, ← e1]; omega
    have e4 := mul_inj e3 (two_pos j')
    obtain ⟨i, hi⟩ : ∃ i, j - j' = i + 1 := ⟨j - j' - 1, by omega⟩
    rw [hi, two_succ, Int.mul_left_comm] at e4
    omega
  · have := two_le j j' d
    omega
/-- a node and its children -/
theorem kids_form {l id : Int} {k j : Nat} (f : Form l id k (j + 1)) : (Node l (2 * id) ∧ Form l (2 * id) (k + 1) j) ∧ (Node l (2 * id + 1) ∧ Form l (2 * id + 1) (k + 1) j) ∧
    loN l (2 * id) = loN l id ∧ hiN l (2 * id + 1) = hiN l id ∧ hiN l (2 * id) + 1 = loN l (2 * id + 1) := by
  obtain ⟨el, h48, h1, hd, a1, a2, a3⟩ := f
  have ⟨d1, d2⟩ := dep_kids hd
  have n1 := node_mk (l := l) (k := k + 1) (j := j) (by omega) (by omega) (by omega) d1
  have n2 := node_mk (l := l) (k := k + 1) (j := j) (by omega) (by omega) (by omega) d2
  have b1 := n1.2.2.2.2.2
  have b2 := n2.2.2.2.2.2
  have e : k + 1 + j = k + (j + 1) := by omega
  rw [e] at b1 b2
  have m0 : id * 2 ^ (j + 1) = 2 * (id * 2 ^ j) := by rw [two_succ, Int.mul_left_comm]
  have m1 : 2 * id * 2 ^ j = 2 * (id * 2 ^ j) := Int.mul_assoc ..
  have m2 : (2 * id + 1) * 2 ^ j = 2 * (id * 2 ^ j) + 2 ^ j := by rw [Int.add_mul, m1]; omega
  have m3 : (2 : Int) ^ (j + 1) = 2 * 2 ^ j := two_succ j
  rw [m0] at a1 a2
  rw [m1] at b1
  rw [m2] at b2
  rw [m3] at a2
  exact ⟨n1, n2, by omega, by omega, by omega⟩
/-- s lies ahead of t, and makes no pair with it -/
def Rel (l s t : Int) : Prop := hiN l s < loN l t ∧ ¬ (s % 2 = 0 ∧ t = s + 1)
def Nodes (l : Int) (T : List Int) : Prop := ∀ t ∈ T, Node l t
def TiGood (l : Int) (T : List Int) : Prop := Nodes l T ∧ T.Pairwise (Rel l)
def Held (l : Int) (T : List Int) (x : Int) : Prop := ∃ t ∈ T, loN l t ≤ x ∧ x ≤ hiN l t
theorem held_nil (l x : Int) : ¬ Held l [] x := fun ⟨t, h, _⟩ => by simp at h
theorem held_cons (l a : Int) (T : List Int) (x : Int) : Held l (a :: T) x ↔ (loN l a ≤ x ∧ x ≤ hiN l a) ∨ Held l T x := by
  unfold Held; simp
theorem held_hi {l : Int} {T : List Int} (h : Nodes l T) {t : Int} (ht : t ∈ T) : Held l T (hiN l t) := ⟨t, ht, (node_bd (h t ht)).2.1, Int.le_refl _⟩
theorem good_tail {l a : Int} {T : List Int} (h : TiGood l (a :: T)) : Node l a ∧ TiGood l T ∧ (∀ t ∈ T, Rel l a t) :=
  ⟨h.1 a (by simp), ⟨fun t ht => h.1 t (by simp [ht]), (List.pairwise_cons.1 h.2).2⟩, (List.pairwise_cons.1 h.2).1⟩
/-- where a list of that kind begins as a node and holds all that it holds, its first node is no less -/
theorem first_cover (l : Int) : ∀ (j : Nat) (k : Nat) (B : Int), Form l B k j → Node l B → ∀ (A : Int) (R : List Int), TiGood l (A :: R) → loN l A = loN l B → (∀ x, loN l B ≤ x → x ≤ hiN l B → Held l (A :: R) x) → hiN l B ≤ hiN l A := by
  intro j
  induction j with
  | zero =>
    intro k B f hB A R hg h hc
    have := f.2.2.2.2.1
    have := f.2.2.2.2.2.1
    have := node_bd (hg.1 A (by simp))
    simp at *
    omega
  | succ j ih =>
    intro k B f hB A R hg h hc
    obtain ⟨⟨nL, fL⟩, ⟨nR, fR⟩, e1, e2, e3⟩ := kids_form f
    obtain ⟨nA, gR, rA⟩ := good_tail hg
    have bL := node_bd nL
    have bR := node_bd nR
    have i1 := ih (k + 1) (2 * B) fL nL A R hg (by omega) (fun x g1 g2 => hc x (by omega) (by omega))
    rcases Int.lt_or_le (hiN l A) (hiN l B) with hlt | hge
    · exfalso
      -- the first node is the left child
      have hA : A = 2 * B := by
        obtain ⟨kA, jA, fA⟩ := node_form nA
        have q1 := fA.2.2.2.2.1
        have q2 := fA.2.2.2.2.2.1
        have q3 := f.2.2.2.2.1
        have q4 := f.2.2.2.2.2.1
        have q5 := fL.2.2.2.2.1
        have q6 := fL.2.2.2.2.2.1
        have hj1 : jA < j + 1 := two_lt (by omega)
        have hj2 : j ≤ jA := wid_lt (by omega)
        have : jA = j := by omega
        subst this
        exact same_form fA fL (by omega)
      subst hA
      have hx := hc (loN l (2 * B + 1)) (by omega) (by omega)
      rw [held_cons] at hx
      rcases hx with hx | ⟨t, ht, hx⟩
      · omega
      · cases R with
        | nil => simp at ht
        | cons C R =>
          obtain ⟨nC, gC, rC⟩ := good_tail gR
          have hAC := rA C (by simp)
          have hle : loN l C ≤ loN l t := by
            rcases List.mem_cons.1 ht with rfl | hm
            · exact Int.le_refl _
            · have := rC t hm; have := this.1; have := node_bd nC; omega
          have hlo : loN l C = loN l (2 * B + 1) := by have := hAC.1; omega
          have i2 := ih (k + 1) (2 * B + 1) fR nR C R gR hlo (fun x g1 g2 => by
            have := hc x (by omega) (by omega)
            rw [held_cons] at this
            rcases this with g | g
            · omega
            · exact g)
          have i3 := odd_top nC nR hlo
          have := same_ends nC nR hlo (by omega)
          exact hAC.2 ⟨by omega, this⟩
    · exact hge
/-- a list of that kind is told by the values that it holds -/
theorem uniq {l : Int} : ∀ {T T' : List Int}, TiGood l T → TiGood l T' → (∀ x, Held l T x ↔ Held l T' x) → T = T' := by
  intro T
  induction T with
  | nil =>
    intro T' h h' e
    cases T' with
    | nil => rfl
    | cons B R =>
      exact absurd ((e _).2 (held_hi h'.1 (List.mem_cons_self ..))) (held_nil _ _)
  | cons A R ih =>
    intro T' h h' e
    cases T' with
    | nil => exact absurd ((e _).1 (held_hi h.1 (List.mem_cons_self ..))) (held_nil _ _)
    | cons B R' =>
      obtain ⟨nA, gR, rA⟩ := good_tail h
      obtain ⟨nB, gR', rB⟩ := good_tail h'
      have bA := node_bd nA
      have bB := node_bd nB
      have lo1 : loN l B ≤ loN l A := by
        obtain ⟨t, ht, g⟩ := (e (loN l A)).1 ((held_cons ..).2 (.inl ⟨by omega, by omega⟩))
        rcases List.mem_cons.1 ht with rfl | hm
        · omega
        · have := (rB t hm).1; omega
      have lo2 : loN l A ≤ loN l B := by
        obtain ⟨t, ht, g⟩ := (e (loN l B)).2 ((held_cons ..).2 (.inl ⟨by omega, by omega⟩))
        rcases List.mem_cons.1 ht with rfl | hm
        · omega
        · have := (rA t hm).1; omega
      have lo : loN l A = loN l B := by omega
      obtain ⟨kA, jA, fA⟩ := node_form nA
      obtain ⟨kB, jB, fB⟩ := node_form nB
      have h1 := first_cover l jB kB B fB nB A R h lo (fun x g1 g2 => (e x).2 ((held_cons ..).2 (.inl ⟨g1, g2⟩)))
      have h2 := first_cover l jA kA A fA nA B R' h' lo.symm (fun x g1 g2 => (e x).1 ((held_cons ..).2 (.inl ⟨g1, g2⟩)))
      have hAB := same_ends nA nB lo (by omega)
      subst hAB
      congr 1
      refine ih gR gR' fun x => ?_
      constructor
      · intro hx
        have := (e x).1 ((held_cons ..).2 (.inr hx))
        rw [held_cons] at this
        rcases this with g | g
        · obtain ⟨t, ht, g'⟩ := hx
          have := (rA t ht).1; omega
        · exact g
      · intro hx
        have := (e x).2 ((held_cons ..).2 (.inr hx))
        rw [held_cons] at this
        rcases this with g | g
        · obtain ⟨t, ht, g'⟩ := hx
          have := (rB t ht).1; omega
        · exact g
/-- how many values the nodes hold, each by itself -/
def tot (l : Int) : List Int → Int
  | [] => 0
  | t :: T => (hiN l t - loN l t + 1) + tot l T
def cnt (l a b : Int) : Nat → Int → Nat
  | 0, id => if a ≤ loN l id ∧ hiN l id ≤ b then 1 else 0
  | h + 1, id => if a ≤ loN l id ∧ hiN l id ≤ b then 1 else if loN l id ≤ b ∧ a ≤ hiN l id then cnt l a b h (2 * id) + cnt l a b h (2 * id + 1) else 0
end Go.Proofs.YtnhagdlpidgkcaaGreat
namespace Go.Proofs.YtnhagdlpidgkcaaGreat
set_option linter.unusedVariables false
end Go.Proofs.YtnhagdlpidgkcaaGreat
namespace Go.Proofs.YtnhagdlpidgkcaaGreat
set_option linter.unusedVariables false
abbrev Rn := Int × Int
end Go.Proofs.YtnhagdlpidgkcaaGreat
namespace Go.Proofs.YtnhagdlpidgkcaaGreat
set_option linter.unusedVariables false
open Go.RowKit
def pairs : List Rn → List Value
  | [] => []
  | r :: L => .int .i64 r.1 :: .int .i64 r.2 :: pairs L
theorem pairs_app (L M : List Rn) : pairs (L ++ M) = pairs L ++ pairs M := by
  induction L with
  | nil => simp [pairs]
  | cons r L ih => simp [pairs, ih]
def rz : Rn := (0, 0)
theorem pairs_get : ∀ (L : List Rn) (k : Nat), k < L.length → (pairs L)[k * 2]? = some (.int .i64 (L.getD k rz).1) ∧ (pairs L)[k * 2 + 1]? = some (.int .i64 (L.getD k rz).2) := by
  intro L
  induction L with
  | nil => intro k h; simp at h
  | cons r L ih =>
    intro k h
    cases k with
    | zero => simp [pairs]
    | succ k =>
      have := ih k (by simp at h; omega)
      have e1 : (k + 1) * 2 = k * 2 + 1 + 1 := by omega
      rw [e1]
      simp only [pairs, List.getElem?_cons_succ, List.getD_cons_succ]
      exact this
def OwnP (e : TypeId) (w : World) (B : Nat) (v : Value) (L : List Rn) : Prop := w.ownsRow B e 2 v L.length (pairs L)
theorem ownP_nil (e : TypeId) (w : World) (B : Nat) : OwnP e w B (.slice none 0 0) [] := World.ownsRow_nil w B e 2
theorem ownP_snoc {e : TypeId} {w : World} {B : Nat} {v : Value} {L : List Rn} {x y : Int} (h : w.ownsRow B e 2 v (L.length + 1) (pairs L ++ [.int .i64 x, .int .i64 y])) : OwnP e w B v (L ++ [(x, y)]) := by
  unfold OwnP
  rw [pairs_app, List.length_append]
  exact h
/-- a slice of runs that is only read -/
def RunsAt (w : World) (v : Value) (L : List Rn) : Prop := ∃ A c, v = .slice A L.length c ∧ (0 < L.length → ∃ b o, A = some ⟨b, o, none⟩ ∧ b < w.heap.size ∧ ∀ k, k < L.length → w.cell? ⟨b, o + k * 2, none⟩ = some (.int .i64 (L.getD k rz).1) ∧ w.cell? ⟨b, o + k * 2 + 1, none⟩ = some (.int .i64 (L.getD k rz).2))
theorem RunsAt.below {w w' : World} {v : Value} {L : List Rn} (h : RunsAt w v L) (hb : Below w.heap.size w w') : RunsAt w' v L := by
  obtain ⟨A, c, e, hc⟩ := h
  refine ⟨A, c, e, fun h0 => ?_⟩
  obtain ⟨b, o, ea, hlt, hk⟩ := hc h0
  exact ⟨b, o, ea, Nat.lt_of_lt_of_le hlt hb.size, fun k hk' => ⟨(hb.cell (p := ⟨b, o + k * 2, none⟩) hlt).trans (hk k hk').1, (hb.cell (p := ⟨b, o + k * 2 + 1, none⟩) hlt).trans (hk k hk').2⟩⟩
theorem runs_cells {w : World} {A : Option Addr} {m c : Nat} {L : List Rn} (h : RunsAt w (.slice A m c) L) : m = L.length ∧ (0 < L.length → ∃ b o, A = some ⟨b, o, none⟩ ∧ b < w.heap.size ∧ ∀ k, k < L.length → w.cell? ⟨b, o + k * 2, none⟩ = some (.int .i64 (L.getD k rz).1) ∧ w.cell? ⟨b, o + k * 2 + 1, none⟩ = some (.int .i64 (L.getD k rz).2)) := by
  obtain ⟨A', c', e, hc⟩ := h
  injection e with e1 e2 e3
  subst e1
  exact ⟨e2, hc⟩
theorem ownP_runs {e : TypeId} {w : World} {B : Nat} {v : Value} {L : List Rn} (h : OwnP e w B v L) : RunsAt w v L := by
  have hf := h
  rcases h.2 with ⟨hv, h0⟩ | ⟨g, cap, cur, hv, hb, hg, hn, hc, _⟩
  · exact ⟨none, 0, by rw [hv, h0], fun h => by omega⟩
  · subst hv
    refine ⟨_, cap, rfl, fun h0 => ⟨g, 0, rfl, (hf.lt g rfl).2, fun k hk => ?_⟩⟩
    have a := World.ownsRow.cellAt hf (k * 2) (by omega)
    have b := World.ownsRow.cellAt hf (k * 2 + 1) (by omega)
    have c := pairs_get L k hk
    rw [Nat.zero_add, a, b]
    exact c
/-- two rows of the call's own, and a box -/
structure WithAt (e : TypeId) (N : Nat) (w0 w : World) (va vb : Value) (x : Rn) (A B : List Rn) : Prop where
  a : OwnP e w (N + 1) va A
  b : OwnP e w (N + 1) vb B
  ne : va.ownBlock = none ∨ va.ownBlock ≠ vb.ownBlock
  box : w.heap[N]? = some (.cells #[.int .i64 x.1, .int .i64 x.2] e (0, 0))
  below : Below N w0 w
  room : N + 1 ≤ w.heap.size
theorem WithAt.drew {e : TypeId} {N : Nat} {w0 w : World} {va vb : Value} {x : Rn} {A B : List Rn} (h : WithAt e N w0 w va vb x A B) (q : Nat) : WithAt e N w0 (w.drewN q) va vb x A B :=
  ⟨h.a, h.b, h.ne, h.box, drewN_below h.below q, h.room⟩
theorem WithAt.cells {e : TypeId} {N : Nat} {w0 w : World} {va vb : Value} {x : Rn} {A B : List Rn} (h : WithAt e N w0 w va vb x A B) :
    w.cell? ⟨N, 0, none⟩ = some (.int .i64 x.1) ∧ w.cell? ⟨N, 1, none⟩ = some (.int .i64 x.2) ∧ w.frozen? ⟨N, 0, none⟩ = false ∧ w.frozen? ⟨N, 1, none⟩ = false := by
  have := h.box
  refine ⟨?_, ?_, ?_, ?_⟩ <;> simp [World.cell?, World.frozen?, this]
theorem WithAt.far {e : TypeId} {N : Nat} {w0 w : World} {va vb : Value} {x : Rn} {A B : List Rn} (h : WithAt e N w0 w va vb x A B) : va.ownBlock ≠ some N ∧ vb.ownBlock ≠ some N :=
  ⟨fun g => by have := (World.ownsRow.lt h.a N g).1; omega, fun g => by have := (World.ownsRow.lt h.b N g).1; omega⟩
theorem WithAt.set0 {e : TypeId} {N : Nat} {w0 w : World} {va vb : Value} {x : Rn} {A B : List Rn} (h : WithAt e N w0 w va vb x A B) (y : Int) : WithAt e N w0 (w.setCell ⟨N, 0, none⟩ (.int .i64 y)) va vb (y, x.2) A B :=
  ⟨ownsRow_setCell_other h.a h.far.1 _, ownsRow_setCell_other h.b h.far.2 _, h.ne, by rw [heap_setCell_same _ _ _ _ _ _ h.box]; rfl, h.below.setCell (Nat.le_refl _) _, by simpa using h.room⟩
theorem WithAt.set1 {e : TypeId} {N : Nat} {w0 w : World} {va vb : Value} {x : Rn} {A B : List Rn} (h : WithAt e N w0 w va vb x A B) (y : Int) : WithAt e N w0 (w.setCell ⟨N, 1, none⟩ (.int .i64 y)) va vb (x.1, y) A B :=
  ⟨ownsRow_setCell_other h.a h.far.1 _, ownsRow_setCell_other h.b h.far.2 _, h.ne, by rw [heap_setCell_same _ _ _ _ _ _ h.box]; rfl, h.below.setCell (Nat.le_refl _) _, by simpa using h.room⟩
theorem WithAt.start (e : TypeId) (w : World) (x y : Int) : WithAt e w.heap.size w (w.alloc (.cells #[.int .i64 x, .int .i64 y] e)) (.slice none 0 0) (.slice none 0 0) (x, y) [] [] :=
  ⟨ownP_nil .., ownP_nil .., .inl rfl, heap_alloc_new w _, (Below.refl _ _).alloc (Nat.le_refl _) _, by simp⟩
end Go.Proofs.YtnhagdlpidgkcaaGreat
namespace Go.Proofs.YtnhagdlpidgkcaaGreat
set_option linter.unusedVariables false
end Go.Proofs.YtnhagdlpidgkcaaGreat
namespace Go.Proofs.YtnhagdlpidgkcaaGreat
set_option linter.unusedVariables false
open Go.RowKit
end Go.Proofs.YtnhagdlpidgkcaaGreat
namespace Go.Proofs.YtnhagdlpidgkcaaGreat
set_option linter.unusedVariables false
open Go.RowKit
end Go.Proofs.YtnhagdlpidgkcaaGreat
namespace Go.Proofs.YtnhagdlpidgkcaaGreat
set_option linter.unusedVariables false
open Go.RowKit
def Bds (T : List Int) : Prop := ∀ t ∈ T, -9223372036854775808 ≤ t ∧ t ≤ 9223372036854775807
theorem bds_at {T : List Int} (h : Bds T) {k : Nat} (hk : k < T.length) : -9223372036854775808 ≤ T.getD k 0 ∧ T.getD k 0 ≤ 9223372036854775807 := h _ (getD_mem hk)
end Go.Proofs.YtnhagdlpidgkcaaGreat
namespace Go.Proofs.YtnhagdlpidgkcaaGreat
set_option linter.unusedVariables false
set_option maxRecDepth 100000
open Go.RowKit Go.Sort
end Go.Proofs.YtnhagdlpidgkcaaGreat
namespace Go.Proofs.YtnhagdlpidgkcaaGreat
set_option linter.unusedVariables false
set_option maxRecDepth 100000
open Go.RowKit Go.Sort Go.Lib Go.Shelf
end Go.Proofs.YtnhagdlpidgkcaaGreat
namespace Go.Proofs.YtnhagdlpidgkcaaGreat
set_option linter.unusedVariables false
set_option maxRecDepth 100000
open Go.RowKit Go.Sort Go.Lib Go.Shelf
end Go.Proofs.YtnhagdlpidgkcaaGreat
namespace Go.Proofs.YtnhagdlpidgkcaaGreat
set_option linter.unusedVariables false
open Go.RowKit
theorem same5_not {T T' : List Int} {k : Nat} (hk : k < T.length) (hk' : k < T'.length) (h : T.getD k 0 ≠ T'.getD k 0) : decide (T = T') = false :=
  decide_eq_false fun e => h (by rw [e])
theorem same5_yes {T T' : List Int} {n : Nat} (h1 : T.length = n) (h2 : T'.length = n) (h : T.take n = T'.take n) : decide (T = T') = true :=
  decide_eq_true (by rwa [List.take_of_length_le (by omega), List.take_of_length_le (by omega)] at h)
set_option maxHeartbeats 800000 in
theorem same5_any (A A' : Option Addr) (n n' c c' : Nat) (T T' : List Int) (w : World) (h : IntsAt w (.slice A n c) T) (h' : IntsAt w (.slice A' n' c') T') (hn : n ≤ 1000000) (hn' : n' ≤ 1000000) :
    Calls Tryz.prog 13 #[.slice A n c, .slice A' n' c'] w fun e w' => e = .returned (.bool (decide (T = T'))) ∧ Below w.heap.size w w' := by
  have HL := Lib.hid (ints_cells h).1
  have HL' := Lib.hid (ints_cells h').1
  have HC := Lib.hid (ints_cells h).2
  have HC' := Lib.hid (ints_cells h').2
  clear h h'
  by_cases hnn : n = n'
  · subst hnn
    go_enter Tryz.func13, Tryz.ntmps13
    go_wp2_with fail
    go_loopw [5] (fun i wr => ∃ k : Nat, k ≤ n ∧ i = .int .i64 k ∧ T.take k = T'.take k ∧ Below w.heap.size w wr) (fun i _ => n - (intOf i).toNat)
    case atStart => exact ⟨0, by omega, rfl, rfl, Below.refl ..⟩
    case round =>
      rename_i wr
      obtain ⟨k, hk, rfl, heq, hb⟩ := hrel
      have HE := Lib.hid heq
      clear heq
      by_cases hlt : k < n
      · have hk2 : k < T.length := by have := HL.out; omega
        have hk3 : k < T'.length := by have := HL'.out; omega
        obtain ⟨b, o, rfl, hbl, hcell⟩ := HC.out (by omega)
        obtain ⟨b', o', rfl, hbl', hcell'⟩ := HC'.out (by omega)
        have e0 : wr.cell? ⟨b, o + k, none⟩ = some (.int .i64 (T.getD k 0)) := (hb.cell (p := ⟨b, o + k, none⟩) hbl).trans (hcell k hk2)
        have e1 : wr.cell? ⟨b', o' + k, none⟩ = some (.int .i64 (T'.getD k 0)) := (hb.cell (p := ⟨b', o' + k, none⟩) hbl').trans (hcell' k hk3)
        have htk := Lib.hid (take_at hk2)
        have htk' := Lib.hid (take_at hk3)
        have hnot := Lib.hid (same5_not hk2 hk3)
        clear hcell hcell'
        generalize T.getD k 0 = t at *
        generalize T'.getD k 0 = t' at *
        by_cases ht : t = t'
        · subst ht
          go_wp2_with fail
          go_quiet (fail)
          go_wp2_with fail
          go_roundw
          case rel => exact ⟨k + 1, by omega, by go_num, by rw [htk.out, htk'.out, HE.out], drewN_below hb _⟩
          case measure => simp [intOf]; omega
        · have hq : (t != t') = true := by simpa using ht
          have HN := Lib.hid (hnot.out ht)
          clear ht
          go_wp2_with fail
          go_quiet (fail)
          go_wp2_with fail
          go_ret
          exact ⟨by rw [HN.out]; rfl, drewN_below hb _⟩
      · have e : k = n := by omega
        subst e
        go_wp2_with fail
        go_ret
        exact ⟨by rw [same5_yes HL.out.symm HL'.out.symm HE.out]; rfl, hb⟩
  · have hd : ((n : Int) != (n' : Int)) = true := bne_iff_ne.2 (by omega)
    have HD : Hid (decide (T = T') = false) := decide_eq_false fun e => hnn (by rw [HL.out, HL'.out, e])
    clear hnn
    go_enter Tryz.func13, Tryz.ntmps13
    go_wp2_with fail
    go_ret
    exact ⟨by rw [HD]; rfl, Below.refl ..⟩
end Go.Proofs.YtnhagdlpidgkcaaGreat
namespace Go.Proofs.YtnhagdlpidgkcaaGreat
set_option linter.unusedVariables false
set_option maxRecDepth 100000
open Go.RowKit
end Go.Proofs.YtnhagdlpidgkcaaGreat
namespace Go.Proofs.YtnhagdlpidgkcaaGreat
set_option linter.unusedVariables false
set_option maxRecDepth 100000
open Go.RowKit
end Go.Proofs.YtnhagdlpidgkcaaGreat
namespace Go.Proofs.YtnhagdlpidgkcaaGreat
set_option linter.unusedVariables false
set_option maxRecDepth 100000
open Go.RowKit
end Go.Proofs.YtnhagdlpidgkcaaGreat
namespace Go.Proofs.YtnhagdlpidgkcaaGreat
set_option linter.unusedVariables false
set_option maxRecDepth 100000
open Go.RowKit
end Go.Proofs.YtnhagdlpidgkcaaGreat
namespace Go.Proofs.YtnhagdlpidgkcaaGreat
set_option linter.unusedVariables false
set_option maxRecDepth 100000
open Go.RowKit
end Go.Proofs.YtnhagdlpidgkcaaGreat
