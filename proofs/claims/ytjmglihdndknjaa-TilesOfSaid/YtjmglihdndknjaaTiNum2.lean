/- Plain facts on what package tiles tells of lists of nodes: joined, the rest, whether they lie one behind the other. No program is spoken of here. -/
import Derived.Test.YtjmglihdndknjaaTiNum
namespace Go.Proofs.Ytjmglihdndknjaa
set_option linter.unusedVariables false

theorem node_end {l t : Int} (h1 : t ≤ 9223372036854775807) : endB l t = true ↔ Node l t := by
  constructor
  · intro h
    by_cases g : RightC l t
    · exact ⟨g, h1⟩
    · rw [(end_no g).2.2] at h; simp at h
  · intro h; exact (end_yes h.1).2.2
theorem node_of_end {l t : Int} (h : endB l t = true) (h1 : t ≤ 9223372036854775807) : Node l t := (node_end h1).1 h
theorem right_one (l : Int) : rightB l 1 = uniB l := by
  have e : logN 1 = 0 := (dep_is (id := 1) (k := 0) ⟨by simp, by simp⟩ (by omega)).1
  by_cases h : 1 ≤ l ∧ l ≤ 48
  · rw [uni_yes h, right_yes ⟨h.1, h.2, by omega, by omega⟩]
  · rw [uni_no h, right_no fun g => h ⟨g.1, g.2.1⟩]
theorem node_uni {l t : Int} (h : Node l t) : uniB l = true := uni_yes ⟨h.1.1, h.1.2.1⟩
theorem top_node {l : Int} (h : 1 ≤ l ∧ l ≤ 48) : Node l 1 ∧ loN l 1 = 0 ∧ hiN l 1 = 2 ^ l.toNat - 1 := by
  obtain ⟨hn, f⟩ := node_mk (l := l) (id := 1) (k := 0) (j := l.toNat) (by omega) (by omega) (by omega) ⟨by simp, by simp⟩
  have a := f.2.2.2.2.1
  have b := f.2.2.2.2.2.1
  simp at a b
  exact ⟨hn, by omega, by omega⟩

/-! ### one behind the other -/
def ordF (l : Int) : Int → List Int → Bool
  | _, [] => uniB l
  | nx, t :: T => endB l t && decide (nx ≤ loN l t) && ordF l (hiN l t + 1) T
theorem ordF_no {l nx t : Int} {T : List Int} (h : endB l t = false ∨ loN l t < nx) : ordF l nx (t :: T) = false := by
  rw [ordF]
  rcases h with h | h
  · simp [h]
  · have : decide (nx ≤ loN l t) = false := decide_eq_false (by omega)
    simp [this]
theorem ordF_go {l nx t : Int} {T : List Int} (h : endB l t = true) (h2 : nx ≤ loN l t) : ordF l nx (t :: T) = ordF l (hiN l t + 1) T := by
  rw [ordF, h, decide_eq_true h2]; rfl
theorem ordF_good {l : Int} {T : List Int} (h : Good l T) (hl : 1 ≤ l ∧ l ≤ 48) : ∀ nx, (∀ t ∈ T, nx ≤ loN l t) → ordF l nx T = true := by
  induction T with
  | nil => intro nx _; exact uni_yes hl
  | cons t T ih =>
    intro nx hx
    obtain ⟨n, g, r⟩ := good_tail h
    rw [ordF_go (end_yes n.1).2.2 (hx t (by simp))]
    exact ih g _ fun u hu => by have := (r u hu).1; omega
def heldB (l : Int) (T : List Int) (x : Int) : Bool := T.any fun t => decide (loN l t ≤ x) && decide (x ≤ hiN l t)
theorem heldB_iff (l : Int) (T : List Int) (x : Int) : heldB l T x = true ↔ Held l T x := by
  unfold heldB Held; simp

/-! ### joined -/
/-- of a row that is sorted by the least values, of such that begin alike the highest first -/
def Before (l s t : Int) : Prop := loN l s < loN l t ∨ (loN l s = loN l t ∧ s ≤ t)
def JoinInv (l : Int) (P R : List Int) (nx : Int) : Prop :=
  Stack l R ∧ (∀ x, Held l R x ↔ Held l P x) ∧ R.length ≤ P.length ∧ (∀ p ∈ P, hiN l p < nx) ∧ (nx = 0 ∨ ∃ p ∈ P, nx = hiN l p + 1)
theorem join_start (l : Int) : JoinInv l [] [] 0 := ⟨⟨fun t h => by simp at h, List.Pairwise.nil⟩, fun x => Iff.rfl, by simp, fun p h => by simp at h, .inl rfl⟩
theorem held_snoc (l : Int) (P : List Int) (t x : Int) : Held l (P ++ [t]) x ↔ Held l P x ∨ (loN l t ≤ x ∧ x ≤ hiN l t) := by
  rw [held_app, held_cons]
  constructor <;> rintro (h | h)
  · exact .inl h
  · rcases h with h | h
    · exact .inr h
    · exact absurd h (held_nil l x)
  · exact .inl h
  · exact .inr (.inl h)
theorem join_put {l : Int} {P R : List Int} {nx t : Int} (h : JoinInv l P R nx) (hP : Nodes l P) (ht : Node l t) (hx : nx ≤ loN l t) : JoinInv l (P ++ [t]) (putR R t) (hiN l t + 1) := by
  obtain ⟨h1, h2, h3, h4, h5⟩ := h
  have hb : ∀ u ∈ R, hiN l u < loN l t := fun u hu => by
    obtain ⟨q, hq, g⟩ := (h2 _).1 (held_hi h1.1 hu)
    have := h4 q hq; omega
  obtain ⟨p1, p2, p3⟩ := put_good R t h1 ht hb
  refine ⟨p1, fun x => by rw [p2, held_snoc, h2], by have := putR_len R t; simp; omega, fun p hp => ?_, .inr ⟨t, by simp, rfl⟩⟩
  have := node_bd ht
  rcases List.mem_append.1 hp with hp | hp
  · have := h4 p hp; omega
  · simp at hp; subst hp; omega
theorem join_skip {l : Int} {P R : List Int} {nx t : Int} (h : JoinInv l P R nx) (hP : Nodes l P) (ht : Node l t) (hs : ∀ p ∈ P, Before l p t) (hx : loN l t < nx) : JoinInv l (P ++ [t]) R nx := by
  obtain ⟨h1, h2, h3, h4, h5⟩ := h
  have bt := node_bd ht
  rcases h5 with h5 | ⟨p, hp, h5⟩
  · omega
  have hn := hP p hp
  have hle : hiN l t ≤ hiN l p ∧ loN l p ≤ loN l t := by
    rcases hs p hp with g | ⟨g, g'⟩
    · rcases nest ht hn with q | q | q | q <;> omega
    · exact ⟨less_more hn ht g g', by omega⟩
  refine ⟨h1, fun x => ?_, by simp; omega, fun q hq => ?_, .inr ⟨p, by simp [hp], h5⟩⟩
  · rw [held_snoc, h2]
    exact ⟨.inl, fun g => g.elim id fun g => ⟨p, hp, by omega⟩⟩
  · rcases List.mem_append.1 hq with hq | hq
    · exact h4 q hq
    · simp at hq; subst hq; omega
theorem join_nx {l : Int} {P R : List Int} {nx : Int} (h : JoinInv l P R nx) (hP : Nodes l P) : 0 ≤ nx ∧ nx ≤ 281474976710656 := by
  rcases h.2.2.2.2 with e | ⟨p, hp, e⟩
  · omega
  · have := node_bd (hP p hp); omega

/-! ### the rest -/
def RestInv (l : Int) (P R : List Int) (nx : Int) : Prop :=
  Stack l R ∧ (∀ x, Held l R x ↔ (0 ≤ x ∧ x < nx) ∧ ¬ Held l P x) ∧ tot l R + tot l P = nx ∧ R.length ≤ P.length * 96 ∧ (∀ p ∈ P, hiN l p < nx) ∧ (nx = 0 ∨ ∃ p ∈ P, nx = hiN l p + 1)
theorem rest_start (l : Int) : RestInv l [] [] 0 := ⟨⟨fun t h => by simp at h, List.Pairwise.nil⟩, fun x => ⟨fun h => absurd h (held_nil l x), fun h => by omega⟩, rfl, by simp, fun p h => by simp at h, .inl rfl⟩
theorem rest_ahead {l : Int} {P R : List Int} {nx : Int} (h : RestInv l P R nx) : ∀ t ∈ R, hiN l t < nx := fun t ht => ((h.2.1 _).1 (held_hi h.1.1 ht)).1.2
theorem rest_step {l : Int} {P R R' : List Int} {nx t : Int} (h : RestInv l P R nx) (hP : Nodes l P) (ht : Node l t) (hb : ∀ p ∈ P, Rel l p t) (hL : Laid l nx (loN l t - 1) R R') : RestInv l (P ++ [t]) R' (hiN l t + 1) := by
  obtain ⟨h1, h2, h3, h4, h5, h6⟩ := h
  obtain ⟨k1, k2, k3, k4⟩ := hL
  have bt := node_bd ht
  have hl : l.toNat ≤ 48 := by have := ht.1.2.1; omega
  have hnx : 0 ≤ nx ∧ nx ≤ loN l t := by
    rcases h6 with e | ⟨p, hp, e⟩
    · omega
    · have := (hb p hp).1; have := node_bd (hP p hp); omega
  refine ⟨k1, fun x => ?_, by rw [k3, tot_app]; simp [tot]; omega, by simp; omega, fun p hp => ?_, .inr ⟨t, by simp, rfl⟩⟩
  · rw [k2, h2, held_snoc]
    constructor
    · rintro (⟨g1, g2⟩ | g)
      · exact ⟨by omega, fun q => q.elim g2 fun q => by omega⟩
      · refine ⟨by omega, fun q => q.elim (fun ⟨p, hp, q⟩ => ?_) fun q => by omega⟩
        have := h5 p hp; omega
    · rintro ⟨g1, g2⟩
      by_cases e : x < nx
      · exact .inl ⟨by omega, fun q => g2 (.inl q)⟩
      · by_cases e2 : x ≤ loN l t - 1
        · exact .inr (by omega)
        · exact absurd (.inr ⟨by omega, by omega⟩) g2
  · rcases List.mem_append.1 hp with hp | hp
    · have := (hb p hp).1; omega
    · simp at hp; subst hp; omega
theorem rest_nx {l : Int} {P R : List Int} {nx : Int} (h : RestInv l P R nx) (hP : Nodes l P) : 0 ≤ nx ∧ nx ≤ 2 ^ l.toNat := by
  rcases h.2.2.2.2.2 with e | ⟨p, hp, e⟩
  · have := two_pos l.toNat; omega
  · have := node_bd (hP p hp); omega
theorem rest_end {l : Int} {P R R' : List Int} {nx : Int} (h : RestInv l P R nx) (hP : Nodes l P) (hl : 1 ≤ l ∧ l ≤ 48) (hL : Laid l nx (2 ^ l.toNat - 1) R R') :
    Stack l R' ∧ (∀ x, Held l R' x ↔ (0 ≤ x ∧ x < 2 ^ l.toNat) ∧ ¬ Held l P x) ∧ tot l R' + tot l P = 2 ^ l.toNat ∧ R'.length ≤ P.length * 96 + 96 := by
  have hx := rest_nx h hP
  obtain ⟨h1, h2, h3, h4, h5, h6⟩ := h
  obtain ⟨k1, k2, k3, k4⟩ := hL
  refine ⟨k1, fun x => ?_, by omega, by omega⟩
  rw [k2, h2]
  constructor
  · rintro (⟨g1, g2⟩ | g)
    · exact ⟨by omega, g2⟩
    · refine ⟨by omega, fun ⟨p, hp, q⟩ => ?_⟩
      have := h5 p hp; omega
  · rintro ⟨g1, g2⟩
    by_cases e : x < nx
    · exact .inl ⟨by omega, g2⟩
    · exact .inr (by omega)

/-! ### a run, from left to right -/
/-- a list of that kind that holds a run is the one that is laid -/
theorem run_laid {l a b : Int} {T : List Int} (h : Good l T) (hT : ∀ x, Held l T x ↔ a ≤ x ∧ x ≤ b) (ha : ValC l a) (hb : ValC l b) (hab : a ≤ b) : T.length ≤ 2 * l.toNat ∧ tot l T = b - a + 1 := by
  obtain ⟨k, j, f, hn, _, t1, t2, t3, t4⟩ := lay_top ha hb
  obtain ⟨p1, p2, p3, p4⟩ := laid_into f hn (R := []) ⟨fun t h => by simp at h, List.Pairwise.nil⟩ (fun t h => by simp at h) hab t1 t4
  have e := uniq h (stack_good p1) (fun x => by
    rw [hT, held_rev, p2]
    exact ⟨.inr, fun g => g.elim (fun g => absurd g (held_nil l x)) id⟩)
  rw [e, tot_rev, p3]
  simp at p4 ⊢
  exact ⟨p4, by simp [tot]; omega⟩
def OfInv (l a b : Int) (T : List Int) (at_ : Int) : Prop :=
  Good l T ∧ (∀ x, Held l T x ↔ a ≤ x ∧ x < at_) ∧ a ≤ at_ ∧ at_ ≤ b + 1 ∧ (∀ t ∈ T, t % 2 = 0 → b < hiN l (t / 2))
theorem of_start {l a b : Int} (h : a ≤ b) : OfInv l a b [] a := ⟨⟨fun t h => by simp at h, List.Pairwise.nil⟩, fun x => ⟨fun g => absurd g (held_nil l x), fun g => by omega⟩, Int.le_refl _, by omega, fun t h => by simp at h⟩
theorem good_snoc {l : Int} {T : List Int} {t : Int} (h : Good l T) (ht : Node l t) (hr : ∀ s ∈ T, Rel l s t) : Good l (T ++ [t]) := by
  refine ⟨fun s hs => ?_, List.pairwise_append.2 ⟨h.2, by simp, fun s hs u hu => ?_⟩⟩
  · rcases List.mem_append.1 hs with hs | hs
    · exact h.1 s hs
    · simp at hs; subst hs; exact ht
  · simp at hu; subst hu; exact hr s hs
theorem of_step {l a b : Int} {T : List Int} {id : Int} (h : OfInv l a b T (loN l id)) (hn : Node l id) (hb : hiN l id ≤ b) (ho : id % 2 = 0 → b < hiN l (id / 2)) : OfInv l a b (T ++ [id]) (hiN l id + 1) := by
  obtain ⟨h1, h2, h3, h4, h5⟩ := h
  have bd := node_bd hn
  refine ⟨good_snoc h1 hn fun s hs => ⟨((h2 _).1 (held_hi h1.1 hs)).2, fun ⟨g1, g2⟩ => ?_⟩, fun x => ?_, by omega, by omega, fun t ht => ?_⟩
  · have := node_bd (h1.1 s hs)
    have := node_pair (h1.1 s hs) (by omega) g1
    have := h5 s hs g1
    subst g2
    omega
  · rw [held_snoc, h2]
    constructor
    · rintro (g | g) <;> omega
    · intro g
      by_cases e : x < loN l id
      · exact .inl (by omega)
      · exact .inr (by omega)
  · rcases List.mem_append.1 ht with ht | ht
    · exact h5 t ht
    · simp at ht; subst ht; exact ho
theorem of_len {l a b : Int} {T : List Int} {at_ : Int} (h : OfInv l a b T at_) (ha : ValC l a) (hb : ValC l b) : T.length ≤ 96 := by
  obtain ⟨h1, h2, h3, h4, h5⟩ := h
  by_cases e : at_ = a
  · subst e
    cases T with
    | nil => simp
    | cons t T => have := (h2 _).1 (held_hi h1.1 (List.mem_cons_self ..)); omega
  · have := (run_laid (a := a) (b := at_ - 1) h1 (fun x => by rw [h2]; omega) ha ⟨ha.1, ha.2.1, by have := ha.2.2.1; omega, by have := hb.2.2.2; omega⟩ (by omega)).1
    have := ha.2.1
    omega
theorem of_end {l a b : Int} {T : List Int} {at_ : Int} (h : OfInv l a b T at_) (e : b < at_) : Good l T ∧ (∀ x, Held l T x ↔ a ≤ x ∧ x ≤ b) := by
  obtain ⟨h1, h2, h3, h4, h5⟩ := h
  exact ⟨h1, fun x => by rw [h2]; omega⟩
theorem leaf_node {l x : Int} (h : ValC l x) : Node l (leafN l x) ∧ loN l (leafN l x) = x ∧ hiN l (leafN l x) = x := by
  rw [(leaf_yes h).1]
  obtain ⟨l1, l48, a0, a1⟩ := h
  obtain ⟨hn, f⟩ := node_mk (l := l) (id := 2 ^ l.toNat + x) (k := l.toNat) (j := 0) (by omega) (by omega) (by omega) ⟨by omega, by omega⟩
  have a := f.2.2.2.2.1
  have b := f.2.2.2.2.2.1
  simp at a b
  exact ⟨hn, by omega, by omega⟩

end Go.Proofs.Ytjmglihdndknjaa
