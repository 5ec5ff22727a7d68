/- Texts laid together: FoNum, Fo, Fo2, Fo3, Fo4, Fo5, Fo6, Fo7. -/
import Derived.Test.YtfmgcabgbnfjlaaPln
import Derived.Test.YtfmgcabgbnfjlaaTw
import Derived.Test.YtfmgcabgbnfjlaaMmy
import Derived.Test.YtfmgcabgbnfjlaaKeep
import Derived.Maps.OwnSet
/- Plain numbers of layer fold: the order of folding; lists in that order, each number once; a heap that lies in a list. No program is spoken of here. -/
namespace Go.Proofs.Ytfmgcabgbnfjlaa
set_option linter.unusedVariables false

/-- a stands ahead of b in the order of folding: deeper, or as deep and lesser -/
def Ah (a b : Int) : Prop := logN b < logN a ∨ (logN a = logN b ∧ a < b)
instance (a b : Int) : Decidable (Ah a b) := by unfold Ah; exact inferInstance
theorem ah_irr (a : Int) : ¬ Ah a a := by unfold Ah; omega
theorem ah_trans {a b c : Int} (h : Ah a b) (k : Ah b c) : Ah a c := by unfold Ah at *; omega
theorem ah_asym {a b : Int} (h : Ah a b) : ¬ Ah b a := by unfold Ah at *; omega
theorem ah_tri (a b : Int) : a = b ∨ Ah a b ∨ Ah b a := by unfold Ah; omega
theorem ah_nt {a b c : Int} (h : ¬ Ah b a) (k : ¬ Ah c b) : ¬ Ah c a := by unfold Ah at *; omega
theorem ah_nl {a b c : Int} (h : Ah a b) (k : ¬ Ah c b) : ¬ Ah c a := by unfold Ah at *; omega

/-! ### lists in the order of folding -/
def SrtH (W : List Int) : Prop := W.Pairwise Ah
/-- one more, each once -/
def withH : List Int → Int → List Int
  | [], x => [x]
  | a :: l, x => if Ah a x then a :: withH l x else if a = x then a :: l else x :: a :: l
theorem with_mem (W : List Int) (x y : Int) : y ∈ withH W x ↔ y = x ∨ y ∈ W := by
  induction W with
  | nil => simp [withH]
  | cons a l ih =>
    unfold withH
    split
    · rw [List.mem_cons, ih, List.mem_cons]
      constructor
      · rintro (h | h | h)
        · exact .inr (.inl h)
        · exact .inl h
        · exact .inr (.inr h)
      · rintro (h | h | h)
        · exact .inr (.inl h)
        · exact .inl h
        · exact .inr (.inr h)
    · split
      · rename_i e
        subst e
        rw [List.mem_cons]
        constructor
        · exact .inr
        · rintro (h | h)
          · exact .inl h
          · exact h
      · rw [List.mem_cons, List.mem_cons]
theorem with_srt {W : List Int} (h : SrtH W) (x : Int) : SrtH (withH W x) := by
  induction W with
  | nil => exact List.pairwise_singleton _ _
  | cons a l ih =>
    obtain ⟨h1, h2⟩ := List.pairwise_cons.1 h
    unfold withH
    split
    · rename_i e
      refine List.pairwise_cons.2 ⟨fun y hy => ?_, ih h2⟩
      rcases (with_mem l x y).1 hy with rfl | q
      · exact e
      · exact h1 y q
    · rename_i e
      split
      · exact h
      · rename_i ne
        have hx : Ah x a := by
          rcases ah_tri a x with q | q | q
          · exact absurd q ne
          · exact absurd q e
          · exact q
        refine List.pairwise_cons.2 ⟨fun y hy => ?_, h⟩
        rcases List.mem_cons.1 hy with rfl | q
        · exact hx
        · exact ah_trans hx (h1 y q)
theorem with_in {W : List Int} (h : SrtH W) {x : Int} (hx : x ∈ W) : withH W x = W := by
  induction W with
  | nil => simp at hx
  | cons a l ih =>
    obtain ⟨h1, h2⟩ := List.pairwise_cons.1 h
    unfold withH
    rcases List.mem_cons.1 hx with rfl | q
    · rw [if_neg (ah_irr _), if_pos rfl]
    · rw [if_pos (h1 x q), ih h2 q]
theorem with_perm {W : List Int} {x : Int} (hx : ¬ x ∈ W) : (withH W x).Perm (x :: W) := by
  induction W with
  | nil => exact List.Perm.refl _
  | cons a l ih =>
    have hx' : ¬ x ∈ l := fun q => hx (List.mem_cons_of_mem _ q)
    have ne : ¬ a = x := fun q => hx (by rw [q]; exact List.mem_cons_self)
    unfold withH
    split
    · exact ((ih hx').cons a).trans (List.Perm.swap _ _ _)
    · exact List.Perm.refl _
theorem with_len {W : List Int} (h : SrtH W) (x : Int) : (withH W x).length = if x ∈ W then W.length else W.length + 1 := by
  by_cases hx : x ∈ W
  · rw [if_pos hx, with_in h hx]
  · rw [if_neg hx, (with_perm hx).length_eq]; rfl
/-- where the new one goes -/
theorem with_at {W : List Int} {x : Int} {k : Nat} (hk : k ≤ W.length) (h1 : ∀ i, i < k → Ah (W.getD i 0) x) (h2 : k = W.length ∨ ¬ Ah (W.getD k 0) x) :
    withH W x = if k < W.length ∧ W.getD k 0 = x then W else W.take k ++ x :: W.drop k := by
  induction W generalizing k with
  | nil =>
    obtain rfl : k = 0 := by simpa using hk
    rfl
  | cons a l ih =>
    cases k with
    | zero =>
      have q : ¬ Ah a x := by
        rcases h2 with e | e
        · simp at e
        · simpa using e
      unfold withH
      rw [if_neg q]
      by_cases e : a = x
      · rw [if_pos e, if_pos ⟨by simp, by simpa using e⟩]
      · rw [if_neg e, if_neg (fun z => e (by simpa using z.2))]; rfl
    | succ k =>
      have q : Ah a x := by simpa using h1 0 (by omega)
      have r := ih (k := k) (by simpa using hk) (fun i hi => by simpa using h1 (i + 1) (by omega)) (by simpa using h2)
      unfold withH
      rw [if_pos q, r]
      by_cases e : k < l.length ∧ l.getD k 0 = x
      · rw [if_pos e, if_pos ⟨by simpa using e.1, by simpa using e.2⟩]
      · rw [if_neg e, if_neg (fun z => e ⟨by simpa using z.1, by simpa using z.2⟩)]; rfl
theorem srtH_uniq {L M : List Int} (h : SrtH L) (k : SrtH M) (e : ∀ x, x ∈ L ↔ x ∈ M) : L = M := by
  induction L generalizing M with
  | nil =>
    cases M with
    | nil => rfl
    | cons b m => exact absurd ((e b).2 (by simp)) (by simp)
  | cons a l ih =>
    cases M with
    | nil => exact absurd ((e a).1 (by simp)) (by simp)
    | cons b m =>
      obtain ⟨h1, h2⟩ := List.pairwise_cons.1 h
      obtain ⟨k1, k2⟩ := List.pairwise_cons.1 k
      have hab : a = b := by
        have p : a = b ∨ a ∈ m := by simpa using (e a).1 (by simp)
        have q : b = a ∨ b ∈ l := by simpa using (e b).2 (by simp)
        rcases p with p | p
        · exact p
        · rcases q with q | q
          · exact q.symm
          · exact absurd (k1 a p) (ah_asym (h1 b q))
      subst hab
      congr 1
      refine ih h2 k2 fun x => ?_
      have p := e x
      rw [List.mem_cons, List.mem_cons] at p
      constructor
      · intro q
        rcases p.1 (.inr q) with r | r
        · subst r; exact absurd (h1 _ q) (ah_irr _)
        · exact r
      · intro q
        rcases p.2 (.inr q) with r | r
        · subst r; exact absurd (k1 _ q) (ah_irr _)
        · exact r
/-- the nodes of numbers, in the order of folding -/
def agH : List Int → List Int → List Int
  | W, [] => W
  | W, x :: l => agH (if 1 ≤ x then withH W x else W) l
theorem agH_srt {W : List Int} (h : SrtH W) (l : List Int) : SrtH (agH W l) := by
  induction l generalizing W with
  | nil => exact h
  | cons x l ih =>
    unfold agH
    apply ih
    split
    · exact with_srt h x
    · exact h
theorem agH_app (W l m : List Int) : agH W (l ++ m) = agH (agH W l) m := by
  induction l generalizing W with
  | nil => rfl
  | cons x l ih => simp only [List.cons_append, agH]; exact ih _
theorem agH_one (W l : List Int) (x : Int) : agH W (l ++ [x]) = if 1 ≤ x then withH (agH W l) x else agH W l := by rw [agH_app]; rfl
theorem with_le (W : List Int) (x : Int) : (withH W x).length ≤ W.length + 1 := by
  induction W with
  | nil => simp [withH]
  | cons a l ih =>
    unfold withH
    split
    · simp only [List.length_cons]; omega
    · split <;> simp only [List.length_cons] <;> omega
theorem agH_len (W l : List Int) : (agH W l).length ≤ W.length + l.length := by
  induction l generalizing W with
  | nil => simp [agH]
  | cons x l ih =>
    unfold agH
    have a := with_le W x
    rw [List.length_cons]
    by_cases h : 1 ≤ x
    · rw [if_pos h]; have := ih (withH W x); omega
    · rw [if_neg h]; have := ih W; omega
theorem agH_mem (W l : List Int) (y : Int) : y ∈ agH W l ↔ y ∈ W ∨ (1 ≤ y ∧ y ∈ l) := by
  induction l generalizing W with
  | nil => simp [agH]
  | cons x l ih =>
    unfold agH
    rw [ih]
    split
    · rename_i h
      rw [with_mem, List.mem_cons]
      constructor
      · rintro ((rfl | q) | q)
        · exact .inr ⟨h, .inl rfl⟩
        · exact .inl q
        · exact .inr ⟨q.1, .inr q.2⟩
      · rintro (q | ⟨q, rfl | r⟩)
        · exact .inl (.inr q)
        · exact .inl (.inl rfl)
        · exact .inr ⟨q, r⟩
    · rename_i h
      rw [List.mem_cons]
      constructor
      · rintro (q | q)
        · exact .inl q
        · exact .inr ⟨q.1, .inr q.2⟩
      · rintro (q | ⟨q, rfl | r⟩)
        · exact .inl q
        · exact absurd q h
        · exact .inr ⟨q, r⟩
/-- the parents of a list's nodes, in the list's order -/
def upsH (L : List Nd) : List Int := (L.filter fun n => decide (1 < n.1)).map fun n => n.1 / 2
theorem ups_one (L : List Nd) (n : Nd) : upsH (L ++ [n]) = if 1 < n.1 then upsH L ++ [n.1 / 2] else upsH L := by
  unfold upsH
  rw [List.filter_append, List.map_append]
  by_cases h : 1 < n.1
  · rw [if_pos h]; simp [h]
  · rw [if_neg h]; simp [h]
theorem ups_len (L : List Nd) : (upsH L).length ≤ L.length := by unfold upsH; rw [List.length_map]; exact List.length_filter_le _ _

/-! ### a heap -/
def HeapN (n : Nat) (f : Nat → Int) : Prop := ∀ k, 0 < k → k < n → ¬ Ah (f k) (f ((k - 1) / 2))
/-- a heap but for the one at j, which may want to go up -/
def UpI (n : Nat) (f : Nat → Int) (j : Nat) : Prop := (∀ k, 0 < k → k < n → k ≠ j → ¬ Ah (f k) (f ((k - 1) / 2))) ∧ (∀ k, 0 < k → k < n → (k - 1) / 2 = j → 0 < j → ¬ Ah (f k) (f ((j - 1) / 2)))
/-- a heap but for the one at i, which may want to go down -/
def DnI (n : Nat) (f : Nat → Int) (i : Nat) : Prop := (∀ k, 0 < k → k < n → (k - 1) / 2 ≠ i → ¬ Ah (f k) (f ((k - 1) / 2))) ∧ (∀ k, 0 < k → k < n → (k - 1) / 2 = i → 0 < i → ¬ Ah (f k) (f ((i - 1) / 2)))
def swF (f : Nat → Int) (i j : Nat) : Nat → Int := fun k => if k = j then f i else if k = i then f j else f k
theorem up_end {n : Nat} {f : Nat → Int} {j : Nat} (h : UpI n f j) (e : j = 0 ∨ ¬ Ah (f j) (f ((j - 1) / 2))) : HeapN n f := fun k h0 hn => by
  by_cases q : k = j
  · subst q
    rcases e with e | e
    · omega
    · exact e
  · exact h.1 k h0 hn q
theorem up_step {n : Nat} {f : Nat → Int} {j p : Nat} (h : UpI n f j) (hp : p = (j - 1) / 2) (j0 : 0 < j) (jn : j < n) (a : Ah (f j) (f p)) : UpI n (swF f p j) p := by
  have hpj : p < j := by omega
  constructor
  · intro k h0 hn hk
    unfold swF
    by_cases e : k = j
    · subst e
      rw [if_pos rfl, if_neg (by omega), if_pos hp.symm]
      exact ah_asym a
    · rw [if_neg e, if_neg hk]
      have q := h.1 k h0 hn e
      by_cases e1 : (k - 1) / 2 = j
      · rw [if_pos e1]
        have := h.2 k h0 hn e1 j0
        rw [← hp] at this
        exact this
      · rw [if_neg e1]
        by_cases e2 : (k - 1) / 2 = p
        · rw [if_pos e2]
          rw [e2] at q
          exact ah_nl a q
        · rw [if_neg e2]; exact q
  · intro k h0 hn hk p0
    have hr : (p - 1) / 2 < p := by omega
    unfold swF
    rw [if_neg (show ¬ (p - 1) / 2 = j by omega), if_neg (show ¬ (p - 1) / 2 = p by omega)]
    have b := h.1 p p0 (by omega) (by omega)
    by_cases e : k = j
    · rw [if_pos e]; exact b
    · rw [if_neg e, if_neg (by omega)]
      have q := h.1 k h0 hn e
      rw [hk] at q
      exact ah_nt b q
theorem dn_end {n : Nat} {f : Nat → Int} {i : Nat} (h : DnI n f i) (e : ∀ k, 0 < k → k < n → (k - 1) / 2 = i → ¬ Ah (f k) (f i)) : HeapN n f := fun k h0 hn => by
  by_cases q : (k - 1) / 2 = i
  · have := e k h0 hn q; rw [← q] at this; exact this
  · exact h.1 k h0 hn q
theorem dn_step {n : Nat} {f : Nat → Int} {i j : Nat} (h : DnI n f i) (j0 : 0 < j) (jn : j < n) (hj : (j - 1) / 2 = i) (hm : ∀ k, 0 < k → k < n → (k - 1) / 2 = i → ¬ Ah (f k) (f j)) (a : Ah (f j) (f i)) : DnI n (swF f i j) j := by
  have hij : i < j := by omega
  constructor
  · intro k h0 hn hk
    unfold swF
    rw [if_neg hk]
    by_cases e : k = j
    · subst e
      rw [if_pos rfl, if_pos hj]
      exact ah_asym a
    · rw [if_neg e]
      by_cases e1 : k = i
      · subst e1
        rw [if_pos rfl, if_neg (by omega)]
        exact h.2 j j0 jn hj h0
      · rw [if_neg e1]
        by_cases e2 : (k - 1) / 2 = i
        · rw [if_pos e2]; exact hm k h0 hn e2
        · rw [if_neg e2]; exact h.1 k h0 hn e2
  · intro k h0 hn hk _
    unfold swF
    rw [if_neg (show ¬ k = j by omega), if_neg (show ¬ k = i by omega), if_neg (show ¬ (j - 1) / 2 = j by omega), if_pos hj]
    have q := h.1 k h0 hn (by omega)
    rw [hk] at q
    exact q
theorem heap_min {n : Nat} {f : Nat → Int} (h : HeapN n f) : ∀ k, k < n → ¬ Ah (f k) (f 0)
  | 0, _ => ah_irr _
  | k + 1, hk => ah_nt (heap_min h (k / 2) (by omega)) (h (k + 1) (by omega) hk)
theorem heap_app {Q : List Int} (h : HeapN Q.length (fun k => Q.getD k 0)) (x : Int) : UpI (Q.length + 1) (fun k => (Q ++ [x]).getD k 0) Q.length := by
  constructor
  · intro k h0 hn hk
    have e : ∀ i, i < Q.length → (Q ++ [x]).getD i 0 = Q.getD i 0 := fun i hi => by simp [List.getD_eq_getElem?_getD, List.getElem?_append_left hi]
    simp only [e k (by omega), e ((k - 1) / 2) (by omega)]
    exact h k h0 (by omega)
  · intro k h0 hn hk; omega
theorem heap_top {n : Nat} {f : Nat → Int} (h : HeapN (n + 1) f) : DnI n (swF f 0 n) 0 := by
  constructor
  · intro k h0 hn hk
    unfold swF
    rw [if_neg (show ¬ k = n by omega), if_neg (show ¬ k = 0 by omega), if_neg (show ¬ (k - 1) / 2 = n by omega), if_neg hk]
    exact h k h0 (by omega)
  · intro k h0 hn hk i0; omega
/-- two of a list change places -/
def swL (Q : List Int) (i j : Nat) : List Int := (Q.set i (Q.getD j 0)).set j (Q.getD i 0)
theorem swL_len (Q : List Int) (i j : Nat) : (swL Q i j).length = Q.length := by simp [swL]
theorem swL_get {Q : List Int} {i j : Nat} (hi : i < Q.length) (hj : j < Q.length) : (fun k => (swL Q i j).getD k 0) = swF (fun k => Q.getD k 0) i j := by
  funext k
  unfold swL swF
  simp only [List.getD_eq_getElem?_getD, List.getElem?_set, List.length_set]
  by_cases e : j = k
  · subst e; simp [hj]
  · rw [if_neg e, if_neg (show ¬ k = j by omega)]
    by_cases e1 : i = k
    · subst e1; simp [hi]
    · rw [if_neg e1, if_neg (show ¬ k = i by omega)]
theorem swL_perm {Q : List Int} {i j : Nat} (hi : i < Q.length) (hj : j < Q.length) : (swL Q i j).Perm Q := by
  have e : ∀ k (hk : k < Q.length), Q.getD k 0 = Q[k] := fun k hk => by simp [List.getD_eq_getElem?_getD, List.getElem?_eq_getElem hk]
  unfold swL
  rw [e i hi, e j hj]
  exact List.set_set_perm hi hj
/-- a list that is a heap, and holds what W holds -/
structure HpW (Q W : List Int) : Prop where
  heap : HeapN Q.length (fun k => Q.getD k 0)
  perm : Q.Perm W
  srt : SrtH W
theorem HpW.mem {Q W : List Int} (h : HpW Q W) (x : Int) : x ∈ Q ↔ x ∈ W := h.perm.mem_iff
theorem HpW.len {Q W : List Int} (h : HpW Q W) : Q.length = W.length := h.perm.length_eq
theorem hpw_nil : HpW [] [] := ⟨fun k _ h => by simp at h, List.Perm.refl _, List.Pairwise.nil⟩
/-- the first of the heap is the first of all -/
theorem HpW.head {Q W : List Int} {x : Int} (h : HpW Q (x :: W)) : Q.getD 0 0 = x := by
  have hl := h.len
  simp at hl
  have h0 : Q.getD 0 0 ∈ Q := by
    rw [List.getD_eq_getElem?_getD, List.getElem?_eq_getElem (by omega)]
    exact List.getElem_mem _
  have hx : x ∈ Q := (h.mem x).2 (by simp)
  obtain ⟨k, hk, e⟩ := List.getElem_of_mem hx
  have m := heap_min h.heap k hk
  simp only [List.getD_eq_getElem?_getD] at m
  rw [List.getElem?_eq_getElem hk] at m
  simp only [Option.getD_some] at m
  rw [e] at m
  rcases List.mem_cons.1 ((h.mem _).1 h0) with q | q
  · exact q
  · rw [← List.getD_eq_getElem?_getD] at m
    exact absurd ((List.pairwise_cons.1 h.srt).1 _ q) m
/-- one more was put in, and went up -/
theorem HpW.put {Q W T : List Int} {x : Int} (h : HpW Q W) (hx : ¬ x ∈ W) (ht : T.Perm (Q ++ [x])) (hh : HeapN T.length (fun k => T.getD k 0)) : HpW T (withH W x) :=
  ⟨hh, ht.trans (((List.perm_append_comm).trans (h.perm.cons x)).trans (with_perm hx).symm), with_srt h.srt x⟩
/-- the first one was taken away -/
theorem HpW.pop {Q W T : List Int} {x : Int} (h : HpW Q (x :: W)) (ht : (T ++ [x]).Perm Q) (hh : HeapN T.length (fun k => T.getD k 0)) : HpW T W :=
  ⟨hh, ((List.perm_append_comm (l₁ := [x]) (l₂ := T)).trans (ht.trans h.perm)).cons_inv, (List.pairwise_cons.1 h.srt).2⟩

end Go.Proofs.Ytfmgcabgbnfjlaa

/- The project's package fold: the order of folding, and the queue's methods (its row of numbers). -/
namespace Go.Proofs.Ytfmgcabgbnfjlaa
set_option linter.unusedVariables false
set_option maxRecDepth 100000
open Go.RowKit

end Go.Proofs.Ytfmgcabgbnfjlaa

/- container/heap, called with the queue of package fold: up, Push. -/
namespace Go.Proofs.Ytfmgcabgbnfjlaa
set_option linter.unusedVariables false
set_option maxRecDepth 100000
open Go.RowKit

end Go.Proofs.Ytfmgcabgbnfjlaa

/- container/heap, called with the queue of package fold: down, Push, Pop. -/
namespace Go.Proofs.Ytfmgcabgbnfjlaa
set_option linter.unusedVariables false
set_option maxRecDepth 100000
open Go.RowKit

theorem dn_pick {N k : Nat} {f : Nat → Int} (h : 2 * k + 1 < N) : (N ≤ 2 * k + 2 ∨ ¬ Ah (f (2 * k + 2)) (f (2 * k + 1))) → ∀ c, 0 < c → c < N → (c - 1) / 2 = k → ¬ Ah (f c) (f (2 * k + 1)) := fun h2 c c0 cn ck => by
  rcases (show c = 2 * k + 1 ∨ c = 2 * k + 2 by omega) with rfl | rfl
  · exact ah_irr _
  · rcases h2 with q | q
    · omega
    · exact q
theorem dn_pick2 {N k : Nat} {f : Nat → Int} (h : Ah (f (2 * k + 2)) (f (2 * k + 1))) : ∀ c, 0 < c → c < N → (c - 1) / 2 = k → ¬ Ah (f c) (f (2 * k + 2)) := fun c c0 cn ck => by
  rcases (show c = 2 * k + 1 ∨ c = 2 * k + 2 by omega) with rfl | rfl
  · exact ah_asym h
  · exact ah_irr _
theorem swF_far {f : Nat → Int} {i j k : Nat} (h1 : k ≠ i) (h2 : k ≠ j) : swF f i j k = f k := by unfold swF; rw [if_neg h2, if_neg h1]
theorem wrap_lit {a b : Int} (h : a = b) (h0 : -9223372036854775808 ≤ b) (h1 : b ≤ 9223372036854775807) : IntKind.i64.wrap a = b := by rw [IntKind.wrap_i64, h]; omega
end Go.Proofs.Ytfmgcabgbnfjlaa

/- container/heap, called with the queue of package fold: Push, Pop. -/
namespace Go.Proofs.Ytfmgcabgbnfjlaa
set_option linter.unusedVariables false
set_option maxRecDepth 100000
open Go.RowKit

theorem foInt_info : (Try.prog.info? 3).map (fun i => (i.zero, i.size, i.bytes)) = some (some (.int .i64 0), 1, 8) := by kernel_rfl
end Go.Proofs.Ytfmgcabgbnfjlaa

/- container/heap, called with the queue of package fold: Push and Pop, whole. -/
namespace Go.Proofs.Ytfmgcabgbnfjlaa
set_option linter.unusedVariables false
set_option maxRecDepth 100000
open Go.RowKit

end Go.Proofs.Ytfmgcabgbnfjlaa

/- The project's package fold: an agenda that lies in memory; Len, Put, Pop, New. -/
namespace Go.Proofs.Ytfmgcabgbnfjlaa
set_option linter.unusedVariables false
set_option maxRecDepth 100000
open Go.RowKit

end Go.Proofs.Ytfmgcabgbnfjlaa

/- The project's package fold: New. -/
namespace Go.Proofs.Ytfmgcabgbnfjlaa
set_option linter.unusedVariables false
set_option maxRecDepth 100000
open Go.RowKit

theorem foBx2 (w : World) (TO : TypeId) (a b : Value) : (w.alloc (.cells #[a, b] TO)).ownsRow w.heap.size TO 2 (.slice (some ⟨w.heap.size, 0, none⟩) 1 1) 1 [a, b] :=
  World.ownsRow_lit (base := w.heap.size) (e := TO) (size := 2) w #[a, b] 1 (Nat.le_refl _) (by unfold maxLen; omega) rfl
end Go.Proofs.Ytfmgcabgbnfjlaa
