/- Texts laid together: FoNum, Fo, Fo2, Fo3, Fo4, Fo5, Fo6, Fo7, Fo8, Fo9, Fo10, Fo11. -/
import Derived.Test.YtelekchdbiimiaaGreatPln
import Derived.Test.YtelekchdbiimiaaGreatRkT
import Derived.Test.YtelekchdbiimiaaGreatMmy
import Derived.Maps.OwnSet
import Derived.Test.YtelekchdbiimiaaGreatPoQ
namespace Go.Proofs.YtelekchdbiimiaaGreat
set_option linter.unusedVariables false
/-- a stands ahead of b in the order of folding: deeper, or as deep and lesser -/
def Ah (a b : Int) : Prop := logN b < logN a ∨ (logN a = logN b ∧ a < b)
instance (a b : Int) : Decidable (Ah a b) := by unfold Ah; exact inferInstance
theorem ah_irr (a : Int) : ¬ Ah a a := by unfold Ah; omega
theorem ah_trans {a b c : Int} (h : Ah a b) (k : Ah b c) : Ah a c := by unfold Ah at *; omega
theorem ah_asym {a b : Int} (h : Ah a b) : ¬ Ah b a := by unfold Ah at *; omega
theorem ah_tri (a b : Int) : a = b ∨ Ah a b ∨ Ah b a := by unfold Ah; omega
theorem ah_nt {a b c : Int} (h : ¬ Ah b a) (k : ¬ Ah c b) : ¬ Ah c a := by unfold Ah at *; omega
theorem ah_nl {a b c : Int} (h : Ah a b) (k : ¬ Ah c b) : ¬ Ah c a := by unfold Ah at *; omega
def SrtH (W : List Int) : Prop := W.Pairwise Ah
/-- one more, each once -/
def withH : List Int → Int → List Int
  | [], x => [x]
  | a :: l, x => if Ah a x then a :: withH l x else if a = x then a :: l else x :: a :: l
theorem with_mem (W : List Int) (x y : Int) : y ∈ withH W x ↔ y = x ∨ y ∈ W := by
  induction W with
  | nil => simp [withH]
  | cons a l ih =>
    unfold withH
    split
    · rw [List.mem_cons, ih, List.mem_cons]
      constructor
      · rintro (h | h | h)
        · exact .inr (.inl h)
        · exact .inl h
        · exact .inr (.inr h)
      · rintro (h | h | h)
        · exact .inr (.inl h)
        · exact .inl h
        · exact .inr (.inr h)
    · split
      · rename_i e
        subst e
        rw [List.mem_cons]
        constructor
        · exact .inr
        · rintro (h | h)
          · exact .inl h
          · exact h
      · rw [List.mem_cons, List.mem_cons]
theorem with_srt {W : List Int} (h : SrtH W) (x : Int) : SrtH (withH W x) := by
  induction W with
  | nil => exact List.pairwise_singleton _ _
  | cons a l ih =>
    obtain ⟨h1, h2⟩ := List.pairwise_cons.1 h
    unfold withH
    split
    · rename_i e
      refine List.pairwise_cons.2 ⟨fun y hy => ?_, ih h2⟩
      rcases (with_mem l x y).1 hy with rfl | q
      · exact e
      · exact h1 y q
    · rename_i e
      split
      · exact h
      · rename_i ne
        have hx : Ah x a := by
          rcases ah_tri a x with q | q | q
          · exact absurd q ne
          · exact absurd q e
          · exact q
        refine List.pairwise_cons.2 ⟨fun y hy => ?_, h⟩
        rcases List.mem_cons.1 hy with rfl | q
        · exact hx
        · exact ah_trans hx (h1 y q)
theorem with_in {W : List Int} (h : SrtH W) {x : Int} (hx : x ∈ W) : withH W x = W := by
  induction W with
  | nil => simp at hx
  | cons a l ih =>
    obtain ⟨h1, h2⟩ := List.pairwise_cons.1 h
    unfold withH
    rcases List.mem_cons.1 hx with rfl | q
    · rw [if_neg (ah_irr _), if_pos rfl]
    · rw [if_pos (h1 x q), ih h2 q]
theorem with_perm {W : List Int} {x : Int} (hx : ¬ x ∈ W) : (withH W x).Perm (x :: W) := by
  induction W with
  | nil => exact List.Perm.refl _
  | cons a l ih =>
    have hx' : ¬ x ∈ l := fun q => hx (List.mem_cons_of_mem _ q)
    have ne : ¬ a = x := fun q => hx (by rw [q]; exact List.mem_cons_self)
    unfold withH
    split
    · exact ((ih hx').cons a).trans (List.Perm.swap _ _ _)
    · exact List.Perm.refl _
theorem with_len {W : List Int} (h : SrtH W) (x : Int) : (withH W x).length = if x ∈ W then W.length else W.length + 1 := by
  by_cases hx : x ∈ W
  · rw [if_pos hx, with_in h hx]
  · rw [if_neg hx, (with_perm hx).length_eq]; rfl
theorem srtH_uniq {L M : List Int} (h : SrtH L) (k : SrtH M) (e : ∀ x, x ∈ L ↔ x ∈ M) : L = M := by
  induction L generalizing M with
  | nil =>
    cases M with
    | nil => rfl
    | cons b m => exact absurd ((e b).2 (by simp)) (by simp)
  | cons a l ih =>
    cases M with
    | nil => exact absurd ((e a).1 (by simp)) (by simp)
    | cons b m =>
      obtain ⟨h1, h2⟩ := List.pairwise_cons.1 h
      obtain ⟨k1, k2⟩ := List.pairwise_cons.1 k
      have hab : a = b := by
        have p : a = b ∨ a ∈ m := by simpa using (e a).1 (by simp)
        have q : b = a ∨ b ∈ l := by simpa using (e b).2 (by simp)
        rcases p with p | p
        · exact p
        · rcases q with q | q
          · exact q.symm
          · exact absurd (k1 a p) (ah_asym (h1 b q))
      subst hab
      congr 1
      refine ih h2 k2 fun x => ?_
      have p := e x
      rw [List.mem_cons, List.mem_cons] at p
      constructor
      · intro q
        rcases p.1 (.inr q) with r | r
        · subst r; exact absurd (h1 _ q) (ah_irr _)
        · exact r
      · intro q
        rcases p.2 (.inr q) with r | r
        · subst r; exact absurd (k1 _ q) (ah_irr _)
        · exact r
/-- the nodes of numbers, in the order of folding -/
def agH : List Int → List Int → List Int
  | W, [] => W
  | W, x :: l => agH (if 1 ≤ x then withH W x else W) l
theorem agH_srt {W : List Int} (h : SrtH W) (l : List Int) : SrtH (agH W l) := by
  induction l generalizing W with
  | nil => exact h
  | cons x l ih =>
    unfold agH
    apply ih
    split
    · exact with_srt h x
    · exact h
theorem agH_app (W l m : List Int) : agH W (l ++ m) = agH (agH W l) m := by
  induction l generalizing W with
  | nil => rfl
  | cons x l ih => simp only [List.cons_append, agH]; exact ih _
theorem agH_one (W l : List Int) (x : Int) : agH W (l ++ [x]) = if 1 ≤ x then withH (agH W l) x else agH W l := by rw [agH_app]; rfl
theorem with_le (W : List Int) (x : Int) : (withH W x).length ≤ W.length + 1 := by
  induction W with
  | nil => simp [withH]
  | cons a l ih =>
    unfold withH
    split
    · simp only [List.length_cons]; omega
    · split <;> simp only [List.length_cons] <;> omega
theorem agH_len (W l : List Int) : (agH W l).length ≤ W.length + l.length := by
  induction l generalizing W with
  | nil => simp [agH]
  | cons x l ih =>
    unfold agH
    have a := with_le W x
    rw [List.length_cons]
    by_cases h : 1 ≤ x
    · rw [if_pos h]; have := ih (withH W x); omega
    · rw [if_neg h]; have := ih W; omega
theorem agH_mem (W l : List Int) (y : Int) : y ∈ agH W l ↔ y ∈ W ∨ (1 ≤ y ∧ y ∈ l) := by
  induction l generalizing W with
  | nil => simp [agH]
  | cons x l ih =>
    unfold agH
    rw [ih]
    split
    · rename_i h
      rw [with_mem, List.mem_cons]
      constructor
      · rintro ((rfl | q) | q)
        · exact .inr ⟨h, .inl rfl⟩
        · exact .inl q
        · exact .inr ⟨q.1, .inr q.2⟩
      · rintro (q | ⟨q, rfl | r⟩)
        · exact .inl (.inr q)
        · exact .inl (.inl rfl)
        · exact .inr ⟨q, r⟩
    · rename_i h
      rw [List.mem_cons]
      constructor
      · rintro (q | q)
        · exact .inl q
        · exact .inr ⟨q.1, .inr q.2⟩
      · rintro (q | ⟨q, rfl | r⟩)
        · exact .inl q
        · exact absurd q h
        · exact .inr ⟨q, r⟩
/-- the parents of a list's nodes, in the list's order -/
def upsH (L : List Nd) : List Int := (L.filter fun n => decide (1 < n.1)).map fun n => n.1 / 2
theorem ups_one (L : List Nd) (n : Nd) : upsH (L ++ [n]) = if 1 < n.1 then upsH L ++ [n.1 / 2] else upsH L := by
  unfold upsH
  rw [List.filter_append, List.map_append]
  by_cases h : 1 < n.1
  · rw [if_pos h]; simp [h]
  · rw [if_neg h]; simp [h]
theorem ups_len (L : List Nd) : (upsH L).length ≤ L.length := by unfold upsH; rw [List.length_map]; exact List.length_filter_le _ _
def HeapN (n : Nat) (f : Nat → Int) : Prop := ∀ k, 0 < k → k < n → ¬ Ah (f k) (f ((k - 1) / 2))
/-- a heap but for the one at j, which may want to go up -/
def UpI (n : Nat) (f : Nat → Int) (j : Nat) : Prop := (∀ k, 0 < k → k < n → k ≠ j → ¬ Ah (f k) (f ((k - 1) / 2))) ∧ (∀ k, 0 < k → k < n → (k - 1) / 2 = j → 0 < j → ¬ Ah (f k) (f ((j - 1) / 2)))
/-- a heap but for the one at i, which may want to go down -/
def DnI (n : Nat) (f : Nat → Int) (i : Nat) : Prop := (∀ k, 0 < k → k < n → (k - 1) / 2 ≠ i → ¬ Ah (f k) (f ((k - 1) / 2))) ∧ (∀ k, 0 < k → k < n → (k - 1) / 2 = i → 0 < i → ¬ Ah (f k) (f ((i - 1) / 2)))
def swF (f : Nat → Int) (i j : Nat) : Nat → Int := fun k => if k = j then f i else if k = i then f j else f k
theorem up_end {n : Nat} {f : Nat → Int} {j : Nat} (h : UpI n f j) (e : j = 0 ∨ ¬ Ah (f j) (f ((j - 1) / 2))) : HeapN n f := fun k h0 hn => by
  by_cases q : k = j
  · subst q
    rcases e with e | e
    · omega
    · exact e
  · exact h.1 k h0 hn q
theorem up_step {n : Nat} {f : Nat → Int} {j p : Nat} (h : UpI n f j) (hp : p = (j - 1) / 2) (j0 : 0 < j) (jn : j < n) (a : Ah (f j) (f p)) : UpI n (swF f p j) p := by
  have hpj : p < j := by omega
  constructor
  · intro k h0 hn hk
    unfold swF
    by_cases e : k = j
    · subst e
      rw [if_pos rfl, if_neg (by omega), if_pos hp.symm]
      exact ah_asym a
    · rw [if_neg e, if_neg hk]
      have q := h.1 k h0 hn e
      by_cases e1 : (k - 1) / 2 = j
      · rw [if_pos e1]
        have := h.2 k h0 hn e1 j0
        rw [← hp] at this
        exact this
      · rw [if_neg e1]
        by_cases e2 : (k - 1) / 2 = p
        · rw [if_pos e2]
          rw [e2] at q
          exact ah_nl a q
        · rw [if_neg e2]; exact q
  · intro k h0 hn hk p0
    have hr : (p - 1) / 2 < p := by omega
    unfold swF
    rw [if_neg (show ¬ (p - 1) / 2 = j by omega), if_neg (show ¬ (p - 1) / 2 = p by omega)]
    have b := h.1 p p0 (by omega) (by omega)
    by_cases e : k = j
    · rw [if_pos e]; exact b
    · rw [if_neg e, if_neg (by omega)]
      have q := h.1 k h0 hn e
      rw [hk] at q
      exact ah_nt b q
theorem dn_end {n : Nat} {f : Nat → Int} {i : Nat} (h : DnI n f i) (e : ∀ k, 0 < k → k < n → (k - 1) / 2 = i → ¬ Ah (f k) (f i)) : HeapN n f := fun k h0 hn => by
  by_cases q : (k - 1) / 2 = i
  · have := e k h0 hn q; rw [← q] at this; exact this
  · exact h.1 k h0 hn q
theorem dn_step {n : Nat} {f : Nat → Int} {i j : Nat} (h : DnI n f i) (j0 : 0 < j) (jn : j < n) (hj : (j - 1) / 2 = i) (hm : ∀ k, 0 < k → k < n → (k - 1) / 2 = i → ¬ Ah (f k) (f j)) (a : Ah (f j) (f i)) : DnI n (swF f i j) j := by
  have hij : i < j := by omega
  constructor
  · intro k h0 hn hk
    unfold swF
    rw [if_neg hk]
    by_cases e : k = j
    · subst e
      rw [if_pos rfl, if_pos hj]
      exact ah_asym a
    · rw [if_neg e]
      by_cases e1 : k = i
      · subst e1
        rw [if_pos rfl, if_neg (by omega)]
        exact h.2 j j0 jn hj h0
      · rw [if_neg e1]
        by_cases e2 : (k - 1) / 2 = i
        · rw [if_pos e2]; exact hm k h0 hn e2
        · rw [if_neg e2]; exact h.1 k h0 hn e2
  · intro k h0 hn hk _
    unfold swF
    rw [if_neg (show ¬ k = j by omega), if_neg (show ¬ k = i by omega), if_neg (show ¬ (j - 1) / 2 = j by omega), if_pos hj]
    have q := h.1 k h0 hn (by omega)
    rw [hk] at q
    exact q
theorem heap_min {n : Nat} {f : Nat → Int} (h : HeapN n f) : ∀ k, k < n → ¬ Ah (f k) (f 0)
  | 0, _ => ah_irr _
  | k + 1, hk => ah_nt (heap_min h (k / 2) (by omega)) (h (k + 1) (by omega) hk)
theorem heap_app {Q : List Int} (h : HeapN Q.length (fun k => Q.getD k 0)) (x : Int) : UpI (Q.length + 1) (fun k => (Q ++ [x]).getD k 0) Q.length := by
  constructor
  · intro k h0 hn hk
    have e : ∀ i, i < Q.length → (Q ++ [x]).getD i 0 = Q.getD i 0 := fun i hi => by simp [List.getD_eq_getElem?_getD, List.getElem?_append_left hi]
    simp only [e k (by omega), e ((k - 1) / 2) (by omega)]
    exact h k h0 (by omega)
  · intro k h0 hn hk; omega
theorem heap_top {n : Nat} {f : Nat → Int} (h : HeapN (n + 1) f) : DnI n (swF f 0 n) 0 := by
  constructor
  · intro k h0 hn hk
    unfold swF
    rw [if_neg (show ¬ k = n by omega), if_neg (show ¬ k = 0 by omega), if_neg (show ¬ (k - 1) / 2 = n by omega), if_neg hk]
    exact h k h0 (by omega)
  · intro k h0 hn hk i0; omega
/-- two of a list change places -/
def swL (Q : List Int) (i j : Nat) : List Int := (Q.set i (Q.getD j 0)).set j (Q.getD i 0)
theorem swL_len (Q : List Int) (i j : Nat) : (swL Q i j).length = Q.length := by simp [swL]
theorem swL_get {Q : List Int} {i j : Nat} (hi : i < Q.length) (hj : j < Q.length) : (fun k => (swL Q i j).getD k 0) = swF (fun k => Q.getD k 0) i j := by
  funext k
  unfold swL swF
  simp only [List.getD_eq_getElem?_getD, List.getElem?_set, List.length_set]
  by_cases e : j = k
  · subst e; simp [hj]
  · rw [if_neg e, if_neg (show ¬ k = j by omega)]
    by_cases e1 : i = k
    · subst e1; simp [hi]
    · rw [if_neg e1, if_neg (show ¬ k = i by omega)]
theorem swL_perm {Q : List Int} {i j : Nat} (hi : i < Q.length) (hj : j < Q.length) : (swL Q i j).Perm Q := by
  have e : ∀ k (hk : k < Q.length), Q.getD k 0 = Q[k] := fun k hk => by simp [List.getD_eq_getElem?_getD, List.getElem?_eq_getElem hk]
  unfold swL
  rw [e i hi, e j hj]
  exact List.set_set_perm hi hj
/-- a list that is a heap, and holds what W holds -/
structure HpW (Q W : List Int) : Prop where
  heap : HeapN Q.length (fun k => Q.getD k 0)
  perm : Q.Perm W
  srt : SrtH W
theorem HpW.mem {Q W : List Int} (h : HpW Q W) (x : Int) : x ∈ Q ↔ x ∈ W := h.perm.mem_iff
theorem HpW.len {Q W : List Int} (h : HpW Q W) : Q.length = W.length := h.perm.length_eq
theorem hpw_nil : HpW [] [] := ⟨fun k _ h => by simp at h, List.Perm.refl _, List.Pairwise.nil⟩
/-- the first of the heap is the first of all -/
theorem HpW.head {Q W : List Int} {x : Int} (h : HpW Q (x :: W)) : Q.getD 0 0 = x := by
  have hl := h.len
  simp at hl
  have h0 : Q.getD 0 0 ∈ Q := by
    rw [List.getD_eq_getElem?_getD, List.getElem?_eq_getElem (by omega)]
    exact List.getElem_mem _
  have hx : x ∈ Q := (h.mem x).2 (by simp)
  obtain ⟨k, hk, e⟩ := List.getElem_of_mem hx
  have m := heap_min h.heap k hk
  simp only [List.getD_eq_getElem?_getD] at m
  rw [List.getElem?_eq_getElem hk] at m
  simp only [Option.getD_some] at m
  rw [e] at m
  rcases List.mem_cons.1 ((h.mem _).1 h0) with q | q
  · exact q
  · rw [← List.getD_eq_getElem?_getD] at m
    exact absurd ((List.pairwise_cons.1 h.srt).1 _ q) m
/-- one more was put in, and went up -/
theorem HpW.put {Q W T : List Int} {x : Int} (h : HpW Q W) (hx : ¬ x ∈ W) (ht : T.Perm (Q ++ [x])) (hh : HeapN T.length (fun k => T.getD k 0)) : HpW T (withH W x) :=
  ⟨hh, ht.trans (((List.perm_append_comm).trans (h.perm.cons x)).trans (with_perm hx).symm), with_srt h.srt x⟩
/-- the first one was taken away -/
theorem HpW.pop {Q W T : List Int} {x : Int} (h : HpW Q (x :: W)) (ht : (T ++ [x]).Perm Q) (hh : HeapN T.length (fun k => T.getD k 0)) : HpW T W :=
  ⟨hh, ((List.perm_append_comm (l₁ := [x]) (l₂ := T)).trans (ht.trans h.perm)).cons_inv, (List.pairwise_cons.1 h.srt).2⟩
end Go.Proofs.YtelekchdbiimiaaGreat
namespace Go.Proofs.YtelekchdbiimiaaGreat
set_option linter.unusedVariables false
set_option maxRecDepth 100000
open Go.RowKit
set_option maxHeartbeats 1600000 in
theorem foAhead_any (a b : Int) (w : World) (A0 : -9223372036854775808 ≤ a) (A1 : a ≤ 9223372036854775807) (B0 : -9223372036854775808 ≤ b) (B1 : b ≤ 9223372036854775807) :
    Calls Tryz.prog 246 #[.int .i64 a, .int .i64 b] w fun e w' => e = .returned (.bool (decide (Ah a b))) ∧ w = w' := by
  have DA := Lib.hid (fun w => depth_any a w A0 A1)
  have DB := Lib.hid (fun w => depth_any b w B0 B1)
  by_cases h : logN b < logN a
  · have H := Lib.hid (show decide (Ah a b) = true from decide_eq_true (.inl h))
    have h1 : decide (logN b < logN a) = true := decide_eq_true h
    clear h
    go_enter Tryz.func246, Tryz.ntmps246
    go_wp2_with (first | (go_at_call 147; with_reducible refine (DA.out _).mono ?_; rintro e w1 ⟨rfl, rfl⟩) | (go_at_call 147; with_reducible refine (DB.out _).mono ?_; rintro e w1 ⟨rfl, rfl⟩))
    go_ret
    exact ⟨by rw [H.out]; rfl, rfl⟩
  · by_cases k : logN a = logN b
    · have H := Lib.hid (show decide (Ah a b) = decide (a < b) by unfold Ah; simp [k])
      have h1 : decide (logN b < logN a) = false := decide_eq_false h
      have h2 : (logN a == logN b) = true := beq_iff_eq.2 k
      clear h k
      go_enter Tryz.func246, Tryz.ntmps246
      go_wp2_with (first | (go_at_call 147; with_reducible refine (DA.out _).mono ?_; rintro e w1 ⟨rfl, rfl⟩) | (go_at_call 147; with_reducible refine (DB.out _).mono ?_; rintro e w1 ⟨rfl, rfl⟩))
      go_ret
      exact ⟨by rw [H.out]; rfl, rfl⟩
    · have H := Lib.hid (show decide (Ah a b) = false from decide_eq_false (by unfold Ah; omega))
      have h1 : decide (logN b < logN a) = false := decide_eq_false h
      have h2 : (logN a == logN b) = false := beq_eq_false_iff_ne.2 k
      clear h k
      go_enter Tryz.func246, Tryz.ntmps246
      go_wp2_with (first | (go_at_call 147; with_reducible refine (DA.out _).mono ?_; rintro e w1 ⟨rfl, rfl⟩) | (go_at_call 147; with_reducible refine (DB.out _).mono ?_; rintro e w1 ⟨rfl, rfl⟩))
      go_ret
      exact ⟨by rw [H.out]; rfl, rfl⟩
theorem foQLen_any (A : Option Addr) (n c : Nat) (w : World) : Calls Tryz.prog 243 #[.slice A n c] w fun e w' => e = .returned (.int .i64 n) ∧ w = w' := by
  go_enter Tryz.func243, Tryz.ntmps243
  go_wp2_with fail
  go_ret
  exact ⟨rfl, rfl⟩
/-- numbers that a call's number may be -/
def BdI (T : List Int) : Prop := ∀ x ∈ T, 1 ≤ x ∧ x ≤ 9223372036854775807
theorem bdI_at {T : List Int} (h : BdI T) {k : Nat} (hk : k < T.length) : 1 ≤ T.getD k 0 ∧ T.getD k 0 ≤ 9223372036854775807 := h _ (getD_mem hk)
set_option maxHeartbeats 1600000 in
theorem foLess_any {B g cap : Nat} {Q : List Int} (i j : Nat) (w : World) (h : OwnI 3 w B (.slice (some ⟨g, 0, none⟩) Q.length cap) Q) (hb : BdI Q) (hi : i < Q.length) (hj : j < Q.length) :
    Calls Tryz.prog 244 #[.slice (some ⟨g, 0, none⟩) Q.length cap, .int .i64 i, .int .i64 j] w fun e w' => e = .returned (.bool (decide (Ah (Q.getD i 0) (Q.getD j 0)))) ∧ ∃ q, w' = w.drewN q := by
  have c0 := ownI_cell h i hi
  have c1 := ownI_cell h j hj
  have b0 := bdI_at hb hi
  have b1 := bdI_at hb hj
  have AH := Lib.hid (fun w => foAhead_any (Q.getD i 0) (Q.getD j 0) w (by omega) (by omega) (by omega) (by omega))
  generalize Q.getD i 0 = x at *
  generalize Q.getD j 0 = y at *
  clear h hb b0 b1
  go_enter Tryz.func244, Tryz.ntmps244
  go_wp2_with fail
  go_quiet ((go_at_call 246; exact Calls.quiet_of_same ((AH.out _).mono fun _ _ ⟨a, b⟩ => ⟨a, b.symm⟩)))
  go_wp2_with fail
  go_ret
  exact ⟨rfl, _, rfl⟩
set_option maxHeartbeats 1600000 in
theorem foSwap_any {B g cap : Nat} {Q : List Int} (i j : Nat) (w : World) (h : OwnI 3 w B (.slice (some ⟨g, 0, none⟩) Q.length cap) Q) (hi : i < Q.length) (hj : j < Q.length) :
    Calls Tryz.prog 245 #[.slice (some ⟨g, 0, none⟩) Q.length cap, .int .i64 i, .int .i64 j] w fun e w' => e = .returned (.tuple #[]) ∧ OwnI 3 w' B (.slice (some ⟨g, 0, none⟩) Q.length cap) (swL Q i j) ∧ w.grownBy w' (some g) := by
  have c0 := ownI_cell h i hi
  have c1 := ownI_cell h j hj
  have f0 := World.ownsRow.frozenAt h
  have S1 := World.ownsRow.stored h i (.int .i64 (Q.getD j 0))
  have S2 := S1.1.stored j (.int .i64 (Q.getD i 0))
  obtain ⟨v, c2⟩ : ∃ v, (w.setCell ⟨g, i, none⟩ (.int .i64 (Q.getD j 0))).cell? ⟨g, j, none⟩ = some v := by
    have q := S1.1.cellAt j (by omega)
    rw [List.getElem?_set, ints_len] at q
    split at q
    · exact ⟨_, q⟩
    · exact ⟨_, q.trans (List.getElem?_eq_getElem (by rw [ints_len]; exact hj))⟩
  have HR : Hid (OwnI 3 ((w.setCell ⟨g, i, none⟩ (.int .i64 (Q.getD j 0))).setCell ⟨g, j, none⟩ (.int .i64 (Q.getD i 0))) B (.slice (some ⟨g, 0, none⟩) Q.length cap) (swL Q i j)) := by
    have q := S2.1
    show World.ownsRow ..
    rw [show ints (swL Q i j) = ((ints Q).set i (.int .i64 (Q.getD j 0))).set j (.int .i64 (Q.getD i 0)) by simp [swL, ints, List.map_set], swL_len]
    exact q
  have HG := Lib.hid (S1.2.trans S2.2)
  generalize Q.getD i 0 = x at *
  generalize Q.getD j 0 = y at *
  clear h S1 S2
  go_enter Tryz.func245, Tryz.ntmps245
  go_wp2_with fail
  go_region
  all_goals go_wp2_with fail
  all_goals go_end0
  all_goals exact ⟨rfl, HR.out, HG.out.trans (grown_below (below_drew _))⟩
theorem foLess_at {B g cap : Nat} {Q : List Int} (i j : Nat) (a b : Int) (w : World) (h : OwnI 3 w B (.slice (some ⟨g, 0, none⟩) Q.length cap) Q) (hb : BdI Q) (hi : i < Q.length) (hj : j < Q.length) (ea : a = i) (eb : b = j) (t : Bool) (ht : decide (Ah (Q.getD i 0) (Q.getD j 0)) = t) :
    Calls Tryz.prog 244 #[.slice (some ⟨g, 0, none⟩) Q.length cap, .int .i64 a, .int .i64 b] w fun e w' => e = .returned (.bool t) ∧ ∃ q, w' = w.drewN q := by
  subst ea eb ht
  exact foLess_any i j w h hb hi hj
theorem foSwap_at {B g cap : Nat} {Q : List Int} (i j : Nat) (a b : Int) (w : World) (h : OwnI 3 w B (.slice (some ⟨g, 0, none⟩) Q.length cap) Q) (hi : i < Q.length) (hj : j < Q.length) (ea : a = i) (eb : b = j) :
    Calls Tryz.prog 245 #[.slice (some ⟨g, 0, none⟩) Q.length cap, .int .i64 a, .int .i64 b] w fun e w' => e = .returned (.tuple #[]) ∧ OwnI 3 w' B (.slice (some ⟨g, 0, none⟩) Q.length cap) (swL Q i j) ∧ w.grownBy w' (some g) := by
  subst ea eb
  exact foSwap_any i j w h hi hj
end Go.Proofs.YtelekchdbiimiaaGreat
namespace Go.Proofs.YtelekchdbiimiaaGreat
set_option linter.unusedVariables false
set_option maxRecDepth 100000
open Go.RowKit
theorem run_loadQ (a : Addr) (w : World) (v : Value) (hc : w.cell? a = some v) : (loadVar 240 a).run Tryz.prog w = .ok v w := by
  simp [loadVar, go_sem, hc]
theorem meth_less (a : Addr) (w : World) (v : Value) (hc : w.cell? a = some v) : (method 376 245 (.pointer (some a)) "Less").run Tryz.prog w = .ok (244, v) w := by
  have e : (method 376 245 (.pointer (some a)) "Less").run Tryz.prog w = (do let v ← loadVar 240 a; pure (244, v)).run Tryz.prog w := by kernel_rfl
  rw [e, Sem.run_bind, run_loadQ a w v hc]; rfl
theorem meth_swap (a : Addr) (w : World) (v : Value) (hc : w.cell? a = some v) : (method 376 245 (.pointer (some a)) "Swap").run Tryz.prog w = .ok (245, v) w := by
  have e : (method 376 245 (.pointer (some a)) "Swap").run Tryz.prog w = (do let v ← loadVar 240 a; pure (245, v)).run Tryz.prog w := by kernel_rfl
  rw [e, Sem.run_bind, run_loadQ a w v hc]; rfl
theorem meth_len (a : Addr) (w : World) (v : Value) (hc : w.cell? a = some v) : (method 376 245 (.pointer (some a)) "Len").run Tryz.prog w = .ok (243, v) w := by
  have e : (method 376 245 (.pointer (some a)) "Len").run Tryz.prog w = (do let v ← loadVar 240 a; pure (243, v)).run Tryz.prog w := by kernel_rfl
  rw [e, Sem.run_bind, run_loadQ a w v hc]; rfl
theorem meth_push (a : Addr) (w : World) : (method 376 245 (.pointer (some a)) "Push").run Tryz.prog w = .ok (248, .pointer (some a)) w := by kernel_rfl
theorem meth_pop (a : Addr) (w : World) : (method 376 245 (.pointer (some a)) "Pop").run Tryz.prog w = .ok (247, .pointer (some a)) w := by kernel_rfl
/-- what a row of the call's own holds is put in another order: all else is as it was -/
structure Qrow (w0 : World) (B g cap : Nat) (p : Addr) (T : List Int) (T' : List Int) (w : World) : Prop where
  row : OwnI 3 w B (.slice (some ⟨g, 0, none⟩) T'.length cap) T'
  perm : T'.Perm T
  cell : w.cell? p = some (.slice (some ⟨g, 0, none⟩) T'.length cap)
  bds : BdI T'
  grown : w0.grownBy w (some g)
theorem Qrow.sw {w0 w w' : World} {B g cap i j : Nat} {p : Addr} {T Q : List Int} (h : Qrow w0 B g cap p T Q w) (hi : i < Q.length) (hj : j < Q.length) (hp : p.block ≠ g) (hlt : p.block < w.heap.size)
    (r : OwnI 3 w' B (.slice (some ⟨g, 0, none⟩) Q.length cap) (swL Q i j)) (gr : w.grownBy w' (some g)) : Qrow w0 B g cap p T (swL Q i j) w' where
  row := by rw [swL_len]; exact r
  perm := (swL_perm hi hj).trans h.perm
  cell := by
    rw [swL_len, ← h.cell]
    exact World.cell?_of_block (gr.block _ hlt (fun e => hp (by injection e)))
  bds := fun x hx => h.bds x ((swL_perm hi hj).mem_iff.1 hx)
  grown := grown_trans (v := .slice (some ⟨g, 0, none⟩) Q.length cap) (v1 := .slice (some ⟨g, 0, none⟩) Q.length cap) h.grown gr (.inl rfl)
theorem Qrow.drew {w0 w : World} {B g cap : Nat} {p : Addr} {T Q : List Int} (h : Qrow w0 B g cap p T Q w) (q : Nat) : Qrow w0 B g cap p T Q (w.drewN q) :=
  ⟨own_below h.row (drewN_below (Below.refl _ _) q), h.perm, h.cell, h.bds, grown_trans (v := .slice (some ⟨g, 0, none⟩) Q.length cap) (v1 := .slice (some ⟨g, 0, none⟩) Q.length cap) h.grown (grown_below (drewN_below (Below.refl _ _) q)) (.inl rfl)⟩
theorem quo_two (m : Nat) (h : m ≤ 1000000) : IntKind.i64.wrap ((m : Int).tdiv 2) = (m : Int) / 2 := by
  rw [Int.tdiv_eq_ediv_of_nonneg (by omega), IntKind.wrap_i64]; omega
set_option maxHeartbeats 3200000 in
theorem hpUp_any (B g cap j : Nat) (p : Addr) (T : List Int) (w : World) (r : OwnI 3 w B (.slice (some ⟨g, 0, none⟩) T.length cap) T) (hc : w.cell? p = some (.slice (some ⟨g, 0, none⟩) T.length cap)) (hp : p.block ≠ g) (hlt : p.block < w.heap.size)
    (hb : BdI T) (hj : j < T.length) (hn : T.length ≤ 100000) (hu : UpI T.length (fun k => T.getD k 0) j) :
    Calls Tryz.prog 223 #[.iface 245 (.pointer (some p)), .int .i64 j] w fun e w' => e = .returned (.tuple #[]) ∧ ∃ T', Qrow w B g cap p T T' w' ∧ HeapN T'.length (fun k => T'.getD k 0) := by
  have Q0 := Lib.hid (⟨r, List.Perm.refl _, hc, hb, ⟨rfl, rfl, rfl, Nat.le_refl _, fun _ _ _ => rfl⟩⟩ : Qrow w B g cap p T T w)
  have HU := Lib.hid hu
  clear r hc hb hu
  go_enter Tryz.func223, Tryz.ntmps223
  go_wp2_with fail
  go_loopw [1] (fun i wr => ∃ (k : Nat) (Q : List Int), k < Q.length ∧ i = .int .i64 k ∧ Qrow w B g cap p T Q wr ∧ UpI Q.length (fun k => Q.getD k 0) k) (fun i _ => (intOf i).toNat)
  case atStart => exact ⟨j, T, hj, rfl, Q0.out, HU.out⟩
  case round =>
    rename_i wr
    obtain ⟨k, Q, hk, rfl, hq, hu⟩ := hrel
    have QQ := Lib.hid hq
    have UU := Lib.hid hu
    have hlr : p.block < wr.heap.size := Nat.lt_of_lt_of_le hlt hq.grown.size
    have hQn : Q.length ≤ 100000 := by rw [hq.perm.length_eq]; exact hn
    clear hq hu
    cases k with
    | zero =>
      go_wp2_with fail
      go_end0
      exact ⟨rfl, Q, QQ.out, up_end UU.out (.inl rfl)⟩
    | succ m =>
      have hw := quo_two m (by omega)
      have ne : ((m : Int) / 2 == ((m : Int) + 1)) = false := beq_eq_false_iff_ne.2 (by omega)
      have ML := meth_less p wr _ QQ.out.cell
      by_cases ha : Ah (Q.getD (m + 1) 0) (Q.getD (m / 2) 0)
      · have LS := Lib.hid (foLess_at (m + 1) (m / 2) ((m : Int) + 1) ((m : Int) / 2) wr QQ.out.row QQ.out.bds hk (by omega) (by omega) (by omega) true (decide_eq_true ha))
        have US := Lib.hid (up_step UU.out (p := m / 2) (by omega) (by omega) hk ha)
        clear ha
        go_wp2_with fail
        refine LS.out.mono ?_
        rintro e w1 ⟨rfl, q1, rfl⟩
        have Q1 := Lib.hid (QQ.out.drew q1)
        have MS := meth_swap p (wr.drewN q1) _ Q1.out.cell
        have hl1 : p.block < (wr.drewN q1).heap.size := Nat.lt_of_lt_of_le hlr (drewN_below (Below.refl 0 wr) q1).size
        clear ML
        go_wp2_with fail
        refine (foSwap_at (m / 2) (m + 1) ((m : Int) / 2) ((m : Int) + 1) _ Q1.out.row (by omega) hk (by omega) (by omega)).mono ?_
        rintro e w2 ⟨rfl, hr, hg⟩
        have Q2 := Lib.hid (Q1.out.sw (by omega) hk hp hl1 hr hg)
        have U2 : Hid (UpI (swL Q (m / 2) (m + 1)).length (fun k => (swL Q (m / 2) (m + 1)).getD k 0) (m / 2)) := by
          show UpI _ _ _
          rw [swL_get (by omega) hk, swL_len]
          exact US.out
        clear hr hg MS
        go_wp2_with fail
        go_roundw
        case rel => exact ⟨m / 2, _, by rw [swL_len]; omega, by go_num, Q2.out, U2.out⟩
        case measure => simp [intOf]; omega
      · have LS := Lib.hid (foLess_at (m + 1) (m / 2) ((m : Int) + 1) ((m : Int) / 2) wr QQ.out.row QQ.out.bds hk (by omega) (by omega) (by omega) false (decide_eq_false ha))
        have UE := Lib.hid (up_end UU.out (.inr (by simpa using ha)))
        clear ha
        go_wp2_with fail
        refine LS.out.mono ?_
        rintro e w1 ⟨rfl, q1, rfl⟩
        go_wp2_with fail
        go_end0
        exact ⟨rfl, Q, QQ.out.drew q1, UE.out⟩
end Go.Proofs.YtelekchdbiimiaaGreat
namespace Go.Proofs.YtelekchdbiimiaaGreat
set_option linter.unusedVariables false
set_option maxRecDepth 100000
open Go.RowKit
theorem dn_pick {N k : Nat} {f : Nat → Int} (h : 2 * k + 1 < N) : (N ≤ 2 * k + 2 ∨ ¬ Ah (f (2 * k + 2)) (f (2 * k + 1))) → ∀ c, 0 < c → c < N → (c - 1) / 2 = k → ¬ Ah (f c) (f (2 * k + 1)) := fun h2 c c0 cn ck => by
  rcases (show c = 2 * k + 1 ∨ c = 2 * k + 2 by omega) with rfl | rfl
  · exact ah_irr _
  · rcases h2 with q | q
    · omega
    · exact q
theorem dn_pick2 {N k : Nat} {f : Nat → Int} (h : Ah (f (2 * k + 2)) (f (2 * k + 1))) : ∀ c, 0 < c → c < N → (c - 1) / 2 = k → ¬ Ah (f c) (f (2 * k + 2)) := fun c c0 cn ck => by
  rcases (show c = 2 * k + 1 ∨ c = 2 * k + 2 by omega) with rfl | rfl
  · exact ah_asym h
  · exact ah_irr _
theorem swF_far {f : Nat → Int} {i j k : Nat} (h1 : k ≠ i) (h2 : k ≠ j) : swF f i j k = f k := by unfold swF; rw [if_neg h2, if_neg h1]
/-- a round of going down: a queue's row, in which all but the one at k is in place -/
structure Dn (w0 : World) (B g cap : Nat) (p : Addr) (T Q : List Int) (N k : Nat) (x : Int) (w : World) : Prop where
  q : Qrow w0 B g cap p T Q w
  len : Q.length = N + 1
  dn : DnI N (fun i => Q.getD i 0) k
  last : Q.getD N 0 = x
  lt : p.block < w.heap.size
theorem Dn.drew {w0 w : World} {B g cap N k : Nat} {p : Addr} {T Q : List Int} {x : Int} (h : Dn w0 B g cap p T Q N k x w) (q : Nat) : Dn w0 B g cap p T Q N k x (w.drewN q) :=
  ⟨h.q.drew q, h.len, h.dn, h.last, Nat.lt_of_lt_of_le h.lt (drewN_below (Below.refl 0 w) q).size⟩
theorem Dn.sw {w0 w w' : World} {B g cap N k j : Nat} {p : Addr} {T Q : List Int} {x : Int} (h : Dn w0 B g cap p T Q N k x w) (hp : p.block ≠ g) (j0 : 0 < j) (jn : j < N) (hj : (j - 1) / 2 = k) (hm : ∀ c, 0 < c → c < N → (c - 1) / 2 = k → ¬ Ah (Q.getD c 0) (Q.getD j 0)) (a : Ah (Q.getD j 0) (Q.getD k 0))
    (r : OwnI 3 w' B (.slice (some ⟨g, 0, none⟩) Q.length cap) (swL Q k j)) (gr : w.grownBy w' (some g)) : Dn w0 B g cap p T (swL Q k j) N j x w' where
  q := h.q.sw (by have := h.len; omega) (by have := h.len; omega) hp h.lt r gr
  len := by rw [swL_len]; exact h.len
  dn := by
    rw [swL_get (by have := h.len; omega) (by have := h.len; omega)]
    exact dn_step h.dn j0 jn hj hm a
  last := by
    have := congrFun (swL_get (Q := Q) (i := k) (j := j) (by have := h.len; omega) (by have := h.len; omega)) N
    rw [this, swF_far (by omega) (by omega)]
    exact h.last
  lt := Nat.lt_of_lt_of_le h.lt gr.size
/-- what down leaves -/
def DnPost (w0 : World) (B g cap : Nat) (p : Addr) (T : List Int) (N : Nat) (x : Int) (e : Ending) (w' : World) : Prop :=
  (∃ b : Bool, e = .returned (.bool b)) ∧ ∃ Q, Qrow w0 B g cap p T Q w' ∧ Q.length = N + 1 ∧ HeapN N (fun i => Q.getD i 0) ∧ Q.getD N 0 = x
theorem wrap_lit {a b : Int} (h : a = b) (h0 : -9223372036854775808 ≤ b) (h1 : b ≤ 9223372036854775807) : IntKind.i64.wrap a = b := by rw [IntKind.wrap_i64, h]; omega
set_option maxHeartbeats 6400000 in
theorem hpDown_any (B g cap N : Nat) (p : Addr) (T : List Int) (x : Int) (w : World) (d : Dn w B g cap p T T N 0 x w) (hp : p.block ≠ g) (hn : N ≤ 100000) :
    Calls Tryz.prog 218 #[.iface 245 (.pointer (some p)), .int .i64 0, .int .i64 N] w (DnPost w B g cap p T N x) := by
  have D0 := Lib.hid d
  clear d
  go_enter Tryz.func218, Tryz.ntmps218
  go_wp2_with fail
  go_loopw [7] (fun i wr => ∃ (k : Nat) (Q : List Int), k ≤ N ∧ i = .int .i64 k ∧ Dn w B g cap p T Q N k x wr) (fun i _ => N - (intOf i).toNat)
  case atStart => exact ⟨0, T, by omega, rfl, D0.out⟩
  case round =>
    rename_i wr
    obtain ⟨k, Q, hk, rfl, hd⟩ := hrel
    have DD := Lib.hid hd
    have hql := Lib.hid hd.len
    clear hd
    have g1 : IntKind.i64.wrap (2 * (k : Int)) = 2 * (k : Int) := wrap_lit rfl (by omega) (by omega)
    have g2 : IntKind.i64.wrap (2 * (k : Int) + 1) = 2 * (k : Int) + 1 := wrap_lit rfl (by omega) (by omega)
    by_cases h1 : N ≤ 2 * k + 1
    · have c1 : decide ((N : Int) ≤ 2 * (k : Int) + 1) = true := decide_eq_true (by omega)
      go_wp2_with fail
      go_ret
      exact ⟨⟨_, rfl⟩, Q, DD.out.q, DD.out.len, dn_end DD.out.dn (fun c c0 cn ck => by omega), DD.out.last⟩
    · have c1 : decide ((N : Int) ≤ 2 * (k : Int) + 1) = false := decide_eq_false (by omega)
      have c2 : decide (2 * (k : Int) + 1 < 0) = false := decide_eq_false (by omega)
      have g3 : IntKind.i64.wrap (2 * (k : Int) + 1 + 1) = 2 * (k : Int) + 2 := wrap_lit (by omega) (by omega) (by omega)
      have b1 : 2 * k + 1 < Q.length := by have := hql.out; omega
      have b2 : k < Q.length := by omega
      have bN : N < Q.length := by have := hql.out; omega
      by_cases h2 : N ≤ 2 * k + 2
      · have c3 : decide (2 * (k : Int) + 2 < (N : Int)) = false := decide_eq_false (by omega)
        have HM := Lib.hid (dn_pick (f := fun i => Q.getD i 0) (show 2 * k + 1 < N by omega) (.inl h2))
        by_cases ha : Ah (Q.getD (2 * k + 1) 0) (Q.getD k 0)
        · have LT := Lib.hid (foLess_at (2 * k + 1) k (2 * (k : Int) + 1) k wr DD.out.q.row DD.out.q.bds (by omega) (by omega) (by omega) rfl true (decide_eq_true ha))
          have HA := Lib.hid ha
          have MT := meth_less p wr _ DD.out.q.cell
          clear ha
          go_wp2_with fail
          refine LT.out.mono ?_
          rintro e w5 ⟨rfl, q5, rfl⟩
          have D5 := Lib.hid (DD.out.drew q5)
          have MS := meth_swap p _ _ D5.out.q.cell
          clear MT
          go_wp2_with fail
          refine (foSwap_at k (2 * k + 1) k (2 * (k : Int) + 1) _ D5.out.q.row (by omega) (by omega) rfl (by omega)).mono ?_
          rintro e w6 ⟨rfl, hr, hg⟩
          have D6 := Lib.hid (D5.out.sw hp (by omega) (by omega) (by omega) HM.out HA.out hr hg)
          clear hr hg MS
          go_wp2_with fail
          go_roundw
          case rel => exact ⟨2 * k + 1, _, by omega, by go_num, D6.out⟩
          case measure => simp [intOf]; omega
        · have LT := Lib.hid (foLess_at (2 * k + 1) k (2 * (k : Int) + 1) k wr DD.out.q.row DD.out.q.bds (by omega) (by omega) (by omega) rfl false (decide_eq_false ha))
          have HA := Lib.hid ha
          have MT := meth_less p wr _ DD.out.q.cell
          clear ha
          go_wp2_with fail
          refine LT.out.mono ?_
          rintro e w5 ⟨rfl, q5, rfl⟩
          have D5 := Lib.hid (DD.out.drew q5)
          clear MT
          go_wp2_with fail
          go_ret
          exact ⟨⟨_, rfl⟩, Q, D5.out.q, D5.out.len, dn_end D5.out.dn (fun c c0 cn ck => ah_nt HA.out (HM.out c c0 cn ck)), D5.out.last⟩
      · have c3 : decide (2 * (k : Int) + 2 < (N : Int)) = true := decide_eq_true (by omega)
        have b3 : 2 * k + 2 < Q.length := by omega
        have ML := meth_less p wr _ DD.out.q.cell
        by_cases hb : Ah (Q.getD (2 * k + 2) 0) (Q.getD (2 * k + 1) 0)
        · have LS := Lib.hid (foLess_at (2 * k + 2) (2 * k + 1) (2 * (k : Int) + 2) (2 * (k : Int) + 1) wr DD.out.q.row DD.out.q.bds b3 b1 (by omega) (by omega) true (decide_eq_true hb))
          have HM := Lib.hid (dn_pick2 (N := N) (f := fun i => Q.getD i 0) hb)
          clear hb
          go_wp2_with fail
          refine LS.out.mono ?_
          rintro e w4 ⟨rfl, q4, rfl⟩
          have D4 := Lib.hid (DD.out.drew q4)
          clear ML
          generalize wr.drewN q4 = W4 at *
          by_cases ha : Ah (Q.getD (2 * k + 2) 0) (Q.getD k 0)
          · have LT := Lib.hid (foLess_at (2 * k + 2) k (2 * (k : Int) + 2) k W4 D4.out.q.row D4.out.q.bds (by omega) (by omega) (by omega) rfl true (decide_eq_true ha))
            have HA := Lib.hid ha
            have MT := meth_less p W4 _ D4.out.q.cell
            clear ha
            go_wp2_with fail
            refine LT.out.mono ?_
            rintro e w5 ⟨rfl, q5, rfl⟩
            have D5 := Lib.hid (D4.out.drew q5)
            have MS := meth_swap p _ _ D5.out.q.cell
            clear MT
            go_wp2_with fail
            refine (foSwap_at k (2 * k + 2) k (2 * (k : Int) + 2) _ D5.out.q.row (by omega) (by omega) rfl (by omega)).mono ?_
            rintro e w6 ⟨rfl, hr, hg⟩
            have D6 := Lib.hid (D5.out.sw hp (by omega) (by omega) (by omega) HM.out HA.out hr hg)
            clear hr hg MS
            go_wp2_with fail
            go_roundw
            case rel => exact ⟨2 * k + 2, _, by omega, by go_num, D6.out⟩
            case measure => simp [intOf]; omega
          · have LT := Lib.hid (foLess_at (2 * k + 2) k (2 * (k : Int) + 2) k W4 D4.out.q.row D4.out.q.bds (by omega) (by omega) (by omega) rfl false (decide_eq_false ha))
            have HA := Lib.hid ha
            have MT := meth_less p W4 _ D4.out.q.cell
            clear ha
            go_wp2_with fail
            refine LT.out.mono ?_
            rintro e w5 ⟨rfl, q5, rfl⟩
            have D5 := Lib.hid (D4.out.drew q5)
            clear MT
            go_wp2_with fail
            go_ret
            exact ⟨⟨_, rfl⟩, Q, D5.out.q, D5.out.len, dn_end D5.out.dn (fun c c0 cn ck => ah_nt HA.out (HM.out c c0 cn ck)), D5.out.last⟩
        · have LS := Lib.hid (foLess_at (2 * k + 2) (2 * k + 1) (2 * (k : Int) + 2) (2 * (k : Int) + 1) wr DD.out.q.row DD.out.q.bds b3 b1 (by omega) (by omega) false (decide_eq_false hb))
          have HM := Lib.hid (dn_pick (f := fun i => Q.getD i 0) (show 2 * k + 1 < N by omega) (.inr hb))
          clear hb
          go_wp2_with fail
          refine LS.out.mono ?_
          rintro e w4 ⟨rfl, q4, rfl⟩
          have D4 := Lib.hid (DD.out.drew q4)
          clear ML
          generalize wr.drewN q4 = W4 at *
          by_cases ha : Ah (Q.getD (2 * k + 1) 0) (Q.getD k 0)
          · have LT := Lib.hid (foLess_at (2 * k + 1) k (2 * (k : Int) + 1) k W4 D4.out.q.row D4.out.q.bds (by omega) (by omega) (by omega) rfl true (decide_eq_true ha))
            have HA := Lib.hid ha
            have MT := meth_less p W4 _ D4.out.q.cell
            clear ha
            go_wp2_with fail
            refine LT.out.mono ?_
            rintro e w5 ⟨rfl, q5, rfl⟩
            have D5 := Lib.hid (D4.out.drew q5)
            have MS := meth_swap p _ _ D5.out.q.cell
            clear MT
            go_wp2_with fail
            refine (foSwap_at k (2 * k + 1) k (2 * (k : Int) + 1) _ D5.out.q.row (by omega) (by omega) rfl (by omega)).mono ?_
            rintro e w6 ⟨rfl, hr, hg⟩
            have D6 := Lib.hid (D5.out.sw hp (by omega) (by omega) (by omega) HM.out HA.out hr hg)
            clear hr hg MS
            go_wp2_with fail
            go_roundw
            case rel => exact ⟨2 * k + 1, _, by omega, by go_num, D6.out⟩
            case measure => simp [intOf]; omega
          · have LT := Lib.hid (foLess_at (2 * k + 1) k (2 * (k : Int) + 1) k W4 D4.out.q.row D4.out.q.bds (by omega) (by omega) (by omega) rfl false (decide_eq_false ha))
            have HA := Lib.hid ha
            have MT := meth_less p W4 _ D4.out.q.cell
            clear ha
            go_wp2_with fail
            refine LT.out.mono ?_
            rintro e w5 ⟨rfl, q5, rfl⟩
            have D5 := Lib.hid (D4.out.drew q5)
            clear MT
            go_wp2_with fail
            go_ret
            exact ⟨⟨_, rfl⟩, Q, D5.out.q, D5.out.len, dn_end D5.out.dn (fun c c0 cn ck => ah_nt HA.out (HM.out c c0 cn ck)), D5.out.last⟩
end Go.Proofs.YtelekchdbiimiaaGreat
namespace Go.Proofs.YtelekchdbiimiaaGreat
set_option linter.unusedVariables false
set_option maxRecDepth 100000
open Go.RowKit
/-- an agenda's queue that lies in memory: the agenda's block b of two cells, and the row of its numbers, which is a heap -/
structure Qu (w : World) (B b : Nat) (v mv : Value) (Q : List Int) : Prop where
  top : w.ownsRow B 242 2 (.slice (some ⟨b, 0, none⟩) 1 1) 1 [v, mv]
  row : OwnI 3 w B v Q
  bds : BdI Q
def quF (b : Nat) (v : Value) : Nat → Prop := fun k => k = b ∨ v.ownBlock = some k
def Qu.hp (Q : List Int) : Prop := HeapN Q.length (fun k => Q.getD k 0)
section
variable {w w' : World} {B b : Nat} {v mv : Value} {Q : List Int}
theorem Qu.cells (d : Qu w B b v mv Q) : w.cell? ⟨b, 0, none⟩ = some v ∧ w.cell? ⟨b, 1, none⟩ = some mv := ⟨d.top.cellAt 0 (by omega), d.top.cellAt 1 (by omega)⟩
theorem Qu.lt (d : Qu w B b v mv Q) : B ≤ b ∧ b < w.heap.size ∧ ∀ h, v.ownBlock = some h → B ≤ h ∧ h < w.heap.size ∧ h ≠ b := by
  refine ⟨(d.top.lt b rfl).1, (d.top.lt b rfl).2, fun h e => ⟨(World.ownsRow.lt d.row h e).1, (World.ownsRow.lt d.row h e).2, fun q => ?_⟩⟩
  rcases own_apart d.top d.row (by decide) with r | r
  · simp [Value.ownBlock] at r
  · exact r (by rw [e, q]; rfl)
theorem Qu.kp {F : Nat → Prop} (d : Qu w B b v mv Q) (p : Kp F w w') (h : ∀ k, quF b v k → ¬ F k) : Qu w' B b v mv Q :=
  ⟨own_kp d.top p (fun k e => h k (.inl (by simp [Value.ownBlock] at e; exact e.symm))), own_kp d.row p (fun k e => h k (.inr e)), d.bds⟩
theorem Qu.below (d : Qu w B b v mv Q) (hb : Below w.heap.size w w') : Qu w' B b v mv Q := d.kp (Kp.of (F := fun _ => False) hb) fun _ _ h => h
end
theorem foInt_info : (Tryz.prog.info? 3).map (fun i => (i.zero, i.size, i.bytes)) = some (some (.int .i64 0), 1, 8) := by kernel_rfl
theorem foQPush_any {w : World} {B b : Nat} {v mv : Value} {Q : List Int} (x : Int) (d : Qu w B b v mv Q) (hn : Q.length ≤ 100000) (hx : 1 ≤ x ∧ x ≤ 9223372036854775807) :
    Calls Tryz.prog 248 #[.pointer (some ⟨b, 0, none⟩), .iface 3 (.int .i64 x)] w fun e w' => e = .returned (.tuple #[]) ∧ ∃ v', Qu w' B b v' mv (Q ++ [x]) ∧ Kp (quF b v) w w' ∧ At2 w v v' := by
  have D := Lib.hid d
  have hlt := d.lt
  have hbb := Lib.hid hlt
  have c0 := d.cells.1
  have asQ : ∀ (u : Value) (w : World), (Instr.typeAssert (.iface 3 u) 20 3 true).run Tryz.prog w = .ok (.tuple #[u, .bool true]) w := fun _ _ => by kernel_rfl
  have hBz : B ≤ (w.alloc (.cells #[.int .i64 x] 3)).heap.size := by have := hlt.1; simp; omega
  clear d hlt
  obtain ⟨i0, hi, hz0, hz1, hz2⟩ := info_parts foInt_info
  go_enter Tryz.func248, Tryz.ntmps248
  go_wp2_with (at_builtin; refine wpList_append_own_at _ rfl _ _ 240 rfl B 3 i0 (.int .i64 0) 1 8 Tryz.underlying240 hi hz0 hz1 hz2 rfl (by decide) _ Q.length (ints Q) rfl (World.ownsRow.alloc D.out.row _) ⟨w.heap.size, 0, none⟩ 1 1 [.int .i64 x] rfl rfl (one_new _ _ _ _ rfl) (one_int _) (by unfold maxLen; omega) (by omega) hBz ?_)
  intro v' w1 hown1 hgrow _ hat
  obtain ⟨A', m', c', hv'⟩ := own_slice hown1
  have hk1 : Kp (fun k => v.ownBlock = some k) w w1 := ((Kp.of (F := fun k => v.ownBlock = some k) (below_one w _)).trans (Kp.grown hgrow) (fun k _ h => h.symm))
  have TOP1 := Lib.hid (own_kp D.out.top hk1 (fun k e h => (hbb.out.2.2 k h).2.2 (by simp [Value.ownBlock] at e; exact e.symm)))
  have c1 := TOP1.out.cellAt 0 (by omega)
  have f1 := TOP1.out.frozenAt 0
  have hz1 := hk1.size
  have HK := Lib.hid ((hk1.mono (G := quF b v) (fun k _ h => .inr h)).trans (Kp.setCell w1 ⟨b, 0, none⟩ v') (fun k hk h => .inl h))
  have HA : Hid (At2 w v v') := fun k e => by
    rcases hat with q | q
    · exact .inl (q.symm.trans e)
    · refine .inr ?_
      rw [q] at e
      injection e with e
      omega
  have HR : Hid (OwnI 3 w1 B v' (Q ++ [x])) := ownI_snoc rfl hown1
  have HNB : Hid (∀ k, v'.ownBlock = some k → ¬ k = b) := fun k e h => by
    rcases own_apart TOP1.out HR.out (by decide) with r | r
    · simp [Value.ownBlock] at r
    · exact r (by rw [e, h]; rfl)
  have HB2 : Hid (BdI (Q ++ [x])) := fun y hy => by
    rcases List.mem_append.1 hy with h | h
    · exact D.out.bds y h
    · rw [List.mem_singleton.1 h]; exact hx
  clear hown1 hgrow hat hk1 hz1
  subst hv'
  go_wp2_with fail
  go_end0
  exact ⟨rfl, _, ⟨(TOP1.out.stored 0 _).1, own_kp HR.out (Kp.setCell w1 ⟨b, 0, none⟩ _) (fun k e h => HNB.out k e h), HB2.out⟩, HK.out, HA.out⟩
theorem foQPop_any {w : World} {B b g cap : Nat} {mv : Value} {T : List Int} (x : Int) (d : Qu w B b (.slice (some ⟨g, 0, none⟩) (T.length + 1) cap) mv (T ++ [x])) (hn : T.length ≤ 100000) :
    Calls Tryz.prog 247 #[.pointer (some ⟨b, 0, none⟩)] w fun e w' => e = .returned (.iface 3 (.int .i64 x)) ∧ Qu w' B b (.slice (some ⟨g, 0, none⟩) T.length cap) mv T ∧ Kp (quF b (.slice (some ⟨g, 0, none⟩) (T.length + 1) cap)) w w' := by
  have D := Lib.hid d
  have hlt := d.lt
  have c0 := d.cells.1
  have f0 := d.top.frozenAt 0
  have HR : Hid (OwnI 3 w B (.slice (some ⟨g, 0, none⟩) T.length cap) T) := ownI_cut (P := [x]) (by simpa using d.row)
  have cx : w.cell? ⟨g, T.length, none⟩ = some (.int .i64 x) := by
    have q := ownI_cell (T := T ++ [x]) (cap := cap) (g := g) (by simpa using d.row) T.length (by simp)
    rw [q]; simp [List.getD_eq_getElem?_getD]
  have hcap : T.length ≤ cap := by
    rcases ownI_form d.row with ⟨e, _⟩ | ⟨g', cap', e, _, _, h, _⟩
    · cases e
    · injection e with _ _ e; subst e; simp at h; omega
  obtain ⟨i0, hi, hz0, hz1, hz2⟩ := info_parts foInt_info
  have st := sl_to Tryz.underlying240 hi hz1 (some ⟨g, 0, none⟩) (T.length + 1) cap T.length hcap
  have hw1 : IntKind.i64.wrap ((T.length : Int) + 1 - 1) = (T.length : Int) := wrap_lit (by omega) (by omega) (by omega)
  have HN : Hid (∀ k, (Value.slice (some ⟨g, 0, none⟩) T.length cap).ownBlock = some k → ¬ k = b) := fun k e h => (hlt.2.2 k e).2.2 h
  have HB2 : Hid (BdI T) := fun y hy => d.bds y (List.mem_append.2 (.inl hy))
  have HK := Lib.hid ((Kp.setCell w ⟨b, 0, none⟩ (.slice (some ⟨g, 0, none⟩) T.length cap)).mono (G := quF b (.slice (some ⟨g, 0, none⟩) (T.length + 1) cap)) (fun k _ h => .inl h))
  clear d hlt hi hz0 hz1 hz2 hcap
  generalize hnn : T.length = n at *
  go_enter Tryz.func247, Tryz.ntmps247
  go_wp2_with fail
  go_ret
  exact ⟨rfl, ⟨(D.out.top.stored 0 _).1, own_kp HR.out (Kp.setCell w ⟨b, 0, none⟩ _) (fun k e h => HN.out k e h), HB2.out⟩, HK.out⟩
end Go.Proofs.YtelekchdbiimiaaGreat
namespace Go.Proofs.YtelekchdbiimiaaGreat
set_option linter.unusedVariables false
set_option maxRecDepth 100000
open Go.RowKit
theorem qu_slice {w : World} {B b : Nat} {v mv : Value} {Q : List Int} (d : Qu w B b v mv Q) (h : 0 < Q.length) : ∃ g cap, v = .slice (some ⟨g, 0, none⟩) Q.length cap ∧ b ≠ g := by
  rcases ownI_form d.row with ⟨_, e⟩ | ⟨g, cap, e, _⟩
  · rw [e] at h; simp at h
  · exact ⟨g, cap, e, fun q => (d.lt.2.2 g (by rw [e]; rfl)).2.2 q.symm⟩
theorem qrow_qu {w0 w : World} {B b g cap : Nat} {mv : Value} {T Q : List Int} (d : Qu w0 B b (.slice (some ⟨g, 0, none⟩) T.length cap) mv T) (h : Qrow w0 B g cap ⟨b, 0, none⟩ T Q w) (hb : b ≠ g) : Qu w B b (.slice (some ⟨g, 0, none⟩) Q.length cap) mv Q ∧ Kp (fun k => k = g) w0 w := by
  have hk : Kp (fun k => k = g) w0 w := (Kp.grown h.grown).mono fun k _ e => by injection e
  refine ⟨⟨?_, h.row, h.bds⟩, hk⟩
  have := own_kp d.top hk (fun k e q => hb (by simp [Value.ownBlock] at e; omega))
  rw [h.perm.length_eq]
  exact this
set_option maxHeartbeats 3200000 in
theorem hpPush_any {w : World} {B b : Nat} {v mv : Value} {Q : List Int} (x : Int) (d : Qu w B b v mv Q) (hh : HeapN Q.length (fun k => Q.getD k 0)) (hn : Q.length ≤ 90000) (hx : 1 ≤ x ∧ x ≤ 9223372036854775807) :
    Calls Tryz.prog 217 #[.iface 245 (.pointer (some ⟨b, 0, none⟩)), .iface 3 (.int .i64 x)] w fun e w' => e = .returned (.tuple #[]) ∧ ∃ v' T, Qu w' B b v' mv T ∧ T.Perm (Q ++ [x]) ∧ HeapN T.length (fun k => T.getD k 0) ∧ Kp (quF b v) w w' ∧ At2 w v v' := by
  have D := Lib.hid d
  have HH := Lib.hid hh
  have mp := fun w => meth_push ⟨b, 0, none⟩ w
  clear d hh
  go_enter Tryz.func217, Tryz.ntmps217
  go_wp2_with fail
  refine (foQPush_any x D.out (by omega) hx).mono ?_
  rintro e w1 ⟨rfl, v1, hd1, hk1, ha1⟩
  obtain ⟨g, cap, rfl, hbg⟩ := qu_slice hd1 (by simp)
  have D1 := Lib.hid hd1
  have K1 := Lib.hid hk1
  have A1 := Lib.hid ha1
  have ml := meth_len ⟨b, 0, none⟩ w1 _ hd1.cells.1
  have hlt := hd1.lt.2.1
  have hw : IntKind.i64.wrap (((Q ++ [x]).length : Int) - 1) = (Q.length : Int) := wrap_lit (by simp) (by omega) (by omega)
  have U := Lib.hid (heap_app HH.out x)
  clear hd1 hk1 ha1 mp
  obtain ⟨T, hT⟩ : ∃ T, T = Q ++ [x] := ⟨_, rfl⟩
  have HT := Lib.hid hT
  have hTl : Hid (T.length = Q.length + 1) := by show _ = _; rw [hT]; simp
  rw [← hT] at D1 ml hw U A1
  clear hT
  go_wp2_with (first | (go_at_call 243; refine (foQLen_any _ _ _ _).mono ?_; rintro e w2 ⟨rfl, rfl⟩))
  refine (hpUp_any B g cap Q.length ⟨b, 0, none⟩ T w1 D1.out.row D1.out.cells.1 hbg hlt D1.out.bds (by have := hTl.out; omega) (by have := hTl.out; omega) (by have h := U.out; rw [hTl.out]; exact h)).mono ?_
  rintro e w3 ⟨rfl, Q3, hq3, hh3⟩
  obtain ⟨d3, k3⟩ := qrow_qu D1.out hq3 hbg
  have P3 := Lib.hid hq3.perm
  have D3 := Lib.hid d3
  have H3 := Lib.hid hh3
  have L3 : Q3.length = T.length := hq3.perm.length_eq
  have K3 : Hid (Kp (quF b v) w w3) := K1.out.trans k3 (fun k hk e => by
    rcases A1.out g rfl with q | q
    · subst e; exact .inr q
    · omega)
  clear hq3 hh3 d3 k3 ml
  go_wp2_with fail
  go_end0
  exact ⟨rfl, _, Q3, D3.out, (by rw [← HT.out]; exact P3.out), H3.out, K3.out, fun k e => A1.out k (by simpa [Value.ownBlock] using e)⟩
theorem heap_cut {Q : List Int} {n : Nat} {x : Int} (hl : Q.length = n + 1) (hh : HeapN n (fun i => Q.getD i 0)) (hx : Q.getD n 0 = x) : ∃ T, Q = T ++ [x] ∧ T.length = n ∧ HeapN T.length (fun k => T.getD k 0) := by
  have e : Q = Q.take n ++ [x] := by
    have h := take_at (T := Q) (k := n) (by omega)
    rw [hx, List.take_of_length_le (by omega)] at h
    exact h
  have l : (Q.take n).length = n := by rw [List.length_take]; omega
  refine ⟨Q.take n, e, l, ?_⟩
  rw [l]
  intro k h0 hn
  have q := hh k h0 hn
  have a : ∀ i, i < n → (Q.take n).getD i 0 = Q.getD i 0 := fun i hi => by simp [List.getD_eq_getElem?_getD, hi]
  simp only [a k hn, a ((k - 1) / 2) (by omega)]
  exact q
set_option maxHeartbeats 3200000 in
theorem hpPop_any {w : World} {B b g cap n : Nat} {mv : Value} {Q : List Int} (d : Qu w B b (.slice (some ⟨g, 0, none⟩) Q.length cap) mv Q) (hh : HeapN Q.length (fun k => Q.getD k 0)) (hl : Q.length = n + 1) (hn : n ≤ 90000) (x : Int) (hx : Q.getD 0 0 = x) :
    Calls Tryz.prog 208 #[.iface 245 (.pointer (some ⟨b, 0, none⟩))] w fun e w' => e = .returned (.iface 3 (.int .i64 x)) ∧ ∃ T, Qu w' B b (.slice (some ⟨g, 0, none⟩) n cap) mv T ∧ T.length = n ∧ (T ++ [x]).Perm Q ∧ HeapN T.length (fun k => T.getD k 0) ∧ Kp (quF b (.slice (some ⟨g, 0, none⟩) Q.length cap)) w w' := by
  have D := Lib.hid d
  have HH := Lib.hid hh
  have HL := Lib.hid hl
  have hbg : b ≠ g := fun q => (d.lt.2.2 g rfl).2.2 q.symm
  have hlt := d.lt.2.1
  have ml := meth_len ⟨b, 0, none⟩ w _ d.cells.1
  have ms := meth_swap ⟨b, 0, none⟩ w _ d.cells.1
  have hw : IntKind.i64.wrap ((Q.length : Int) - 1) = (n : Int) := wrap_lit (by omega) (by omega) (by omega)
  have SW := Lib.hid (foSwap_at (B := B) (g := g) (cap := cap) (Q := Q) 0 n 0 n w d.row (by omega) (by omega) rfl rfl)
  clear d hh hl
  go_enter Tryz.func208, Tryz.ntmps208
  go_wp2_with (first | (go_at_call 243; refine (foQLen_any _ _ _ _).mono ?_; rintro e w2 ⟨rfl, rfl⟩))
  refine SW.out.mono ?_
  rintro e w1 ⟨rfl, hr, hg⟩
  have hq0 : Qrow w B g cap ⟨b, 0, none⟩ Q Q w := ⟨D.out.row, List.Perm.refl _, D.out.cells.1, D.out.bds, ⟨rfl, rfl, rfl, Nat.le_refl _, fun _ _ _ => rfl⟩⟩
  have hq1 := hq0.sw (i := 0) (j := n) (by have := HL.out; omega) (by have := HL.out; omega) hbg hlt hr hg
  obtain ⟨d1, k1⟩ := qrow_qu D.out hq1 hbg
  have D1 := Lib.hid d1
  have K1 := Lib.hid k1
  have P1 := Lib.hid hq1.perm
  have hx1 : Hid ((swL Q 0 n).getD n 0 = x) := by
    show _ = _
    rw [← hx]
    rw [congrFun (swL_get (Q := Q) (i := 0) (j := n) (by have := HL.out; omega) (by have := HL.out; omega)) n]
    unfold swF; rw [if_pos rfl]
  have hd1 : Hid (DnI n (fun i => (swL Q 0 n).getD i 0) 0) := by
    show DnI _ _ _
    rw [swL_get (by have := HL.out; omega) (by have := HL.out; omega)]
    exact heap_top (by have h := HH.out; rw [HL.out] at h; exact h)
  have hl1 : Hid ((swL Q 0 n).length = n + 1) := by show _ = _; rw [swL_len]; exact HL.out
  have hlt1 := d1.lt.2.1
  clear hr hg hq0 hq1 d1 k1 ml ms SW hx
  generalize swL Q 0 n = T1 at *
  have DD := Lib.hid (hpDown_any B g cap n ⟨b, 0, none⟩ T1 x w1 ⟨⟨D1.out.row, List.Perm.refl _, D1.out.cells.1, D1.out.bds, ⟨rfl, rfl, rfl, Nat.le_refl _, fun _ _ _ => rfl⟩⟩, hl1.out, hd1.out, hx1.out, hlt1⟩ hbg (by omega))
  go_wp2_with fail
  refine DD.out.mono ?_
  rintro e w2 ⟨⟨b2, rfl⟩, Q2, hq2, hl2, hh2, hx2⟩
  obtain ⟨d2, k2⟩ := qrow_qu D1.out hq2 hbg
  have P2 := hq2.perm
  obtain ⟨T, rfl, hTl, hTh⟩ := heap_cut hl2 hh2 hx2
  have HP := Lib.hid (P2.trans P1.out)
  have HTH := Lib.hid hTh
  have D2 : Hid (Qu w2 B b (.slice (some ⟨g, 0, none⟩) (T.length + 1) cap) mv (T ++ [x])) := by have q := d2; rw [List.length_append] at q; exact q
  have K2 := Lib.hid (K1.out.trans k2 (fun k _ e => e))
  have mp := meth_pop ⟨b, 0, none⟩ w2
  have HTL := Lib.hid hTl
  clear hq2 hl2 hh2 hx2 d2 k2 P2 hTl hTh DD D1 K1
  go_wp2_with fail
  refine (foQPop_any x D2.out (by have := HTL.out; omega)).mono ?_
  rintro e w3 ⟨rfl, hd3, hk3⟩
  have D3 : Hid (Qu w3 B b (.slice (some ⟨g, 0, none⟩) n cap) mv T) := by have q := hd3; rw [HTL.out] at q; exact q
  have K3 : Hid (Kp (quF b (.slice (some ⟨g, 0, none⟩) Q.length cap)) w w3) := (K2.out.mono (G := quF b (.slice (some ⟨g, 0, none⟩) Q.length cap)) (fun k _ e => .inr (by rw [e]; rfl))).trans hk3 (fun k _ e => by
    rcases e with e | e
    · exact .inl e
    · exact .inr e)
  clear hd3 hk3 mp
  go_wp2_with fail
  go_ret
  exact ⟨rfl, T, D3.out, HTL.out, HP.out, HTH.out, K3.out⟩
end Go.Proofs.YtelekchdbiimiaaGreat
namespace Go.Proofs.YtelekchdbiimiaaGreat
set_option linter.unusedVariables false
set_option maxRecDepth 100000
open Go.RowKit
/-- an agenda that lies in memory: its queue, and the map of what is there; W: its numbers in the order of folding -/
structure Agd (w : World) (B b m n : Nat) (v : Value) (Q W : List Int) : Prop where
  qu : Qu w B b v (.map (some m)) Q
  hp : HpW Q W
  low : B ≤ m
  len : W.length ≤ n
  there : ∃ D : DataW Unit, w.ownsMap Tryz.prog 3 unitElem m n D ∧ ∀ x, Maps.has D (.int .i64 x) = decide (x ∈ W)
def agF (b m : Nat) (v : Value) : Nat → Prop := fun k => quF b v k ∨ k = m
theorem map_row {w : World} {m n k1 B e size n2 : Nat} {v : Value} {R : Value → Option (DataW Unit × List MemPlace)} {D : DataW Unit} {xs : List Value} {P : Program} (h : w.ownsMap P k1 R m n D) (o : w.ownsRow B e size v n2 xs) : v.ownBlock ≠ some m := fun q => by
  obtain ⟨es, clock, hb, _⟩ := h
  rcases o.2 with ⟨hv, _⟩ | ⟨g, cap, cur, rfl, _, hgg, _⟩
  · rw [hv] at q; cases q
  · simp only [Value.ownBlock, Option.some.injEq] at q
    subst q
    rw [hb] at hgg
    cases hgg
section
variable {w w' : World} {B b m n : Nat} {v : Value} {Q W : List Int}
theorem Agd.kp {F : Nat → Prop} (d : Agd w B b m n v Q W) (p : Kp F w w') (h : ∀ k, agF b m v k → ¬ F k) : Agd w' B b m n v Q W := by
  obtain ⟨D, h1, h2⟩ := d.there
  refine ⟨d.qu.kp p fun k e => h k (.inl e), d.hp, d.low, d.len, D, ?_, h2⟩
  obtain ⟨es, clock, hb, r⟩ := h1
  exact ⟨es, clock, by rw [p.block m (Array.getElem?_eq_some_iff.1 hb).1 (h m (.inr rfl))]; exact hb, r⟩
theorem Agd.below (d : Agd w B b m n v Q W) (hb : Below w.heap.size w w') : Agd w' B b m n v Q W := d.kp (Kp.of (F := fun _ => False) hb) fun _ _ h => h
theorem Agd.more {n' : Nat} (d : Agd w B b m n v Q W) (h : n ≤ n') : Agd w B b m n' v Q W := by
  obtain ⟨D, h1, h2⟩ := d.there
  exact ⟨d.qu, d.hp, d.low, Nat.le_trans d.len h, D, h1.mono h, h2⟩
theorem Agd.blocks (d : Agd w B b m n v Q W) : ∀ k, agF b m v k → B ≤ k ∧ k < w.heap.size := fun k h => by
  obtain ⟨D, h1, _⟩ := d.there
  rcases h with (rfl | h) | rfl
  · exact ⟨d.qu.lt.1, d.qu.lt.2.1⟩
  · exact ⟨(d.qu.lt.2.2 k h).1, (d.qu.lt.2.2 k h).2.1⟩
  · exact ⟨d.low, h1.lt⟩
theorem Agd.qlen (d : Agd w B b m n v Q W) : Q.length = W.length := d.hp.len
end
theorem foLen_any {w : World} {B b m n : Nat} {v : Value} {Q W : List Int} (d : Agd w B b m n v Q W) :
    Calls Tryz.prog 207 #[.pointer (some ⟨b, 0, none⟩)] w fun e w' => e = .returned (.int .i64 (W.length : Int)) ∧ w = w' := by
  have c0 := d.qu.cells.1
  have hl := d.qlen
  rcases ownI_form d.qu.row with ⟨rfl, hq⟩ | ⟨g, cap, rfl, _⟩
  · have e : W.length = 0 := by rw [← hl, hq]; rfl
    rw [e]
    clear d hl hq e
    go_enter Tryz.func207, Tryz.ntmps207
    go_wp2_with fail
    go_ret
    exact ⟨rfl, rfl⟩
  · rw [← hl]
    clear d hl
    go_enter Tryz.func207, Tryz.ntmps207
    go_wp2_with fail
    go_ret
    exact ⟨rfl, rfl⟩
theorem foKeyed : Maps.Keyed Tryz.prog 3 := Maps.int_keyed Tryz.underlying3
theorem foZero (w : World) : (zeroValue 250).run Tryz.prog w = .ok (.agg #[]) w := by kernel_rfl
/-- what a call of Put leaves -/
def PutPost (B b m n : Nat) (v : Value) (W : List Int) (x : Int) (w : World) (e : Ending) (w' : World) : Prop :=
  e = .returned (.bool (decide (1 ≤ x ∧ ¬ x ∈ W))) ∧ ∃ v' Q', Agd w' B b m (n + 1) v' Q' (if 1 ≤ x then withH W x else W) ∧ Kp (agF b m v) w w' ∧ At2 w v v'
set_option maxHeartbeats 3200000 in
theorem foPut_any {w : World} {B b m n : Nat} {v : Value} {Q W : List Int} (x : Int) (d : Agd w B b m n v Q W) (hn : n ≤ 80000) (X0 : -9223372036854775808 ≤ x) (X1 : x ≤ 9223372036854775807) :
    Calls Tryz.prog 205 #[.pointer (some ⟨b, 0, none⟩), .int .i64 x] w (PutPost B b m n v W x w) := by
  by_cases h1 : 1 ≤ x
  · have hlt : decide (x < 1) = false := decide_eq_false (by omega)
    obtain ⟨Dt, hm, hh⟩ := d.there
    have c1 := d.qu.cells.2
    have hkey := Maps.keyOf_int_mk (P := Tryz.prog) (k := 3) Tryz.underlying3 (WalkArith.wf_i64 (n := x) ⟨X0, X1⟩)
    have D := Lib.hid d
    have M := Lib.hid hm
    have H := Lib.hid hh
    by_cases hx : x ∈ W
    · have hhas : Maps.has Dt (.int .i64 x) = true := by rw [hh x]; exact decide_eq_true hx
      have HW := Lib.hid (with_in d.hp.srt hx)
      have HX := Lib.hid hx
      clear d hm hh hx
      go_enter Tryz.func205, Tryz.ntmps205
      go_wp2_with (first | (at_lookup; refine wpList_lookup_own_unit _ rfl _ _ 239 rfl 3 250 foKeyed Tryz.underlying239 (foZero _) m n Dt rfl M.out _ _ rfl hkey ?_))
      go_ret
      refine ⟨congrArg (fun t => Ending.returned (.bool t)) (decide_eq_false (fun q => q.2 HX.out)).symm, v, Q, ?_, Kp.of (below_one _ _), At2.refl _ _⟩
      rw [if_pos h1, HW.out]
      exact (D.out.below (below_one _ _)).more (by omega)
    · have hhas : Maps.has Dt (.int .i64 x) = false := by rw [hh x]; exact decide_eq_false hx
      have HX := Lib.hid hx
      have hbz := d.qu.lt.2.1
      have hbm : b ≠ m := fun e => map_row hm d.qu.top (by simp [Value.ownBlock, e])
      have hvm := map_row hm d.qu.row
      have hlen := d.qlen
      have hql : Q.length ≤ 90000 := by have := d.len; omega
      clear d hm hh hx
      go_enter Tryz.func205, Tryz.ntmps205
      go_wp2_with (first
        | (at_lookup; refine wpList_lookup_own_unit _ rfl _ _ 239 rfl 3 250 foKeyed Tryz.underlying239 (foZero _) m n Dt rfl M.out _ _ rfl hkey ?_)
        | (at_mapUpdate; refine wpList_mapUpdate_in _ rfl _ _ _ 239 rfl 3 250 foKeyed Tryz.underlying239 unitElem m n Dt rfl (World.ownsMap.alloc M.out _) (by unfold maxLen; omega) _ _ _ rfl rfl hkey (.agg []) [] unitElem_mk ?_))
      intro w1 hown1 hturn
      have hk1 : Kp (fun k => k = m) w w1 := ((Kp.of (F := fun k => k = m) (below_one w (.cells #[] 250))).trans (Kp.grown hturn.grown) (fun k _ e => by injection e))
      have hq1 := D.out.qu.kp hk1 (fun k e q => by
        subst q
        rcases e with e | e
        · exact hbm e.symm
        · exact hvm e)
      have Q1 := Lib.hid hq1
      have K1 := Lib.hid hk1
      have M1 := Lib.hid hown1
      have HNM : Hid (¬ quF b v m) := fun e => by
        rcases e with e | e
        · exact hbm e.symm
        · exact hvm e
      clear hown1 hturn hk1 hq1
      go_wp2_with fail
      refine (hpPush_any x Q1.out D.out.hp.heap hql ⟨h1, X1⟩).mono ?_
      rintro e w2 ⟨rfl, v2, T, hq2, hp2, hh2, hk2, ha2⟩
      have P2 : Hid (PutPost B b m n v W x w (.returned (.bool true)) w2) := by
        refine ⟨congrArg (fun t => Ending.returned (.bool t)) (decide_eq_true ⟨h1, HX.out⟩).symm, v2, T, ?_, (K1.out.mono (G := agF b m v) (fun k _ e => .inr e)).trans hk2 (fun k _ e => .inl e), fun k e => (ha2 k e).imp id fun q => Nat.le_trans K1.out.size q⟩
        rw [if_pos h1]
        refine ⟨hq2, D.out.hp.put HX.out hp2 hh2, D.out.low, ?_, Dt.put (.int .i64 x) (.agg []), ?_, fun y => ?_⟩
        · have := D.out.len
          rw [with_len D.out.hp.srt x, if_neg HX.out]; omega
        · obtain ⟨es, clock, hb, r⟩ := M1.out
          exact ⟨es, clock, by rw [hk2.block m (Array.getElem?_eq_some_iff.1 hb).1 HNM.out]; exact hb, r⟩
        · by_cases e : y = x
          · subst e
            rw [Maps.has_put_same (k := .int .i64 y) M.out.isMap (show WideAt.IsKeyLit (.int .i64 y) from trivial)]
            exact (decide_eq_true ((with_mem W y y).2 (.inl rfl))).symm
          · rw [Maps.has_put_other (fun q => e (by injection q)), H.out y]
            have q : (y ∈ withH W x) = (y ∈ W) := propext ((with_mem W x y).trans ⟨fun h => h.resolve_left e, .inr⟩)
            simp only [q]
      clear hq2 hp2 hh2 hk2 ha2
      go_wp2_with fail
      go_ret
      exact P2.out
  · have hlt : decide (x < 1) = true := decide_eq_true (by omega)
    have D := Lib.hid d
    clear d
    go_enter Tryz.func205, Tryz.ntmps205
    go_wp2_with fail
    go_ret
    refine ⟨congrArg (fun t => Ending.returned (.bool t)) (decide_eq_false (fun q => absurd q.1 (by omega))).symm, v, Q, ?_, Kp.refl _ _, At2.refl _ _⟩
    rw [if_neg (by omega)]
    exact D.out.more (by omega)
theorem foPop_nil {w : World} {B b m n : Nat} {v : Value} {Q : List Int} (d : Agd w B b m n v Q []) :
    Calls Tryz.prog 193 #[.pointer (some ⟨b, 0, none⟩)] w fun e w' => e = .returned (.tuple #[.int .i64 0, .bool false]) ∧ w = w' := by
  have LN := Lib.hid (foLen_any d)
  clear d
  go_enter Tryz.func193, Tryz.ntmps193
  go_wp2_with (go_at_call 207; refine LN.out.mono ?_; rintro e w1 ⟨rfl, rfl⟩)
  go_ret2
  exact ⟨rfl, rfl⟩
set_option maxHeartbeats 3200000 in
theorem foPop_cons {w : World} {B b m n : Nat} {v : Value} {Q W : List Int} {x : Int} (d : Agd w B b m n v Q (x :: W)) (hn : n ≤ 80000) :
    Calls Tryz.prog 193 #[.pointer (some ⟨b, 0, none⟩)] w fun e w' => e = .returned (.tuple #[.int .i64 x, .bool true]) ∧ ∃ v' Q', Agd w' B b m n v' Q' W ∧ Kp (agF b m v) w w' ∧ At2 w v v' := by
  have hql := d.qlen
  obtain ⟨g, cap, rfl, hbg⟩ := qu_slice d.qu (by rw [hql]; simp)
  have c0 := d.qu.cells.1
  have cx := ownI_cell (T := Q) d.qu.row 0 (by rw [hql]; simp)
  rw [d.hp.head] at cx
  have LN := Lib.hid (foLen_any d)
  have hxb := d.qu.bds x ((d.hp.mem x).2 (by simp))
  have HP := Lib.hid (hpPop_any (n := W.length) d.qu d.hp.heap (by rw [hql]; rfl) (by have := d.len; simp at this; omega) x d.hp.head)
  have D := Lib.hid d
  obtain ⟨Dt, hm, hh⟩ := d.there
  have hbm : b ≠ m := fun e => map_row hm d.qu.top (by simp [Value.ownBlock, e])
  have hvm := map_row hm d.qu.row
  have M := Lib.hid hm
  have H := Lib.hid hh
  have hl0 : (0 : Int) < (Q.length : Int) := by rw [hql]; simp only [List.length_cons]; omega
  have hne : (((x :: W).length : Int) == 0) = false := beq_eq_false_iff_ne.2 (by simp only [List.length_cons]; omega)
  have hkey := Maps.keyOf_int_mk (P := Tryz.prog) (k := 3) Tryz.underlying3 (WalkArith.wf_i64 (n := x) ⟨by omega, by omega⟩)
  clear d hm hh
  obtain ⟨N, hN⟩ : ∃ N, N = (x :: W).length := ⟨_, rfl⟩
  rw [← hN] at hne LN
  have HQL := Lib.hid hql
  clear hN hql
  go_enter Tryz.func193, Tryz.ntmps193
  go_wp2_with (go_at_call 207; refine LN.out.mono ?_; rintro e w1 ⟨rfl, rfl⟩)
  refine HP.out.mono ?_
  rintro e w1 ⟨rfl, T, hq1, hl1, hp1, hh1, hk1⟩
  have Q1 := Lib.hid hq1
  have P1 := Lib.hid hp1
  have H1 := Lib.hid hh1
  have K1 := Lib.hid hk1
  have c1 := hq1.cells.2
  have hnm : ∀ k, quF b (.slice (some ⟨g, 0, none⟩) Q.length cap) k → ¬ k = m := fun k e q => by
    subst q
    rcases e with e | e
    · exact hbm e.symm
    · exact hvm e
  have M1 : Hid (w1.ownsMap Tryz.prog 3 unitElem m n Dt) := by
    obtain ⟨es, clock, hb, r⟩ := M.out
    exact ⟨es, clock, by rw [hk1.block m (Array.getElem?_eq_some_iff.1 hb).1 (fun e => hnm m e rfl)]; exact hb, r⟩
  have HNM := Lib.hid hnm
  clear hq1 hl1 hp1 hh1 hk1 c0 cx LN HP hnm
  go_wp2_with (at_delete; refine wpList_delete_own _ rfl _ _ 239 3 rfl 250 foKeyed Tryz.underlying239 unitElem m n Dt rfl M1.out _ _ rfl hkey ?_)
  intro w2 hown2 hturn
  have hk2 : Kp (fun k => k = m) w1 w2 := (Kp.grown hturn.grown).mono (fun k _ e => by injection e)
  have PP : Hid (∃ v' Q', Agd w2 B b m n v' Q' W ∧ Kp (agF b m (.slice (some ⟨g, 0, none⟩) Q.length cap)) w w2 ∧ At2 w (.slice (some ⟨g, 0, none⟩) Q.length cap) v') := by
    refine ⟨_, T, ⟨Q1.out.kp hk2 (fun k e => HNM.out k e), D.out.hp.pop P1.out H1.out, D.out.low, by have := D.out.len; simp at this; omega, Dt.del (.int .i64 x), hown2, fun y => ?_⟩, (K1.out.mono (G := agF b m _) (fun k _ e => .inl e)).trans hk2 (fun k _ e => .inr e), fun k e => .inl e⟩
    have hs := (List.pairwise_cons.1 D.out.hp.srt).1
    by_cases e : y = x
    · subst e
      rw [Maps.has_del_same]
      exact (decide_eq_false (fun q => ah_irr _ (hs _ q))).symm
    · rw [Maps.has_del_other (fun q => e (by injection q)), H.out y]
      have q : (y ∈ x :: W) = (y ∈ W) := propext (List.mem_cons.trans ⟨fun h => h.resolve_left e, .inr⟩)
      simp only [q]
  clear hown2 hturn hk2 M1 K1 Q1 P1 H1
  go_wp2_with fail
  go_ret2
  exact ⟨rfl, PP.out⟩
end Go.Proofs.YtelekchdbiimiaaGreat
namespace Go.Proofs.YtelekchdbiimiaaGreat
set_option linter.unusedVariables false
set_option maxRecDepth 100000
open Go.RowKit
theorem foBx2 (w : World) (TO : TypeId) (a b : Value) : (w.alloc (.cells #[a, b] TO)).ownsRow w.heap.size TO 2 (.slice (some ⟨w.heap.size, 0, none⟩) 1 1) 1 [a, b] :=
  World.ownsRow_lit (base := w.heap.size) (e := TO) (size := 2) w #[a, b] 1 (Nat.le_refl _) (by unfold maxLen; omega) rfl
theorem agd_new (w : World) : Agd ((w.alloc (.map #[] 0)).alloc (.cells #[.slice none 0 0, .map (some w.heap.size)] 242)) w.heap.size (w.heap.size + 1) w.heap.size 0 (.slice none 0 0) [] [] := by
  have e : (w.alloc (.map #[] 0)).heap.size = w.heap.size + 1 := by simp
  have bx := foBx2 (w.alloc (.map #[] 0)) 242 (.slice none 0 0) (.map (some w.heap.size))
  rw [e] at bx
  refine ⟨⟨own_low bx (by omega), ownI_nil _ _ _, fun x h => by simp at h⟩, hpw_nil, Nat.le_refl _, Nat.le_refl _, .map [], ?_, fun x => rfl⟩
  exact (World.ownsMap_made w Tryz.prog 3 unitElem).alloc _
theorem Agd.low' {w w' : World} {B b m n : Nat} {v : Value} {Q W : List Int} {F : Nat → Prop} (d : Agd w B b m n v Q W) (p : Kp (agF b m v) w w') (hB : B ≤ w.heap.size) : Below B w w' := p.below (fun k _ h => (d.blocks k h).1) hB
set_option maxHeartbeats 1600000 in
theorem foNew_any (A : Option Addr) (n c : Nat) (ids : List Int) (w : World) (h : IntsAt w (.slice A n c) ids) (hb : ∀ x ∈ ids, -9223372036854775808 ≤ x ∧ x ≤ 9223372036854775807) (hn : n ≤ 70000) :
    Calls Tryz.prog 191 #[.slice A n c] w fun e w' => ∃ b m v Q, e = .returned (.pointer (some ⟨b, 0, none⟩)) ∧ Agd w' w.heap.size b m n v Q (agH [] ids) ∧ Below w.heap.size w w' := by
  have HI := Lib.hid h
  have HL := Lib.hid (ints_cells h).1
  have HC := Lib.hid (ints_cells h).2
  have HB := Lib.hid hb
  have hmm := @run_makeMap Tryz.prog
  have D0 := Lib.hid (agd_new w)
  have B0 : Hid (Below w.heap.size w ((w.alloc (.map #[] 0)).alloc (.cells #[.slice none 0 0, .map (some w.heap.size)] 242))) := ((Below.refl _ _).alloc (Nat.le_refl _) _).alloc (by simp) _
  clear h hb
  go_enter Tryz.func191, Tryz.ntmps191
  go_wp2_with fail
  generalize (w.alloc (.map #[] 0)).alloc (.cells #[.slice none 0 0, .map (some w.heap.size)] 242) = W0 at *
  go_loopw [11] (fun i wr => ∃ (k : Nat) (v : Value) (Q : List Int), k ≤ n ∧ i = .int .i64 k ∧ Agd wr w.heap.size (w.heap.size + 1) w.heap.size k v Q (agH [] (ids.take k)) ∧ Below w.heap.size w wr) (fun i _ => n - (intOf i).toNat)
  case atStart => exact ⟨0, _, [], by omega, rfl, D0.out, B0.out⟩
  case round =>
    rename_i wr
    obtain ⟨k, v, Q, hk, rfl, hd, hbl⟩ := hrel
    have DD := Lib.hid hd
    have BB := Lib.hid hbl
    clear hd
    by_cases hlt : k < n
    · have hk2 : k < ids.length := by have := HL.out; omega
      obtain ⟨b, o, rfl, hbo, hcell⟩ := HC.out (by have := HL.out; omega)
      have e0 : wr.cell? ⟨b, o + k, none⟩ = some (.int .i64 (ids.getD k 0)) := (hbl.cell (p := ⟨b, o + k, none⟩) hbo).trans (hcell k hk2)
      have hx := HB.out _ (getD_mem hk2)
      have HT := Lib.hid (take_at hk2)
      clear hcell hbl
      generalize ids.getD k 0 = x at *
      go_wp2_with fail
      refine (foPut_any x DD.out (by omega) hx.1 hx.2).mono ?_
      rintro e w1 ⟨rfl, v1, Q1, hd1, hk1, ha1⟩
      have B1 := Lib.hid (BB.out.trans (DD.out.low' (F := fun _ => False) hk1 BB.out.size))
      have D1 : Hid (Agd w1 w.heap.size (w.heap.size + 1) w.heap.size (k + 1) v1 Q1 (agH [] (ids.take (k + 1)))) := by
        have q := hd1
        show Agd ..
        rw [HT.out, agH_one]
        exact q
      clear hd1 hk1 ha1
      go_wp2_with fail
      go_roundw
      case rel => exact ⟨k + 1, v1, Q1, by omega, by go_num, D1.out, B1.out⟩
      case measure => simp [intOf]; omega
    · obtain rfl : k = n := by omega
      go_wp2_with fail
      go_ret
      refine ⟨_, w.heap.size, v, Q, rfl, ?_, BB.out⟩
      have q := DD.out
      rw [List.take_of_length_le (by have := HL.out; omega)] at q
      exact q
end Go.Proofs.YtelekchdbiimiaaGreat
namespace Go.Proofs.YtelekchdbiimiaaGreat
set_option linter.unusedVariables false
set_option maxRecDepth 100000
open Go.RowKit Go.Shelf
attribute [local go_sem] Oper.semAt_some
/-- a number appended to a row of the call's own, inside a fence -/
theorem push_in {F : Fence} {n : Nat} (w : World) {ops : Array Oper} {rest : List Oper} {o : Oper} {a : Act} {Z : Exit → Act → World → Prop} (hg : o.guard = none) (s x : Operand)
    (hop : o.op = Op.call { callee := Callee.builtin Builtin.append, args := #[s, x], argTypes := #[91, 91] }) {B g : Nat} {v : Value} {Q : List Int} {b : Int}
    (hs : a.eval s = v) (row : OwnI 3 w B v Q) (hx : a.eval x = .slice (some ⟨g, 0, none⟩) 1 1) (hc : w.cell? ⟨g, 0, none⟩ = some (.int .i64 b)) (hn : Q.length ≤ 100000) (hB : B ≤ w.heap.size)
    (h : ∀ v' w', OwnI 3 w' B v' (Q ++ [b]) → w.grownBy w' v.ownBlock → At2 w v v' → wpListIn F n Tryz.prog ops Z rest (a.put o.dst v') w') : wpListIn F n Tryz.prog ops Z (o :: rest) a w := by
  obtain ⟨i0, hi, hz0, hz1, hz2⟩ := info_parts foInt_info
  obtain ⟨v', w', hr, r1, r2, _, r4⟩ := run_append_own_at (P := Tryz.prog) w B 91 o.type 3 i0 (.int .i64 0) 1 8 Tryz.underlying91 hi hz0 hz1 hz2 rfl (by decide) v Q.length (ints Q) row ⟨g, 0, none⟩ 1 1 [.int .i64 b] rfl
    (fun j u hj => by
      cases j with
      | zero => simp at hj; subst hj; exact hc
      | succ j => simp at hj) (one_int b) (by unfold maxLen; omega) (by omega) hB
  refine wpListIn_plain hg fun K hK => ?_
  unfold Oper.wpIn
  refine ⟨by simp [Oper.about, hop, resolve, Target.leads, Sem.run_pure], ?_⟩
  rw [Oper.semAt_plain F _ _ (by rw [hop]; intro c hc'; cases hc')]
  simp [execOp, hop, resolve, invoke, builtin, hs, hx, hr, Result.andThen]
  exact hK _ _ (h v' w' (ownI_snoc rfl r1) r2 (at_two (r4.imp id fun q => ⟨_, q, Nat.le_refl _⟩)))
theorem Agd.base {w : World} {B B2 b m n : Nat} {v : Value} {Q W : List Int} (d : Agd w B b m n v Q W) (h : B2 ≤ B) : Agd w B2 b m n v Q W :=
  ⟨⟨own_low d.qu.top h, own_low d.qu.row h, d.qu.bds⟩, d.hp, Nat.le_trans h d.low, d.len, d.there⟩
theorem upp_yes {id : Int} (h : 1 < id) (h1 : id ≤ 9223372036854775807) : tUpN id 1 = id / 2 ∧ tUpB id 1 = true := by
  obtain ⟨k, hk, e1, _, hd⟩ := dep_of (show 1 ≤ id by omega) h1
  have k1 : 1 ≤ k := by
    rcases Nat.eq_zero_or_pos k with q | q
    · subst q; have := dep_zero hd; omega
    · exact q
  have c : tUpC id 1 := ⟨by omega, by omega, by rw [e1]; omega⟩
  exact tUp_yes c
theorem upp_no {id : Int} (h : ¬ 1 < id) : tUpN id 1 = 0 ∧ tUpB id 1 = false := by
  refine tUp_no fun c => ?_
  obtain ⟨a, b, c⟩ := c
  have e : id = 1 := by omega
  rw [e] at c
  rw [(dep_is (id := 1) (k := 0) ⟨by decide, by decide⟩ (by omega)).1] at c
  omega
/-- the parents of what a loop was handed -/
def upsW (pre : List Nd) : List Int := upsH (pre.map fun x => (wrap64 x.1, x.2))
theorem upsW_snoc (pre : List Nd) (x : Nd) : upsW (pre ++ [x]) = if 1 < wrap64 x.1 then upsW pre ++ [wrap64 x.1 / 2] else upsW pre := by
  unfold upsW; rw [List.map_append]; exact ups_one _ _
theorem upsW_len (pre : List Nd) : (upsW pre).length ≤ pre.length := by unfold upsW; have := ups_len (pre.map fun x => (wrap64 x.1, x.2)); rwa [List.length_map] at this
theorem upsW_all {L : List Nd} (h : NBds L) : upsW L = upsH L := by
  unfold upsW
  congr 1
  have : ∀ x ∈ L, (wrap64 x.1, x.2) = x := fun x hx => by rw [wrap_in (h x hx).1.1 (h x hx).1.2]
  exact (List.map_congr_left this).trans (List.map_id _)
theorem ups_bd {L : List Nd} (h : NBds L) : ∀ x ∈ upsH L, 1 ≤ x ∧ x ≤ 9223372036854775807 := fun x hx => by
  unfold upsH at hx
  obtain ⟨n, hn, rfl⟩ := List.mem_map.1 hx
  obtain ⟨hn, h1⟩ := List.mem_filter.1 hn
  have h1 : 1 < n.1 := of_decide_eq_true h1
  have := (h n hn).1
  omega
/-- a round that writes a captured row: which blocks it leaves -/
theorem cap_kpF {W W' : World} {B q : Nat} {v v' : Value} {Q : List Int} {e1 : TypeId} (hc : W.cell? ⟨q, 0, none⟩ = some v) (row : OwnI e1 W B v Q) (hc' : W'.cell? ⟨q, 0, none⟩ = some v') (hk : Kp (fun k => k = q ∨ v.ownBlock = some k) W W') (ha : At2 W v v') : KpF (FrP q 0) W W' := by
  refine ⟨hk.size, fun k hlt hf => ?_⟩
  obtain ⟨⟨o, ho, hcc⟩, hkq, _, hs⟩ := hf
  have hv : v.ownBlock ≠ some k := fun e => by
    rcases ownI_form row with ⟨rfl, _⟩ | ⟨g, cap, rfl, _⟩
    · cases e
    · have e : g = k := by simpa [Value.ownBlock] using e
      subst e
      exact hs _ _ hc
  have e1 := hk.block k hlt (fun e => e.elim hkq hv)
  refine ⟨e1, ⟨o, e1.trans ho, hcc⟩, hkq, ⟨v', hc'⟩, fun m c he => ?_⟩
  rw [hc'] at he
  injection he with he
  rcases ha k (by rw [he]; rfl) with q1 | q1
  · exact hv q1
  · omega
theorem cap_others {W W' : World} {B q : Nat} {v : Value} {Q : List Int} {e1 : TypeId} {x : Value} (hc : W.cell? ⟨q, 0, none⟩ = some x) (row : OwnI e1 W B v Q) (hk : Kp (fun k => k = q ∨ v.ownBlock = some k) W W') : KeepsOthers W W' :=
  ⟨hk.size, fun k o hko ho => by
    refine (hk.block k (Array.getElem?_eq_some_iff.1 hko).1 (fun e => ?_)).trans hko
    rcases e with e | e
    · subst e
      obtain ⟨og, hog, hogc⟩ := cells_of_cell hc
      rw [hog] at hko; injection hko with hko; rw [hko, ho] at hogc; cases hogc
    · rcases ownI_form row with ⟨rfl, _⟩ | ⟨g, cap, rfl, _⟩
      · cases e
      · have e : g = k := by simpa [Value.ownBlock] using e
        subst e
        obtain ⟨ob, h1, h2⟩ := row_obj row
        rw [h1] at hko; injection hko with hko; rw [hko, ho] at h2; cases h2⟩
set_option maxHeartbeats 6400000 in
theorem foAbove_in {B p g h : Nat} {kd l : Int} {n : Nat} {L : List Nd} (w : World) (d : PoA w B p g h kd l n L) (hn : n ≤ 500) :
    CallsIn Fence.wide 5 Tryz.prog 206 #[.pointer (some ⟨p, 0, none⟩)] w fun e w' => ∃ b m v Q, e = .returned (.pointer (some ⟨b, 0, none⟩)) ∧ Agd w' w.heap.size b m n v Q (agH [] (upsH L)) ∧ Below w.heap.size w w' := by
  have D := Lib.hid d
  have hlen := d.len
  have NB := Lib.hid (nbds_roll d.roll)
  clear d
  refine callsIn_of_wp_marks Tryz.func206 rfl trivial ?_ rfl
  simp only [Tryz.ntmps206, List.size_toArray, List.length_cons, List.length_nil, Nat.reduceAdd, Nat.reduceSub, Array.replicate_succ, Array.replicate_zero, List.push_toArray, List.append_toArray, List.nil_append, List.cons_append]
  gi_wp2
  refine ⟨trivial, (callsIn_wide.2 (poEach_any _ _)).mono ?_⟩
  rintro e w3 ⟨rfl, rfl⟩
  have hza : (w.alloc (.cells #[.slice none 0 0] 91)).heap.size = w.heap.size + 1 := by simp
  have hba : Below w.heap.size w ((w.alloc (.cells #[.slice none 0 0] 91)).alloc (.cells #[.pointer (some ⟨p, 0, none⟩)] 108)) := ((Below.refl _ _).alloc (Nat.le_refl _) _).alloc (by simp) _
  have BX := Lib.hid ((box1 w 91 (.slice none 0 0)).alloc (.cells #[.pointer (some ⟨p, 0, none⟩)] 108))
  have hc1 : ((w.alloc (.cells #[.slice none 0 0] 91)).alloc (.cells #[.pointer (some ⟨p, 0, none⟩)] 108)).cell? ⟨w.heap.size + 1, 0, none⟩ = some (.pointer (some ⟨p, 0, none⟩)) := by
    have q := (box1 (w.alloc (.cells #[.slice none 0 0] 91)) 108 (.pointer (some ⟨p, 0, none⟩))).cellAt 0 (by omega)
    rw [hza] at q
    exact q
  have hz1 : w.heap.size + 1 < ((w.alloc (.cells #[.slice none 0 0] 91)).alloc (.cells #[.pointer (some ⟨p, 0, none⟩)] 108)).heap.size := by simp
  have D3 := Lib.hid (D.out.below hba)
  have B3 := Lib.hid hba
  clear hba hza
  gi_wp2
  generalize (w.alloc (.cells #[.slice none 0 0] 91)).alloc (.cells #[.pointer (some ⟨p, 0, none⟩)] 108) = W0 at *
  have hN : ∀ W W2 k, Below W0.heap.size W0 W → Below W.heap.size W W2 → W.heap.size ≤ k → (∃ o : Obj, W2.heap[k]? = some o ∧ o.isCells = true) → FrP w.heap.size 0 W2 k := by
    intro W W2 k h1 h2' h3 h4
    have hq := (BX.out.lt _ rfl).2
    have hs := h1.size
    have e : W2.cell? ⟨w.heap.size, 0, none⟩ = some (.slice none 0 0) := ((h2'.cell (p := ⟨w.heap.size, 0, none⟩) (by show w.heap.size < _; omega)).trans (h1.cell (p := ⟨w.heap.size, 0, none⟩) hq)).trans (BX.out.cellAt 0 (by omega))
    exact ⟨h4, by omega, ⟨_, e⟩, fun m c he => by rw [e] at he; injection he with he; injection he with he; cases he⟩
  refine wpIn_rangeFunc_ownF rfl (by decide) (gf := 139) (lb := #[.pointer (some ⟨w.heap.size + 1, 0, none⟩)]) rfl trivial (enters_of Tryz.func139 (by kernel_rfl) rfl)
    (each_stops 4 (w.heap.size + 1) p B g h (show n ≤ 1000 by omega) (FrP w.heap.size 0) (frP _ _) W0 hc1 hz1 D3.out hN) kpF_t (fun W l' o o' _ hl ho _ => kpF_b (frP _ _) W l' o o' hl ho) (Below.refl _ _) (fun _ => rfl)
    (fun pre W => (∃ v, W.ownsRow w.heap.size 91 1 (.slice (some ⟨w.heap.size, 0, none⟩) 1 1) 1 [v] ∧ OwnI 3 W w.heap.size v (upsW pre)) ∧ Below w.heap.size w W)
    (fun _ _ _ => False)
    (OwnFrom.and (Own.from (fun s A C row ⟨v, r1, r2⟩ hg hr => ⟨v, row_grown r1 hg hr, row_grown r2 hg hr⟩) _) (ownFrom_below (Nat.le_refl _) B3.out.size))
    (fun _ _ _ _ _ hs _ _ => hs)
    ⟨⟨_, BX.out, ownI_nil _ _ _⟩, B3.out⟩
    ?a1 ?assign ?body ?done ?stop
  case assign =>
    intro l' x W K hK
    gi_wp2
    exact hK
  case body =>
    rintro l' pre x W ⟨⟨v, hr, ho⟩, hB⟩ hpl
    have bd := wrap_bd x.1
    have hlp := upsW_len pre
    have HS := Lib.hid (upsW_snoc pre x)
    generalize wrap64 x.1 = id at *
    have c0 : W.cell? ⟨w.heap.size, 0, none⟩ = some v := hr.cellAt 0 (by omega)
    have f0 := hr.frozenAt 0
    have hne : ∀ k, v.ownBlock = some k → k ≠ w.heap.size := fun k e q => by
      rcases own_apart hr ho (by decide) with r | r
      · simp [Value.ownBlock] at r
      · exact r (by rw [e, q]; rfl)
    have HR := Lib.hid hr
    have HO := Lib.hid ho
    have HB := Lib.hid hB
    have HNE := Lib.hid hne
    clear hr ho hB hne
    by_cases hu : 1 < id
    · obtain ⟨u1, u2⟩ := upp_yes hu bd.2
      gi_wp2
      refine ⟨trivial, (CallsIn.inRound l' (callsIn_wide.2 (tUp_any id 1 W bd.1 bd.2 (by omega) (by omega)))).mono ?_⟩
      rintro e W3 ⟨rfl, rfl⟩
      rw [u1, u2]
      have HR1 := Lib.hid (HR.out.alloc (.cells #[.int .i64 (id / 2)] 3))
      gi_wp2_with (gi_at_builtin; refine push_in _ rfl _ _ rfl rfl (World.ownsRow.alloc HO.out (.cells #[.int .i64 (id / 2)] 3)) rfl (new_cell _ _ _ _ rfl) (by omega) (by have := HB.out.size; simp; omega) ?_)
      intro v' w1 ho1 hg1 ha1
      obtain ⟨A', m', c', rfl⟩ := own_slice ho1
      have hk1 : Kp (fun k => v.ownBlock = some k) W w1 := ((Kp.of (F := fun k => v.ownBlock = some k) (below_one W _)).trans (Kp.grown hg1) (fun k _ h => h.symm))
      have TOP1 := own_kp HR.out hk1 (fun k e h => HNE.out k h (by simp [Value.ownBlock] at e; exact e.symm))
      have c1 := TOP1.cellAt 0 (by omega)
      have f1 := TOP1.frozenAt 0
      have ST := TOP1.stored 0 (.slice A' m' c')
      have c4 := ST.1.cellAt 0 (by omega)
      have HK4 : Kp (fun k => k = w.heap.size ∨ v.ownBlock = some k) W (w1.setCell ⟨w.heap.size, 0, none⟩ (.slice A' m' c')) := (hk1.mono (fun k _ h => .inr h)).trans (Kp.setCell w1 ⟨w.heap.size, 0, none⟩ (.slice A' m' c')) (fun k hk h => .inl h)
      have HA : At2 W v (.slice A' m' c') := fun k e => (ha1 k e).imp (fun q => q) fun q => by simp at q; omega
      have KO := Lib.hid (cap_others c0 HO.out HK4)
      have KK := Lib.hid (cap_kpF c0 HO.out c4 HK4 HA)
      have ROW4 : Hid (OwnI 3 (w1.setCell ⟨w.heap.size, 0, none⟩ (.slice A' m' c')) w.heap.size (.slice A' m' c') (upsW (pre ++ [x]))) := by
        show OwnI ..
        rw [HS.out, if_pos hu]
        refine own_kp ho1 (Kp.setCell w1 ⟨w.heap.size, 0, none⟩ (.slice A' m' c')) (fun k e h => ?_)
        rcases own_apart TOP1 ho1 (by decide) with r | r
        · simp [Value.ownBlock] at r
        · exact r (by rw [e, h]; rfl)
      have HB4 : Hid (Below w.heap.size w (w1.setCell ⟨w.heap.size, 0, none⟩ (.slice A' m' c'))) := HB.out.trans (HK4.below (fun k hk h => by
        rcases h with h | h
        · omega
        · exact (World.ownsRow.lt HO.out k h).1) HB.out.size)
      have ST1 := Lib.hid ST.1
      clear ho1 hg1 ha1 hk1 TOP1 ST c4 HK4 HA
      gi_wp2
      exact ⟨KO.out, KK.out, ⟨_, ST1.out, ROW4.out⟩, HB4.out⟩
    · obtain ⟨u1, u2⟩ := upp_no hu
      gi_wp2
      refine ⟨trivial, (CallsIn.inRound l' (callsIn_wide.2 (tUp_any id 1 W bd.1 bd.2 (by omega) (by omega)))).mono ?_⟩
      rintro e W3 ⟨rfl, rfl⟩
      rw [u1, u2]
      gi_wp2
      exact ⟨KeepsOthers.refl _, kpF_refl _, ⟨v, HR.out, by rw [HS.out, if_neg (by omega)]; exact HO.out⟩, HB.out⟩
  case done =>
    rintro D' ys W hD hys ⟨⟨v, hr, ho⟩, hB⟩ hK
    rw [hys, upsW_all NB.out] at ho
    obtain ⟨A', m', c', rfl⟩ := own_slice ho
    have c0 : W.cell? ⟨w.heap.size, 0, none⟩ = some (.slice A' m' c') := hr.cellAt 0 (by omega)
    have hI := ownI_ints ho
    have hm : m' ≤ n := by have := (ints_cells hI).1; have := ups_len L; omega
    have hbd := ups_bd NB.out
    have NW := Lib.hid (foNew_any A' m' c' (upsH L) W hI (fun x hx => by have := hbd x hx; omega) (by omega))
    have HB := Lib.hid hB
    have HD := Lib.hid hD
    have HKK := Lib.hid hK
    clear hr ho hB hI hK hD hys
    gi_wp2
    refine ⟨trivial, (callsIn_wide.2 NW.out).mono ?_⟩
    rintro e w5 ⟨b, m, v5, Q5, rfl, hd5, hb5⟩
    have hK5 : w5.heap[D']? = some (.deferred (some [])) := (hb5.block D' (Array.getElem?_eq_some_iff.1 HKK.out).1).trans HKK.out
    have hDlt := (Array.getElem?_eq_some_iff.1 HKK.out).1
    have hz5 := hb5.size
    have hB5 := HB.out.trans (hb5.mono HB.out.size)
    have hd6 : Agd (w5.putObj D' (.deferred none)) w.heap.size b m n v5 Q5 (agH [] (upsH L)) := ((hd5.more hm).kp (F := fun k => k = D') ((Kp.grown (grownBy_putObj' w5 D' _)).mono fun k _ e => by injection e) (fun k e q => by
      have := (hd5.blocks k e).1
      omega)).base HB.out.size
    clear hb5 hd5 NW
    gi_wp2
    refine ⟨by simp, .inl ⟨_, _, rfl, run_takeDeferred hK5, ?_⟩⟩
    exact ⟨.pointer (some ⟨b, 0, none⟩), by simp [results, Tryz.f206, go_sem], b, m, v5, Q5, rfl, hd6, hB5.trans (belowK_b (w := W0) B3.out.size w5 D' _ _ HD.out hK5 rfl rfl)⟩
  case stop =>
    rintro D' c pre W _ _ h _
    exact h.elim
theorem foAbove_any {B p g h : Nat} {kd l : Int} {n : Nat} {L : List Nd} (w : World) (d : PoA w B p g h kd l n L) (hn : n ≤ 500) :
    Calls Tryz.prog 206 #[.pointer (some ⟨p, 0, none⟩)] w fun e w' => ∃ b m v Q, e = .returned (.pointer (some ⟨b, 0, none⟩)) ∧ Agd w' w.heap.size b m n v Q (agH [] (upsH L)) ∧ Below w.heap.size w w' :=
  callsIn_wide.1 (foAbove_in w d hn)
end Go.Proofs.YtelekchdbiimiaaGreat
namespace Go.Proofs.YtelekchdbiimiaaGreat
set_option linter.unusedVariables false
set_option maxRecDepth 100000
open Go.RowKit
/-- what a parent's children weigh together, and with it -/
def pairW (l : Int) (L : List Nd) (id : Int) : Int := if kidB l id = true then sumAt (2 * id) L + sumAt (2 * id + 1) L else 0
def allW (l : Int) (L : List Nd) (id : Int) : Int := if kidB l id = true then sumAt (2 * id) L + sumAt (2 * id + 1) L + sumAt id L else 0
def readyB (l : Int) (L : List Nd) (id most : Int) : Bool := decide (0 < pairW l L id ∧ allW l L id ≤ most)
/-- a parent's children folded into it -/
def foldW (l : Int) (L : List Nd) (id : Int) : List Nd := if kidB l id = true then addS l (remW (remW L (2 * id)) (2 * id + 1)) id (pairW l L id) else L
theorem kid_pos {l id : Int} (h : KidC l id) : 1 ≤ id := h.1.2.2.1
theorem kid_bd {l id : Int} (h : KidC l id) (h1 : id ≤ 9223372036854775807) : 1 ≤ id ∧ id ≤ 562949953421311 := ⟨kid_pos h, right_id h.1 h1⟩
theorem three_le {L : List Nd} (h : Good L) {a b c : Int} (hab : a ≠ b) (hac : a ≠ c) (hbc : b ≠ c) : sumAt a L + sumAt b L + sumAt c L ≤ sumC L := by
  have g1 := rem_good (id := a) h
  have g2 := rem_good (id := b) g1
  have t1 := rem_tot L a
  have t2 := rem_tot (remW L a) b
  have s1 := rem_sum b L a
  have s2 := rem_sum c L a
  have s3 := rem_sum c (remW L a) b
  rw [if_neg hab] at s1
  rw [if_neg hac] at s2
  rw [if_neg hbc] at s3
  have := (sum_le (good_nonneg g2) c).2
  omega
theorem mass_bd {l : Int} {L : List Nd} (h : RollC l L) (id : Int) : (0 ≤ pairW l L id ∧ pairW l L id ≤ 72057594037927935) ∧ 0 ≤ allW l L id ∧ allW l L id ≤ 72057594037927935 := by
  have g := roll_good h
  have nn := good_nonneg g
  have t := h.2.2.2.2
  unfold pairW allW
  split
  · rename_i hk
    have hk : KidC l id := of_decide_eq_true hk
    have hp := kid_pos hk
    have := three_le g (a := 2 * id) (b := 2 * id + 1) (c := id) (by omega) (by omega) (by omega)
    have a := (sum_le nn (2 * id)).1
    have b := (sum_le nn (2 * id + 1)).1
    have c := (sum_le nn id).1
    omega
  · omega
theorem pair_zero {l : Int} {L : List Nd} (h : RollC l L) {id : Int} (h0 : pairW l L id = 0) : foldW l L id = L := by
  unfold foldW
  split
  · rename_i hk
    have g := roll_good h
    have nn := good_nonneg g
    rw [h0]
    unfold pairW at h0
    rw [if_pos hk] at h0
    have a := (sum_le nn (2 * id)).1
    have b := (sum_le nn (2 * id + 1)).1
    rw [rem_zero g (by omega), rem_zero g (by omega)]
    unfold addS
    split
    · rfl
    · split
      · rfl
      · exact if_pos rfl
  · rfl
theorem roll_fold {l : Int} {L : List Nd} (h : RollC l L) (id : Int) : RollC l (foldW l L id) := by
  unfold foldW
  split
  · exact roll_addS (roll_rem (roll_rem h))
  · exact h
/-- folding, where there is such a parent: no sum is refused -/
theorem fold_is {l : Int} {L : List Nd} (h : RollC l L) {id : Int} (hk : KidC l id) : foldW l L id = addW (remW (remW L (2 * id)) (2 * id + 1)) id (pairW l L id) ∧ addE l (remW (remW L (2 * id)) (2 * id + 1)) id (pairW l L id) = 0 := by
  have m := mass_bd h id
  have e : pairW l L id = sumAt (2 * id) L + sumAt (2 * id + 1) L := if_pos (kid_yes hk).2.2
  have t1 := rem_tot L (2 * id)
  have t2 := rem_tot (remW L (2 * id)) (2 * id + 1)
  have s1 := rem_sum (2 * id + 1) L (2 * id)
  rw [if_neg (by omega)] at s1
  have t := h.2.2.2.2
  have q := add_ok (l := l) (L := remW (remW L (2 * id)) (2 * id + 1)) (id := id) (c := pairW l L id) (right_yes hk.1) (by omega) (by omega)
  unfold foldW
  rw [if_pos (kid_yes hk).2.2]
  exact ⟨q.2, q.1⟩
theorem pair_is {l : Int} {L : List Nd} {id : Int} (h : pairW l L id ≠ 0) : KidC l id := by
  by_cases q : KidC l id
  · exact q
  · exact absurd (if_neg (by rw [(kid_no q).2.2]; decide)) h
/-- what each node weighs behind a fold -/
theorem foldW_sum {l : Int} {L : List Nd} (h : RollC l L) {id : Int} (hk : KidC l id) (i : Int) : sumAt i (foldW l L id) = if i = 2 * id ∨ i = 2 * id + 1 then 0 else sumAt i L + (if i = id then pairW l L id else 0) := by
  have hp := kid_pos hk
  rw [(fold_is h hk).1, addW_sum, rem_sum, rem_sum]
  by_cases h1 : 2 * id + 1 = i
  · rw [if_pos h1, if_neg (by omega), if_pos (by omega)]; omega
  · by_cases h2 : 2 * id = i
    · rw [if_neg h1, if_pos h2, if_neg (by omega), if_pos (by omega)]; omega
    · rw [if_neg h1, if_neg h2, if_neg (show ¬ (i = 2 * id ∨ i = 2 * id + 1) by omega)]
      by_cases h3 : id = i
      · rw [if_pos h3, if_pos h3.symm]
      · rw [if_neg h3, if_neg (fun e => h3 e.symm)]
theorem foldW_tot {l : Int} {L : List Nd} (h : RollC l L) (id : Int) : sumC (foldW l L id) = sumC L := by
  by_cases h0 : pairW l L id = 0
  · rw [pair_zero h h0]
  · have hk := pair_is h0
    have e : pairW l L id = sumAt (2 * id) L + sumAt (2 * id + 1) L := if_pos (kid_yes hk).2.2
    rw [(fold_is h hk).1, addW_tot, rem_tot, rem_tot, rem_sum, if_neg (by omega), e]
    omega
theorem foldW_len {l : Int} {L : List Nd} (h : RollC l L) (id : Int) : (foldW l L id).length ≤ L.length := by
  by_cases h0 : pairW l L id = 0
  · rw [pair_zero h h0]; exact Nat.le_refl _
  · have hk := pair_is h0
    have e : pairW l L id = sumAt (2 * id) L + sumAt (2 * id + 1) L := if_pos (kid_yes hk).2.2
    have g := roll_good h
    have a := addW_len (id := id) (c := pairW l L id) (rem_good (id := 2 * id + 1) (rem_good (id := 2 * id) g)) (mass_bd h id).1.1
    have r1 := rem_len (id := 2 * id) g
    have r2 := rem_len (id := 2 * id + 1) (rem_good (id := 2 * id) g)
    have s1 := rem_sum (2 * id + 1) L (2 * id)
    rw [if_neg (by omega)] at s1
    rw [(fold_is h hk).1]
    split at a <;> split at r1 <;> split at r2 <;> omega
/-- a pair that was folded is not ready -/
theorem foldW_not {l : Int} {L : List Nd} (h : RollC l L) (id most : Int) : readyB l (foldW l L id) id most = false := by
  refine decide_eq_false fun q => ?_
  by_cases hk : KidC l id
  · have e : pairW l (foldW l L id) id = sumAt (2 * id) (foldW l L id) + sumAt (2 * id + 1) (foldW l L id) := if_pos (kid_yes hk).2.2
    rw [foldW_sum h hk, foldW_sum h hk, if_pos (by omega), if_pos (by omega)] at e
    omega
  · have e : pairW l (foldW l L id) id = 0 := if_neg (by rw [(kid_no hk).2.2]; decide)
    omega
/-- the parent has all, its children nothing -/
theorem foldW_all {l : Int} {L : List Nd} (h : RollC l L) {id : Int} (h0 : pairW l L id ≠ 0) : sumAt id (foldW l L id) = allW l L id ∧ sumAt (2 * id) (foldW l L id) = 0 ∧ sumAt (2 * id + 1) (foldW l L id) = 0 := by
  have hk := pair_is h0
  have hp := kid_pos hk
  have e : pairW l L id = sumAt (2 * id) L + sumAt (2 * id + 1) L := if_pos (kid_yes hk).2.2
  have e2 : allW l L id = sumAt (2 * id) L + sumAt (2 * id + 1) L + sumAt id L := if_pos (kid_yes hk).2.2
  rw [foldW_sum h hk, foldW_sum h hk, foldW_sum h hk, if_neg (by omega), if_pos rfl, if_pos (by omega), if_pos (by omega), e, e2]
  exact ⟨by omega, rfl, rfl⟩
theorem foCap_any (n k : Int) (w : World) (N0 : -9223372036854775808 ≤ n) (N1 : n ≤ 9223372036854775807) (K0 : -9223372036854775808 ≤ k) (K1 : k ≤ 9223372036854775807) :
    Calls Tryz.prog 95 #[.int .i64 n, .int .i64 k] w fun e w' => e = .returned (.int .i64 (quoN n k)) ∧ w = w' := by
  go_enter Tryz.func95, Tryz.ntmps95
  go_wp2_with (go_at_call 138; refine (div_any n k _ N0 N1 K0 K1).mono ?_; rintro e w1 ⟨rfl, rfl⟩)
  go_ret
  exact ⟨rfl, rfl⟩
theorem rFoCap_any (n k : Int) (w : World) (N0 : -9223372036854775808 ≤ n) (N1 : n ≤ 9223372036854775807) (K0 : -9223372036854775808 ≤ k) (K1 : k ≤ 9223372036854775807) :
    Calls Tryz.prog 169 #[.int .i64 n, .int .i64 k] w fun e w' => e = .returned (.int .i64 (quoN n k)) ∧ w = w' := by
  by_cases h1 : n < 0
  · have H := Lib.hid (quo_no (a := n) (b := k) (by omega)).1
    have c1 : decide (n < 0) = true := decide_eq_true h1
    go_enter Tryz.func169, Tryz.ntmps169
    go_wp2_with fail
    go_ret
    exact ⟨ret_i H.out.symm, rfl⟩
  · by_cases h2 : k < 1
    · have H := Lib.hid (quo_no (a := n) (b := k) (by omega)).1
      have c1 : decide (n < 0) = false := decide_eq_false h1
      have c2 : decide (k < 1) = true := decide_eq_true h2
      clear h1
      go_enter Tryz.func169, Tryz.ntmps169
      go_wp2_with fail
      go_ret
      exact ⟨ret_i H.out.symm, rfl⟩
    · have H := Lib.hid (quo_yes (a := n) (b := k) (by omega)).1
      have c1 : decide (n < 0) = false := decide_eq_false h1
      have c2 : decide (k < 1) = false := decide_eq_false h2
      have k0 : ¬ k = 0 := by omega
      have hd : n / k ≤ n := Int.ediv_le_self _ (by omega)
      have hd0 : 0 ≤ n / k := Int.ediv_nonneg (by omega) (by omega)
      have hq : IntKind.i64.wrap (n.tdiv k) = n / k := by rw [Int.tdiv_eq_ediv_of_nonneg (by omega), IntKind.wrap_i64]; omega
      clear h1 h2 hd hd0
      go_enter Tryz.func169, Tryz.ntmps169
      go_wp2_with fail
      go_ret
      exact ⟨ret_i H.out.symm, rfl⟩
theorem get_bel {B p g h : Nat} {kd l : Int} {n : Nat} {L : List Nd} {w : World} (d : PoA w B p g h kd l n L) (hn : n ≤ 1000) (a : Int) (A0 : -9223372036854775808 ≤ a) (A1 : a ≤ 9223372036854775807) (w1 : World) (q : Below w.heap.size w w1) :
    Calls Tryz.prog 121 #[.pointer (some ⟨p, 0, none⟩), .int .i64 a] w1 fun e w' => e = .returned (.int .i64 (sumAt a L)) ∧ Below w.heap.size w w' :=
  (poGet_any a w1 (d.below q) hn A0 A1).mono fun e w' ⟨h1, m, h2⟩ => ⟨h1, by rw [h2]; exact drewN_below q m⟩
theorem l_bel {B p g h : Nat} {kd l : Int} {n : Nat} {L : List Nd} {w : World} (d : PoA w B p g h kd l n L) (hn : n ≤ 1000) (w1 : World) (q : Below w.heap.size w w1) :
    Calls Tryz.prog 98 #[.pointer (some ⟨p, 0, none⟩)] w1 fun e w' => e = .returned (.int .i64 l) ∧ Below w.heap.size w w' :=
  (poL_any w1 (d.below q) hn).mono fun e w' ⟨h1, m, h2⟩ => ⟨h1, by rw [h2]; exact drewN_below q m⟩
set_option maxHeartbeats 1600000 in
theorem foMass_any {B p g h : Nat} {kd l : Int} {n : Nat} {L : List Nd} (id : Int) (w : World) (d : PoA w B p g h kd l n L) (hn : n ≤ 1000) (A0 : -9223372036854775808 ≤ id) (A1 : id ≤ 9223372036854775807) :
    Calls Tryz.prog 209 #[.pointer (some ⟨p, 0, none⟩), .int .i64 id] w fun e w' => e = .returned (.tuple #[.int .i64 (pairW l L id), .int .i64 (allW l L id)]) ∧ Below w.heap.size w w' := by
  have u := d.uni
  have LL := Lib.hid (l_bel d hn)
  have KD := Lib.hid (fun w => kids_any l id w (by omega) (by omega) A0 A1)
  by_cases hk : KidC l id
  · obtain ⟨k1, k2, k3⟩ := kid_yes hk
    have kb := kid_bd hk A1
    have m := mass_bd d.roll id
    have GA := Lib.hid (get_bel d hn (2 * id) (by omega) (by omega))
    have GB := Lib.hid (get_bel d hn (2 * id + 1) (by omega) (by omega))
    have GC := Lib.hid (get_bel d hn id A0 A1)
    have e1 : pairW l L id = sumAt (2 * id) L + sumAt (2 * id + 1) L := if_pos k3
    have e2 : allW l L id = sumAt (2 * id) L + sumAt (2 * id + 1) L + sumAt id L := if_pos k3
    rw [k1, k2, k3] at KD
    rw [e1, e2] at m ⊢
    clear d hk e1 e2 k1 k2 k3
    generalize sumAt (2 * id) L = sa at *
    generalize sumAt (2 * id + 1) L = sb at *
    generalize sumAt id L = sc at *
    have w1 : IntKind.i64.wrap (sa + sb) = sa + sb := wrap_lit rfl (by omega) (by omega)
    have w2 : IntKind.i64.wrap (sa + sb + sc) = sa + sb + sc := wrap_lit rfl (by omega) (by omega)
    go_enter Tryz.func209, Tryz.ntmps209
    go_wp2_with (first
      | (go_at_call 98; refine (LL.out _ (Below.refl _ _)).mono ?_; rintro e w5 ⟨rfl, hb5⟩)
      | (go_at_call 97; refine (KD.out _).mono ?_; rintro e w6 ⟨rfl, rfl⟩)
      | (go_at_call 121; (with_reducible refine (GA.out _ (by assumption)).mono ?_); rintro e w7 ⟨rfl, hb7⟩)
      | (go_at_call 121; (with_reducible refine (GB.out _ (by assumption)).mono ?_); rintro e w8 ⟨rfl, hb8⟩)
      | (go_at_call 121; (with_reducible refine (GC.out _ (by assumption)).mono ?_); rintro e w9 ⟨rfl, hb9⟩))
    go_ret2
    exact ⟨rfl, hb9⟩
  · obtain ⟨k1, k2, k3⟩ := kid_no hk
    have e1 : pairW l L id = 0 := if_neg (by rw [k3]; decide)
    have e2 : allW l L id = 0 := if_neg (by rw [k3]; decide)
    rw [k1, k2, k3] at KD
    rw [e1, e2]
    clear d hk e1 e2 k1 k2 k3
    go_enter Tryz.func209, Tryz.ntmps209
    go_wp2_with (first
      | (go_at_call 98; refine (LL.out _ (Below.refl _ _)).mono ?_; rintro e w5 ⟨rfl, hb5⟩)
      | (go_at_call 97; refine (KD.out _).mono ?_; rintro e w6 ⟨rfl, rfl⟩))
    go_ret2
    exact ⟨rfl, hb5⟩
theorem foReady_any {B p g h : Nat} {kd l : Int} {n : Nat} {L : List Nd} (id most : Int) (w : World) (d : PoA w B p g h kd l n L) (hn : n ≤ 1000) (A0 : -9223372036854775808 ≤ id) (A1 : id ≤ 9223372036854775807) :
    Calls Tryz.prog 194 #[.pointer (some ⟨p, 0, none⟩), .int .i64 id, .int .i64 most] w fun e w' => e = .returned (.bool (readyB l L id most)) ∧ Below w.heap.size w w' := by
  have MS := Lib.hid (foMass_any id w d hn A0 A1)
  unfold readyB
  clear d
  generalize pairW l L id = a at *
  generalize allW l L id = b at *
  by_cases h1 : 0 < a
  · have c1 : decide (0 < a) = true := decide_eq_true h1
    have H : Hid (decide (0 < a ∧ b ≤ most) = decide (b ≤ most)) := by show _ = _; simp [h1]
    clear h1
    go_enter Tryz.func194, Tryz.ntmps194
    go_wp2_with (go_at_call 209; refine MS.out.mono ?_; rintro e w1 ⟨rfl, hb1⟩)
    go_ret
    exact ⟨by rw [H.out]; rfl, hb1⟩
  · have c1 : decide (0 < a) = false := decide_eq_false h1
    have H : Hid (decide (0 < a ∧ b ≤ most) = false) := decide_eq_false fun q => h1 q.1
    clear h1
    go_enter Tryz.func194, Tryz.ntmps194
    go_wp2_with (go_at_call 209; refine MS.out.mono ?_; rintro e w1 ⟨rfl, hb1⟩)
    go_ret
    exact ⟨by rw [H.out]; rfl, hb1⟩
end Go.Proofs.YtelekchdbiimiaaGreat
namespace Go.Proofs.YtelekchdbiimiaaGreat
set_option linter.unusedVariables false
set_option maxRecDepth 100000
open Go.RowKit
theorem chg_then {g h h2 : Nat} {a b c : World} (p : Chg g h a b) (e : h2 = h ∨ a.heap.size ≤ h2) (q : Chg g h2 b c) : Chg g h a c := by
  rcases e with e | e
  · subst e; exact p.trans q
  · exact p.over q e
theorem new_then {h h2 h3 : Nat} {a b : World} (hs : a.heap.size ≤ b.heap.size) (e : h2 = h ∨ a.heap.size ≤ h2) (q : h3 = h2 ∨ b.heap.size ≤ h3) : h3 = h ∨ a.heap.size ≤ h3 := by omega
set_option maxHeartbeats 1600000 in
theorem foDo_n {B p g h : Nat} {kd l : Int} {n : Nat} {L : List Nd} (id : Int) (w : World) (d : PoA w B p g h kd l n L) (hn : n ≤ 1000) (A0 : -9223372036854775808 ≤ id) (A1 : id ≤ 9223372036854775807) :
    Calls Tryz.prog 195 #[.pointer (some ⟨p, 0, none⟩), .int .i64 id] w (PoPost B p g h kd l n (foldW l L id) (pairW l L id) w) := by
  have u := d.uni
  have LL := Lib.hid (l_bel d (show n ≤ 1000 by omega))
  have KD := Lib.hid (fun w => kids_any l id w (by omega) (by omega) A0 A1)
  have D := Lib.hid d
  by_cases hk : KidC l id
  · obtain ⟨k1, k2, k3⟩ := kid_yes hk
    have kb := kid_bd hk A1
    have m := mass_bd d.roll id
    have e1 : pairW l L id = sumAt (2 * id) L + sumAt (2 * id + 1) L := if_pos k3
    have s1 := rem_sum (2 * id + 1) L (2 * id)
    rw [if_neg (by omega)] at s1
    have FW : Hid (foldW l L id = addS l (remW (remW L (2 * id)) (2 * id + 1)) id (pairW l L id)) := if_pos k3
    have FE := Lib.hid (fold_is d.roll hk).2
    have FLN : Hid ((foldW l L id).length ≤ n) := Nat.le_trans (foldW_len d.roll id) d.len
    have S1 := Lib.hid s1
    have E1 := Lib.hid e1
    rw [k1, k2, k3] at KD
    have hw : IntKind.i64.wrap (sumAt (2 * id) L + sumAt (2 * id + 1) L) = pairW l L id := wrap_lit e1.symm (by omega) (by omega)
    clear d hk e1 k1 k2 k3 s1
    go_enter Tryz.func195, Tryz.ntmps195
    go_wp2_with (first
      | (go_at_call 98; refine (LL.out _ (Below.refl _ _)).mono ?_; rintro e w1 ⟨rfl, hb1⟩)
      | (go_at_call 97; refine (KD.out _).mono ?_; rintro e w6 ⟨rfl, rfl⟩))
    have D1 := Lib.hid (D.out.below hb1)
    have C1 := Lib.hid (Chg.of (g := g) (h := h) hb1)
    clear hb1
    refine (poTake_n (2 * id) w1 D1.out (by omega) (by omega) (by omega)).mono ?_
    rintro e w2 ⟨rfl, h2, hd2, hc2, hh2⟩
    have D2 := Lib.hid hd2
    have C2 := Lib.hid (C1.out.trans hc2)
    have N2 : Hid (h2 = h ∨ w.heap.size ≤ h2) := hh2.imp (fun q => q) fun q => Nat.le_trans C1.out.size q
    clear hd2 hc2 hh2
    go_wp2_with fail
    refine (poTake_n (2 * id + 1) w2 D2.out (by omega) (by omega) (by omega)).mono ?_
    rw [S1.out]
    rintro e w3 ⟨rfl, h3, hd3, hc3, hh3⟩
    have D3 := Lib.hid hd3
    have C3 := Lib.hid (chg_then C2.out N2.out hc3)
    have N3 := Lib.hid (new_then C2.out.size N2.out hh3)
    clear hd3 hc3 hh3
    go_wp2_with fail
    refine (poAdd_n n id (pairW l L id) w3 D3.out (by omega) (Nat.le_refl n) (by rw [← FW.out]; exact FLN.out) A0 A1 (by omega) (by omega)).mono ?_
    rw [FE.out, ← FW.out]
    rintro e w4 ⟨rfl, h4, hd4, hc4, hh4⟩
    have PP : Hid (∃ h5, PoA w4 B p g h5 kd l n (foldW l L id) ∧ Chg g h w w4 ∧ (h5 = h ∨ w.heap.size ≤ h5)) := ⟨h4, hd4, chg_then C3.out N3.out hc4, new_then C3.out.size N3.out hh4⟩
    clear hd4 hc4 hh4 C3 N3 D3
    go_wp2_with fail
    go_ret
    exact ⟨rfl, PP.out⟩
  · obtain ⟨k1, k2, k3⟩ := kid_no hk
    have e1 : pairW l L id = 0 := if_neg (by rw [k3]; decide)
    have e2 := pair_zero d.roll e1
    rw [k1, k2, k3] at KD
    rw [e1, e2]
    clear d hk e1 e2 k1 k2 k3
    go_enter Tryz.func195, Tryz.ntmps195
    go_wp2_with (first
      | (go_at_call 98; refine (LL.out _ (Below.refl _ _)).mono ?_; rintro e w5 ⟨rfl, hb5⟩)
      | (go_at_call 97; refine (KD.out _).mono ?_; rintro e w6 ⟨rfl, rfl⟩))
    go_ret
    exact ⟨rfl, h, D.out.below hb5, Chg.of hb5, .inl rfl⟩
/-- the parents of all nodes, in the order of folding -/
def parH (L : List Nd) : List Int := agH [] (upsH L)
theorem parH_srt (L : List Nd) : SrtH (parH L) := agH_srt List.Pairwise.nil _
theorem parH_mem {L : List Nd} (h : NBds L) : ∀ x ∈ parH L, 1 ≤ x ∧ x ≤ 9223372036854775807 := fun x hx => by
  rcases (agH_mem [] (upsH L) x).1 hx with q | q
  · simp at q
  · exact ups_bd h x q.2
theorem parH_len (L : List Nd) : (parH L).length ≤ L.length := by
  have a := agH_len [] (upsH L)
  have b := ups_len L
  unfold parH
  simp at a
  omega
def hdH : List Int → Int
  | [] => 0
  | x :: _ => x
def neH : List Int → Bool
  | [] => false
  | _ :: _ => true
/-- Pop, whatever is there -/
theorem foPop_any {w : World} {B b m n : Nat} {v : Value} {Q T : List Int} (d : Agd w B b m n v Q T) (hn : n ≤ 80000) :
    Calls Tryz.prog 193 #[.pointer (some ⟨b, 0, none⟩)] w fun e w' => e = .returned (.tuple #[.int .i64 (hdH T), .bool (neH T)]) ∧ ∃ v' Q', Agd w' B b m n v' Q' T.tail ∧ Kp (agF b m v) w w' ∧ At2 w v v' := by
  cases T with
  | nil => exact (foPop_nil d).mono fun e w' ⟨h1, h2⟩ => ⟨h1, v, Q, by rw [← h2]; exact d, by rw [← h2]; exact Kp.refl _ _, At2.refl _ _⟩
  | cons x T => exact foPop_cons d hn
def lenV : Value → Nat
  | .slice _ n _ => n
  | _ => 0
/-- an agenda, and a row of numbers beside it -/
structure AgR (w : World) (B b m n : Nat) (v : Value) (Q T : List Int) (u : Value) (P : List Int) : Prop where
  ag : Agd w B b m n v Q T
  row : OwnI 3 w B u P
  far : ∀ k, u.ownBlock = some k → ¬ agF b m v k
theorem AgR.pop {w w' : World} {B b m n : Nat} {v v' u : Value} {Q Q' T T' P : List Int} (h : AgR w B b m n v Q T u P) (d : Agd w' B b m n v' Q' T') (k : Kp (agF b m v) w w') (a : At2 w v v') : AgR w' B b m n v' Q' T' u P :=
  ⟨d, own_kp h.row k h.far, fun j e f => by
    rcases f with (f | f) | f
    · exact h.far j e (.inl (.inl f))
    · rcases a j f with q | q
      · exact h.far j e (.inl (.inr q))
      · have := (World.ownsRow.lt h.row j e).2; omega
    · exact h.far j e (.inr f)⟩
theorem AgR.app {w w' : World} {B b m n : Nat} {v u u' : Value} {Q T P P' : List Int} (h : AgR w B b m n v Q T u P) (r : OwnI 3 w' B u' P') (k : Kp (fun j => u.ownBlock = some j) w w') (a : At2 w u u') : AgR w' B b m n v Q T u' P' :=
  ⟨h.ag.kp k fun j f e => h.far j e f, r, fun j e f => by
    rcases a j e with q | q
    · exact h.far j q f
    · have := (h.ag.blocks j f).2; omega⟩
set_option maxHeartbeats 3200000 in
theorem foParents_any {B p g h : Nat} {kd l : Int} {n : Nat} {L : List Nd} (w : World) (d : PoA w B p g h kd l n L) (hn : n ≤ 500) :
    Calls Tryz.prog 192 #[.pointer (some ⟨p, 0, none⟩)] w fun e w' => ∃ v, e = .returned v ∧ OwnI 3 w' w.heap.size v (parH L) ∧ Below w.heap.size w w' := by
  have AB := Lib.hid (foAbove_any w d hn)
  have PL := Lib.hid (parH_len L)
  have hlen := d.len
  have hl2 : (parH L).length ≤ 500 := by have := PL.out; omega
  obtain ⟨i0, hi, hz0, hz1, hz2⟩ := info_parts foInt_info
  have hmk := fun w1 => make_room (P := Tryz.prog) Tryz.underlying91 hi hz0 hz1 hz2 (parH L).length (by omega) (by omega) w1
  clear d
  go_enter Tryz.func192, Tryz.ntmps192
  go_wp2_with fail
  refine AB.out.mono ?_
  rintro e w1 ⟨b, m, v, Q, rfl, hd1, hb1⟩
  have D1 := Lib.hid hd1
  have B1 := Lib.hid hb1
  clear hd1 hb1
  change Hid (Agd w1 w.heap.size b m n v Q (parH L)) at D1
  go_wp2_with (go_at_call 207; refine (foLen_any D1.out).mono ?_; rintro e w2 ⟨rfl, rfl⟩)
  have A2 : Hid (AgR (w1.alloc (.cells (blank (.int .i64 0) (parH L).length) 3)) w.heap.size b m n v Q (parH L) (.slice (some ⟨w1.heap.size, 0, none⟩) 0 (parH L).length) []) :=
    ⟨D1.out.below (below_one _ _), by have q := room_own (w := w1) (B := w.heap.size) (e := 3) (z := .int .i64 0) (n := (parH L).length) (size := 1) B1.out.size (by unfold maxLen; omega); rw [Nat.mul_one] at q; exact q, fun k e f => by
      have e : w1.heap.size = k := by simpa [Value.ownBlock] using e
      have := (D1.out.blocks k f).2
      omega⟩
  have B2 := Lib.hid (B1.out.alloc B1.out.size (.cells (blank (.int .i64 0) (parH L).length) 3))
  clear D1 B1
  generalize w1.alloc (.cells (blank (.int .i64 0) (parH L).length) 3) = W2 at *
  refine (foPop_any A2.out.ag (by omega)).mono ?_
  rintro e w3 ⟨rfl, v3, Q3, hd3, hk3, ha3⟩
  have A3 := Lib.hid (A2.out.pop hd3 hk3 ha3)
  have B3 := Lib.hid (B2.out.trans (A2.out.ag.low' (F := fun _ => False) hk3 B2.out.size))
  clear hd3 hk3 ha3 hmk
  have hP0 : Hid (parH L = [] ++ parH L) := rfl
  obtain ⟨N, hN⟩ : ∃ N, N = (parH L).length := ⟨_, rfl⟩
  have HN := Lib.hid hN
  rw [← hN] at hl2
  clear hN
  go_wp2_with fail
  go_loopw [4, 5, 6] (fun u id ok wr => ∃ (A : Option Addr) (k c : Nat) (v : Value) (Q P T : List Int), u = .slice A k c ∧ k = P.length ∧ id = .int .i64 (hdH T) ∧ ok = .bool (neH T) ∧ AgR wr w.heap.size b m n v Q T.tail (.slice A k c) P ∧ parH L = P ++ T ∧ Below w.heap.size w wr) (fun u _ _ _ => N - lenV u)
  case atStart => exact ⟨_, _, _, v3, Q3, [], parH L, rfl, rfl, rfl, rfl, A3.out, hP0.out, B3.out⟩
  case round =>
    rename_i wr
    obtain ⟨A, k, c, v, Q, P, T, rfl, hk, rfl, rfl, hA, hpt, hb⟩ := hrel
    have AA := Lib.hid hA
    have HPT := Lib.hid hpt
    have BB := Lib.hid hb
    have HK := Lib.hid hk
    have hkN : k + T.length = N := by rw [HN.out, hpt, hk, List.length_append]
    clear hA hpt hb hk
    cases T with
    | nil =>
      rw [show hdH [] = 0 from rfl, show neH [] = false from rfl]
      go_wp2_with fail
      go_ret
      exact ⟨_, rfl, by rw [HPT.out, List.append_nil]; exact AA.out.row, BB.out⟩
    | cons x T =>
      rw [show hdH (x :: T) = x from rfl, show neH (x :: T) = true from rfl]
      rw [List.length_cons] at hkN
      change Hid (AgR wr w.heap.size b m n v Q T (.slice A k c) P) at AA
      go_wp2_with (at_builtin; refine wpList_append_own_at _ rfl _ _ 91 rfl w.heap.size 3 i0 (.int .i64 0) 1 8 Tryz.underlying91 hi hz0 hz1 hz2 rfl (by decide) _ k (ints P) rfl (by have q := World.ownsRow.alloc AA.out.row (.cells #[.int .i64 x] 3); rw [← HK.out] at q; exact q) ⟨wr.heap.size, 0, none⟩ 1 1 [.int .i64 x] rfl rfl (one_new _ _ _ _ rfl) (one_int _) (by unfold maxLen; omega) (by omega) (by have := BB.out.size; simp; omega) ?_)
      intro u1 w4 hown1 hgrow _ hat
      have hrow : OwnI 3 w4 w.heap.size u1 (P ++ [x]) := ownI_snoc HK.out hown1
      obtain ⟨A', m', c', rfl⟩ := own_slice hown1
      have hm' : m' = k + 1 := by have q := (ints_cells (ownI_ints hrow)).1; rw [List.length_append, ← HK.out] at q; exact q
      subst hm'
      have hk4 : Kp (fun j => (Value.slice A k c).ownBlock = some j) wr w4 := ((Kp.of (F := fun j => (Value.slice A k c).ownBlock = some j) (below_one wr _)).trans (Kp.grown hgrow) (fun j _ h => h.symm))
      have ha4 : At2 wr (.slice A k c) (.slice A' (k + 1) c') := fun j e => by
        rcases hat with q | q
        · exact .inl (q.symm.trans e)
        · rw [q] at e
          injection e with e
          exact .inr (by omega)
      have A4 := Lib.hid (AA.out.app hrow hk4 ha4)
      have B4 := Lib.hid (BB.out.trans (hk4.below (fun j _ h => (World.ownsRow.lt AA.out.row j h).1) BB.out.size))
      have HP4 : Hid (parH L = (P ++ [x]) ++ T) := by show _ = _; rw [HPT.out, List.append_assoc]; rfl
      clear hown1 hgrow hat hrow hk4 ha4
      go_wp2_with fail
      refine (foPop_any A4.out.ag (by omega)).mono ?_
      rintro e w5 ⟨rfl, v5, Q5, hd5, hk5, ha5⟩
      have A5 := Lib.hid (A4.out.pop hd5 hk5 ha5)
      have B5 := Lib.hid (B4.out.trans (A4.out.ag.low' (F := fun _ => False) hk5 B4.out.size))
      clear hd5 hk5 ha5
      go_wp2_with fail
      go_roundw
      case rel => exact ⟨A', k + 1, c', v5, Q5, P ++ [x], T, rfl, by rw [List.length_append, ← HK.out]; rfl, rfl, rfl, A5.out, HP4.out, B5.out⟩
      case measure => simp [lenV]; omega
end Go.Proofs.YtelekchdbiimiaaGreat
namespace Go.Proofs.YtelekchdbiimiaaGreat
set_option linter.unusedVariables false
set_option maxRecDepth 100000
open Go.RowKit
/-- the first of a list that is ready -/
def fstN (l : Int) (L : List Nd) (most : Int) : List Int → Int
  | [] => 0
  | x :: T => if readyB l L x most = true then x else fstN l L most T
def fstB (l : Int) (L : List Nd) (most : Int) : List Int → Bool
  | [] => false
  | x :: T => if readyB l L x most = true then true else fstB l L most T
end Go.Proofs.YtelekchdbiimiaaGreat
