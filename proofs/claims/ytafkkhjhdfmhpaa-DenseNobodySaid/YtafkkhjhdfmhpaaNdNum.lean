/- Plain facts on lists of nodes with their weights: what it means that a list is put in order and keeps those that are alike as they stood (such a list is told by that), merging, putting in one by one; sums; folded lists (such a list is told by its sums). No program is spoken of here. -/
import Derived.WalkKit
import Derived.Lib.Hide
namespace Go.Proofs.Ytafkkhjhdfmhpaa
set_option linter.unusedVariables false

/-! ### lists in order -/
section
variable {α : Type}
def eqv (ah : α → α → Bool) (x y : α) : Bool := !ah x y && !ah y x
/-- what stands ahead of what: a strict order, in which those of which neither does are alike -/
structure Ahd (ah : α → α → Bool) : Prop where
  asym : ∀ a b, ah a b = true → ah b a = false
  trans : ∀ a b c, ah a b = false → ah b c = false → ah a c = false
/-- S is L, put in order, those that are alike as they stood -/
structure Srt (ah : α → α → Bool) (L S : List α) : Prop where
  perm : S.Perm L
  ord : S.Pairwise (fun a b => ah b a = false)
  stab : ∀ x, S.filter (eqv ah x) = L.filter (eqv ah x)
theorem Ahd.irr {ah : α → α → Bool} (A : Ahd ah) (a : α) : ah a a = false := by
  cases h : ah a a
  · rfl
  · rw [← h]; exact A.asym a a h
theorem eqv_self {ah : α → α → Bool} (A : Ahd ah) (a : α) : eqv ah a a = true := by simp [eqv, A.irr]
theorem eqv_iff {ah : α → α → Bool} {a b : α} : eqv ah a b = true ↔ ah a b = false ∧ ah b a = false := by simp [eqv]
theorem head_le {ah : α → α → Bool} (A : Ahd ah) {a t : α} {S : List α} (h : (a :: S).Pairwise (fun a b => ah b a = false)) (ht : t ∈ a :: S) : ah t a = false := by
  rcases List.mem_cons.1 ht with rfl | ht
  · exact A.irr _
  · exact (List.pairwise_cons.1 h).1 t ht
theorem ord_uniq {ah : α → α → Bool} (A : Ahd ah) : ∀ (S T : List α), S.Pairwise (fun a b => ah b a = false) → T.Pairwise (fun a b => ah b a = false) → (∀ x, S.filter (eqv ah x) = T.filter (eqv ah x)) → S = T := by
  intro S
  induction S with
  | nil =>
    intro T _ _ h
    cases T with
    | nil => rfl
    | cons b T => have := h b; simp [eqv_self A] at this
  | cons a S ih =>
    intro T hS hT h
    cases T with
    | nil => have := h a; simp [eqv_self A] at this
    | cons b T =>
      have ha : a ∈ (b :: T).filter (eqv ah a) := by rw [← h a]; simp [eqv_self A]
      have hb : b ∈ (a :: S).filter (eqv ah b) := by rw [h b]; simp [eqv_self A]
      obtain ⟨ha1, _⟩ := List.mem_filter.1 ha
      obtain ⟨hb1, _⟩ := List.mem_filter.1 hb
      have h1 := head_le A hT ha1
      have h2 := head_le A hS hb1
      have e := h a
      rw [List.filter_cons_of_pos (eqv_self A a), List.filter_cons_of_pos (eqv_iff.2 ⟨h1, h2⟩)] at e
      injection e with e1 e2
      subst e1
      congr 1
      refine ih T (List.pairwise_cons.1 hS).2 (List.pairwise_cons.1 hT).2 fun x => ?_
      have e := h x
      by_cases q : eqv ah x a = true
      · rw [List.filter_cons_of_pos q, List.filter_cons_of_pos q] at e
        injection e
      · rw [List.filter_cons_of_neg q, List.filter_cons_of_neg q] at e
        exact e
theorem Srt.uniq {ah : α → α → Bool} (A : Ahd ah) {L S T : List α} (hS : Srt ah L S) (hT : Srt ah L T) : S = T :=
  ord_uniq A S T hS.ord hT.ord fun x => (hS.stab x).trans (hT.stab x).symm
theorem Srt.small (ah : α → α → Bool) {L : List α} (h : L.length < 2) : Srt ah L L := by
  refine ⟨List.Perm.refl _, ?_, fun _ => rfl⟩
  match L, h with
  | [], _ => exact List.Pairwise.nil
  | [a], _ => exact List.pairwise_singleton _ _
  | _ :: _ :: _, h => simp at h; omega
theorem Srt.len {ah : α → α → Bool} {L S : List α} (h : Srt ah L S) : S.length = L.length := h.perm.length_eq
theorem Srt.mem {ah : α → α → Bool} {L S : List α} (h : Srt ah L S) {x : α} : x ∈ S ↔ x ∈ L := h.perm.mem_iff

/-- two lists, merged: the second one's first goes ahead only if it has to -/
def mrgIn (ah : α → α → Bool) (a : α) (f : List α → List α) : List α → List α
  | [] => a :: f []
  | b :: B => if ah b a then b :: mrgIn ah a f B else a :: f (b :: B)
def mrg (ah : α → α → Bool) : List α → List α → List α
  | [] => fun B => B
  | a :: A => mrgIn ah a (mrg ah A)
theorem mrg_nil (ah : α → α → Bool) (A : List α) : mrg ah A [] = A := by
  induction A with
  | nil => rfl
  | cons a A ih => show a :: mrg ah A [] = a :: A; rw [ih]
theorem nil_mrg (ah : α → α → Bool) (A : List α) : mrg ah [] A = A := rfl
theorem mrg_b {ah : α → α → Bool} {a b : α} {A B : List α} (h : ah b a = true) : mrg ah (a :: A) (b :: B) = b :: mrg ah (a :: A) B := by
  show (if ah b a then b :: mrgIn ah a (mrg ah A) B else a :: mrg ah A (b :: B)) = _
  rw [if_pos h]; rfl
theorem mrg_a {ah : α → α → Bool} {a b : α} {A B : List α} (h : ah b a = false) : mrg ah (a :: A) (b :: B) = a :: mrg ah A (b :: B) := by
  show (if ah b a then b :: mrgIn ah a (mrg ah A) B else a :: mrg ah A (b :: B)) = _
  rw [if_neg (by simp [h])]
theorem mrg_perm (ah : α → α → Bool) : ∀ (A B : List α), (mrg ah A B).Perm (A ++ B) := by
  intro A
  induction A with
  | nil => intro B; rw [nil_mrg]; exact List.Perm.refl _
  | cons a A iA =>
    intro B
    induction B with
    | nil => rw [mrg_nil, List.append_nil]
    | cons b B iB =>
      cases h : ah b a
      · rw [mrg_a h, List.cons_append]; exact (iA (b :: B)).cons a
      · rw [mrg_b h]; exact (iB.cons b).trans List.perm_middle.symm
theorem mrg_ord {ah : α → α → Bool} (R : Ahd ah) : ∀ (A B : List α), A.Pairwise (fun a b => ah b a = false) → B.Pairwise (fun a b => ah b a = false) → (mrg ah A B).Pairwise (fun a b => ah b a = false) := by
  intro A
  induction A with
  | nil => intro B _ h; rw [nil_mrg]; exact h
  | cons a A iA =>
    intro B hA
    induction B with
    | nil => intro _; rw [mrg_nil]; exact hA
    | cons b B iB =>
      intro hB
      cases h : ah b a
      · rw [mrg_a h]
        refine List.pairwise_cons.2 ⟨fun x hx => ?_, iA _ (List.pairwise_cons.1 hA).2 hB⟩
        rcases List.mem_append.1 ((mrg_perm ah A (b :: B)).mem_iff.1 hx) with hx | hx
        · exact (List.pairwise_cons.1 hA).1 x hx
        · exact R.trans x b a (head_le R hB hx) h
      · rw [mrg_b h]
        refine List.pairwise_cons.2 ⟨fun x hx => ?_, iB (List.pairwise_cons.1 hB).2⟩
        rcases List.mem_append.1 ((mrg_perm ah (a :: A) B).mem_iff.1 hx) with hx | hx
        · exact R.trans x a b (head_le R hA hx) (R.asym _ _ h)
        · exact (List.pairwise_cons.1 hB).1 x hx
theorem mrg_stab {ah : α → α → Bool} (R : Ahd ah) (x : α) : ∀ (A B : List α), A.Pairwise (fun a b => ah b a = false) → B.Pairwise (fun a b => ah b a = false) → (mrg ah A B).filter (eqv ah x) = A.filter (eqv ah x) ++ B.filter (eqv ah x) := by
  intro A
  induction A with
  | nil => intro B _ _; rw [nil_mrg]; rfl
  | cons a A iA =>
    intro B hA
    induction B with
    | nil => intro _; rw [mrg_nil]; simp
    | cons b B iB =>
      intro hB
      cases h : ah b a
      · rw [mrg_a h]
        have := iA (b :: B) (List.pairwise_cons.1 hA).2 hB
        by_cases q : eqv ah x a = true
        · rw [List.filter_cons_of_pos q, List.filter_cons_of_pos q, this]; rfl
        · rw [List.filter_cons_of_neg q, List.filter_cons_of_neg q, this]
      · rw [mrg_b h]
        have := iB (List.pairwise_cons.1 hB).2
        by_cases q : eqv ah x b = true
        · have hn : (a :: A).filter (eqv ah x) = [] := by
            rw [List.filter_eq_nil_iff]
            intro y hy e
            obtain ⟨e1, e2⟩ := eqv_iff.1 e
            obtain ⟨q1, q2⟩ := eqv_iff.1 q
            have := R.trans b x y q2 e1
            have := R.trans b y a this (head_le R hA hy)
            simp [h] at this
          rw [List.filter_cons_of_pos q, List.filter_cons_of_pos q, this, hn]; rfl
        · rw [List.filter_cons_of_neg q, List.filter_cons_of_neg q, this]
theorem srt_mrg {ah : α → α → Bool} (R : Ahd ah) {L M A B : List α} (hA : Srt ah L A) (hB : Srt ah M B) : Srt ah (L ++ M) (mrg ah A B) :=
  ⟨(mrg_perm ah A B).trans (hA.perm.append hB.perm), mrg_ord R A B hA.ord hB.ord, fun x => by rw [mrg_stab R x A B hA.ord hB.ord, List.filter_append, hA.stab, hB.stab]⟩
theorem srt_mrg_cut {ah : α → α → Bool} (R : Ahd ah) {L A B : List α} (k : Nat) (hA : Srt ah (L.take k) A) (hB : Srt ah (L.drop k) B) : Srt ah L (mrg ah A B) := by
  have := srt_mrg R hA hB
  rwa [List.take_append_drop] at this
/-- one more put behind all of which it doesn't stand ahead -/
theorem srt_ins {ah : α → α → Bool} (R : Ahd ah) {L P Q : List α} {x : α} (h : Srt ah L (P ++ Q)) (hQ : ∀ q ∈ Q, ah x q = true) (hP : ∀ p, P.getLast? = some p → ah x p = false) : Srt ah (L ++ [x]) (P ++ x :: Q) := by
  obtain ⟨o1, o2, o3⟩ := List.pairwise_append.1 h.ord
  refine ⟨?_, ?_, fun y => ?_⟩
  · refine List.perm_middle.trans ((h.perm.cons x).trans ?_)
    exact (List.perm_append_singleton x L).symm
  · refine List.pairwise_append.2 ⟨o1, List.pairwise_cons.2 ⟨fun q hq => R.asym _ _ (hQ q hq), o2⟩, fun p hp q hq => ?_⟩
    rcases List.mem_cons.1 hq with rfl | hq
    · rcases List.eq_nil_or_concat P with rfl | ⟨P', p0, rfl⟩
      · simp at hp
      · have e := hP p0 (by simp)
        rw [List.concat_eq_append] at hp o1
        rcases List.mem_append.1 hp with hp | hp
        · exact R.trans _ p0 p e ((List.pairwise_append.1 o1).2.2 p hp p0 (by simp))
        · simp at hp; subst hp; exact e
    · exact o3 p hp q hq
  · have := h.stab y
    rw [List.filter_append] at this
    rw [List.filter_append, List.filter_append, ← this]
    by_cases q : eqv ah y x = true
    · have hn : Q.filter (eqv ah y) = [] := by
        rw [List.filter_eq_nil_iff]
        intro z hz e
        obtain ⟨e1, e2⟩ := eqv_iff.1 e
        obtain ⟨q1, q2⟩ := eqv_iff.1 q
        have := R.trans x y z q2 e1
        simp [hQ z hz] at this
      rw [List.filter_cons_of_pos q, hn]; simp [q]
    · rw [List.filter_cons_of_neg q]; simp [q]
end

/-! ### nodes -/
abbrev Nd := Int × Int
def nz : Nd := (0, 0)
def idA (a b : Nd) : Bool := decide (a.1 < b.1)
theorem idA_ahd : Ahd idA := ⟨fun a b h => by simp [idA] at *; omega, fun a b c h g => by simp [idA] at *; omega⟩
theorem idA_yes {a b : Nd} (h : a.1 < b.1) : idA a b = true := decide_eq_true h
theorem idA_no {a b : Nd} (h : ¬ a.1 < b.1) : idA a b = false := decide_eq_false h
/-- by some key, rising, of those with the same one the greater Id first -/
def keyA (k : Int → Int) (a b : Nd) : Bool := decide (k a.1 < k b.1 ∨ (k a.1 = k b.1 ∧ b.1 < a.1))
theorem keyA_ahd (k : Int → Int) : Ahd (keyA k) := ⟨fun a b h => by simp [keyA] at *; omega, fun a b c h g => by simp [keyA] at *; omega⟩
/-- the same, of nodes that bear their keys -/
def plA (a b : Nd × Int) : Bool := decide (a.2 < b.2 ∨ (a.2 = b.2 ∧ b.1.1 < a.1.1))
theorem plA_ahd : Ahd plA := ⟨fun a b h => by simp [plA] at *; omega, fun a b c h g => by simp [plA] at *; omega⟩
def bear (k : Int → Int) (n : Nd) : Nd × Int := (n, k n.1)
theorem srt_bear {k : Int → Int} {L : List Nd} {S : List (Nd × Int)} (h : Srt plA (L.map (bear k)) S) : Srt (keyA k) L (S.map Prod.fst) := by
  have hm : ∀ x ∈ S, x = bear k x.1 := by
    intro x hx
    obtain ⟨n, _, e⟩ := List.mem_map.1 ((h.perm.mem_iff).1 hx)
    rw [← e]; rfl
  refine ⟨?_, ?_, fun x => ?_⟩
  · have := h.perm.map Prod.fst
    rw [List.map_map] at this
    have e : (Prod.fst ∘ bear k) = id := rfl
    rwa [e, List.map_id] at this
  · rw [List.pairwise_map]
    refine h.ord.imp_of_mem fun {a b} ha hb q => ?_
    have ea := hm a ha
    have eb := hm b hb
    rw [ea, eb] at q
    exact q
  · have g := h.stab (bear k x)
    rw [List.filter_map] at g
    have e : (eqv plA (bear k x) ∘ bear k) = eqv (keyA k) x := rfl
    rw [e] at g
    rw [List.filter_map]
    have c : S.filter (eqv (keyA k) x ∘ Prod.fst) = S.filter (eqv plA (bear k x)) := by
      refine List.filter_congr fun y hy => ?_
      have ey := hm y hy
      rw [ey]; rfl
    rw [c, g, List.map_map]
    have e2 : (Prod.fst ∘ bear k) = id := rfl
    rw [e2, List.map_id]

/-! ### sums -/
def sumC : List Nd → Int
  | [] => 0
  | n :: L => n.2 + sumC L
theorem sumC_app (L M : List Nd) : sumC (L ++ M) = sumC L + sumC M := by
  induction L with
  | nil => simp [sumC]
  | cons n L ih => simp [sumC, ih]; omega
def NonNeg (L : List Nd) : Prop := ∀ n ∈ L, 0 ≤ n.2
theorem sumC_nonneg {L : List Nd} (h : NonNeg L) : 0 ≤ sumC L := by
  induction L with
  | nil => simp [sumC]
  | cons n L ih => have := ih fun m hm => h m (by simp [hm]); have := h n (by simp); simp [sumC]; omega
theorem sumC_perm {L M : List Nd} (h : L.Perm M) : sumC L = sumC M := by
  induction h with
  | nil => rfl
  | cons x _ ih => simp [sumC, ih]
  | swap x y l => simp [sumC]; omega
  | trans _ _ a b => exact a.trans b
def TotC (L : List Nd) : Prop := NonNeg L ∧ sumC L ≤ 72057594037927935
instance (L : List Nd) : Decidable (NonNeg L) := inferInstanceAs (Decidable (∀ n ∈ L, 0 ≤ n.2))
instance (L : List Nd) : Decidable (TotC L) := inferInstanceAs (Decidable (_ ∧ _))
def totB (L : List Nd) : Bool := decide (TotC L)
def totN (L : List Nd) : Int := if TotC L then sumC L else 0
theorem tot_yes {L : List Nd} (h : TotC L) : totN L = sumC L ∧ totB L = true := ⟨if_pos h, decide_eq_true h⟩
theorem tot_no {L : List Nd} (h : ¬ TotC L) : totN L = 0 ∧ totB L = false := ⟨if_neg h, decide_eq_false h⟩
theorem totC_iff {L : List Nd} : totB L = true ↔ TotC L := by simp [totB]
theorem totC_perm {L M : List Nd} (h : L.Perm M) : TotC L ↔ TotC M := by
  unfold TotC NonNeg
  rw [sumC_perm h]
  constructor
  · rintro ⟨a, b⟩; exact ⟨fun n hn => a n (h.mem_iff.2 hn), b⟩
  · rintro ⟨a, b⟩; exact ⟨fun n hn => a n (h.mem_iff.1 hn), b⟩
theorem totC_app {L M : List Nd} (h : TotC (L ++ M)) : TotC L ∧ TotC M := by
  obtain ⟨h1, h2⟩ := h
  have a : NonNeg L := fun n hn => h1 n (by simp [hn])
  have b : NonNeg M := fun n hn => h1 n (by simp [hn])
  have := sumC_nonneg a
  have := sumC_nonneg b
  rw [sumC_app] at h2
  exact ⟨⟨a, by omega⟩, ⟨b, by omega⟩⟩
theorem nd_take {L : List Nd} {k : Nat} (h : k < L.length) : L.take (k + 1) = L.take k ++ [L.getD k nz] := by
  rw [List.take_succ_eq_append_getElem h]; simp [List.getD_eq_getElem?_getD, List.getElem?_eq_getElem h]
theorem nd_drop {L : List Nd} {k : Nat} (h : k < L.length) : L.drop k = L.getD k nz :: L.drop (k + 1) := by
  rw [List.drop_eq_getElem_cons h]; simp [List.getD_eq_getElem?_getD, List.getElem?_eq_getElem h]
theorem nd_mem {L : List Nd} {k : Nat} (h : k < L.length) : L.getD k nz ∈ L := by
  rw [List.getD_eq_getElem?_getD, List.getElem?_eq_getElem h]; exact List.getElem_mem h
theorem tot_stop {L : List Nd} {k : Nat} (h : k < L.length) (hc : (L.getD k nz).2 < 0 ∨ 72057594037927935 < sumC (L.take k) + (L.getD k nz).2) : ¬ TotC L := by
  rintro ⟨h1, h2⟩
  have e := List.take_append_drop (k + 1) L
  have hm := h1 _ (nd_mem h)
  rw [← e, sumC_app, nd_take h, sumC_app] at h2
  have := sumC_nonneg (L := L.drop (k + 1)) fun n hn => h1 n (List.mem_of_mem_drop hn)
  simp only [sumC] at h2
  omega
theorem tot_step {L : List Nd} {k : Nat} (h : k < L.length) (hN : TotC (L.take k)) (h0 : 0 ≤ (L.getD k nz).2) (h1 : sumC (L.take k) + (L.getD k nz).2 ≤ 72057594037927935) : TotC (L.take (k + 1)) ∧ sumC (L.take (k + 1)) = sumC (L.take k) + (L.getD k nz).2 := by
  have es : sumC (L.take (k + 1)) = sumC (L.take k) + (L.getD k nz).2 := by rw [nd_take h, sumC_app]; simp [sumC]
  refine ⟨⟨?_, by omega⟩, es⟩
  intro n hn
  rw [nd_take h] at hn
  rcases List.mem_append.1 hn with hn | hn
  · exact hN.1 n hn
  · simp at hn; subst hn; exact h0

/-! ### what a node has -/
def findN : List Nd → Int → Int
  | [], _ => 0
  | n :: L, id => if n.1 = id then n.2 else findN L id
theorem find_end {L : List Nd} {id : Int} (h : ∀ n ∈ L, n.1 ≠ id) : findN L id = 0 := by
  induction L with
  | nil => rfl
  | cons n L ih => rw [findN, if_neg (h n (by simp))]; exact ih fun m hm => h m (by simp [hm])
theorem find_app {L M : List Nd} {id : Int} (h : ∀ n ∈ L, n.1 ≠ id) : findN (L ++ M) id = findN M id := by
  induction L with
  | nil => rfl
  | cons n L ih => rw [List.cons_append, findN, if_neg (h n (by simp))]; exact ih fun m hm => h m (by simp [hm])
theorem find_at {L : List Nd} {k : Nat} {id : Int} (hk : k < L.length) (h : ∀ n ∈ L.take k, n.1 ≠ id) (he : (L.getD k nz).1 = id) : findN L id = (L.getD k nz).2 := by
  have e := List.take_append_drop k L
  rw [← e, find_app h, e, nd_drop hk, findN, if_pos he]

/-! ### folded lists -/
def addN (F : List Nd) (x : Nd) : List Nd :=
  if x.2 = 0 then F else match F.getLast? with
    | none => F ++ [x]
    | some y => if y.1 = x.1 then F.dropLast ++ [(y.1, y.2 + x.2)] else F ++ [x]
def foldN (S : List Nd) : List Nd := S.foldl addN []
theorem add_zero {F : List Nd} {x : Nd} (h : x.2 = 0) : addN F x = F := if_pos h
theorem add_nil {x : Nd} (h : ¬ x.2 = 0) : addN [] x = [x] := by simp [addN, h]
theorem add_same {F : List Nd} {x y : Nd} (h : ¬ x.2 = 0) (e : y.1 = x.1) : addN (F ++ [y]) x = F ++ [(y.1, y.2 + x.2)] := by simp [addN, h, e]
theorem add_else {F : List Nd} {x y : Nd} (h : ¬ x.2 = 0) (e : ¬ y.1 = x.1) : addN (F ++ [y]) x = F ++ [y] ++ [x] := by simp [addN, h, e]
theorem foldN_snoc (S : List Nd) (x : Nd) : foldN (S ++ [x]) = addN (foldN S) x := by simp [foldN]
def sumAt (id : Int) : List Nd → Int
  | [] => 0
  | n :: L => (if n.1 = id then n.2 else 0) + sumAt id L
theorem sumAt_app (id : Int) (L M : List Nd) : sumAt id (L ++ M) = sumAt id L + sumAt id M := by
  induction L with
  | nil => simp [sumAt]
  | cons n L ih => simp [sumAt, ih]; omega
theorem sumAt_perm {L M : List Nd} (id : Int) (h : L.Perm M) : sumAt id L = sumAt id M := by
  induction h with
  | nil => rfl
  | cons x _ ih => simp [sumAt, ih]
  | swap x y l => simp [sumAt]; omega
  | trans _ _ a b => exact a.trans b
theorem sumAt_none {id : Int} {L : List Nd} (h : ∀ n ∈ L, n.1 ≠ id) : sumAt id L = 0 := by
  induction L with
  | nil => rfl
  | cons n L ih => rw [sumAt, if_neg (h n (by simp)), ih fun m hm => h m (by simp [hm])]; rfl
structure Good (F : List Nd) : Prop where
  ids : F.Pairwise (fun a b => a.1 < b.1)
  pos : ∀ n ∈ F, 1 ≤ n.2
theorem good_nil : Good [] := ⟨List.Pairwise.nil, fun n h => by simp at h⟩
theorem good_sum {n : Nd} {F : List Nd} (h : Good (n :: F)) : sumAt n.1 (n :: F) = n.2 := by
  rw [sumAt, if_pos rfl, sumAt_none fun m hm => by have := (List.pairwise_cons.1 h.ids).1 m hm; omega]; omega
theorem good_sum_pos {F : List Nd} (h : Good F) {id : Int} : 0 ≤ sumAt id F := by
  induction F with
  | nil => simp [sumAt]
  | cons n F ih =>
    have := ih ⟨(List.pairwise_cons.1 h.ids).2, fun m hm => h.pos m (by simp [hm])⟩
    have := h.pos n (by simp)
    rw [sumAt]; split <;> omega
theorem good_uniq : ∀ (F G : List Nd), Good F → Good G → (∀ id, sumAt id F = sumAt id G) → F = G := by
  intro F
  induction F with
  | nil =>
    intro G _ hG h
    cases G with
    | nil => rfl
    | cons n G => have := h n.1; rw [good_sum hG] at this; have := hG.pos n (by simp); simp [sumAt] at *; omega
  | cons n F ih =>
    intro G hF hG h
    cases G with
    | nil => have := h n.1; rw [good_sum hF] at this; have := hF.pos n (by simp); simp [sumAt] at *; omega
    | cons m G =>
      have h1 := h n.1
      have h2 := h m.1
      rw [good_sum hF] at h1
      rw [good_sum hG] at h2
      have p1 := hF.pos n (by simp)
      have p2 := hG.pos m (by simp)
      have e : n.1 = m.1 := by
        rcases (show n.1 = m.1 ∨ n.1 < m.1 ∨ m.1 < n.1 by omega) with q | q | q
        · exact q
        · exfalso
          rw [sumAt_none (L := m :: G) fun x hx => by
            rcases List.mem_cons.1 hx with rfl | hx
            · omega
            · have := (List.pairwise_cons.1 hG.ids).1 x hx; omega] at h1
          omega
        · exfalso
          rw [sumAt_none (L := n :: F) fun x hx => by
            rcases List.mem_cons.1 hx with rfl | hx
            · omega
            · have := (List.pairwise_cons.1 hF.ids).1 x hx; omega] at h2
          omega
      have gF : Good F := ⟨(List.pairwise_cons.1 hF.ids).2, fun x hx => hF.pos x (by simp [hx])⟩
      have gG : Good G := ⟨(List.pairwise_cons.1 hG.ids).2, fun x hx => hG.pos x (by simp [hx])⟩
      have e2 : n.2 = m.2 := by rw [e, good_sum hG] at h1; omega
      have en : n = m := by rw [Prod.ext_iff]; exact ⟨e, e2⟩
      subst en
      rw [ih G gF gG fun id => by have := h id; simp [sumAt] at this; omega]
/-- what the walk over a list in order leaves -/
structure FInv (S F : List Nd) : Prop where
  good : Good F
  sum : sumC F = sumC S
  at_ : ∀ id, sumAt id F = sumAt id S
  mem : ∀ n ∈ F, ∃ m ∈ S, m.1 = n.1
  len : F.length ≤ S.length
theorem fold_step {S F : List Nd} {x : Nd} (h : FInv S F) (hx : 0 ≤ x.2) (ho : ∀ m ∈ S, m.1 ≤ x.1) : FInv (S ++ [x]) (addN F x) := by
  obtain ⟨g, s, a, m, ln⟩ := h
  by_cases h0 : x.2 = 0
  · rw [add_zero h0]
    refine ⟨g, by rw [sumC_app]; simp [sumC, h0, s], fun id => by rw [sumAt_app]; simp [sumAt, h0, a], fun n hn => ?_, by simp; omega⟩
    obtain ⟨y, hy, e⟩ := m n hn
    exact ⟨y, by simp [hy], e⟩
  · rcases List.eq_nil_or_concat F with rfl | ⟨P, y, rfl⟩
    · rw [add_nil h0]
      have e : S = [] ∨ S ≠ [] := by cases S <;> simp
      refine ⟨⟨List.pairwise_singleton _ _, fun n hn => by simp at hn; subst hn; omega⟩, by rw [sumC_app]; simp [sumC] at *; omega, fun id => by rw [sumAt_app, ← a id]; simp [sumAt], fun n hn => by simp at hn; subst hn; exact ⟨n, by simp, rfl⟩, by simp⟩
    · rw [List.concat_eq_append] at *
      obtain ⟨i1, i2, i3⟩ := List.pairwise_append.1 g.ids
      obtain ⟨m1, hm1, em⟩ := m y (by simp)
      have hle := ho m1 hm1
      by_cases e : y.1 = x.1
      · rw [add_same h0 e]
        refine ⟨⟨List.pairwise_append.2 ⟨i1, List.pairwise_singleton _ _, fun p hp q hq => ?_⟩, fun n hn => ?_⟩, ?_, fun id => ?_, fun n hn => ?_, by simp at ln ⊢; omega⟩
        · simp at hq; subst hq; exact i3 p hp y (by simp)
        · rcases List.mem_append.1 hn with hn | hn
          · exact g.pos n (by simp [hn])
          · simp at hn; subst hn; have := g.pos y (by simp); dsimp only; omega
        · rw [sumC_app] at *; rw [sumC_app]; simp [sumC] at *; omega
        · have := a id
          rw [sumAt_app] at *; rw [sumAt_app]; simp [sumAt] at *; rw [← this]; rw [e]; split <;> omega
        · rcases List.mem_append.1 hn with hn | hn
          · obtain ⟨q, hq, eq⟩ := m n (by simp [hn]); exact ⟨q, by simp [hq], eq⟩
          · simp at hn; subst hn; exact ⟨x, by simp, e.symm⟩
      · rw [add_else h0 e]
        have hall : ∀ p ∈ P ++ [y], p.1 < x.1 := by
          intro p hp
          rcases List.mem_append.1 hp with hp | hp
          · have := i3 p hp y (by simp); omega
          · simp at hp; subst hp; omega
        refine ⟨⟨List.pairwise_append.2 ⟨g.ids, List.pairwise_singleton _ _, fun p hp q hq => ?_⟩, fun n hn => ?_⟩, ?_, fun id => ?_, fun n hn => ?_, by simp at ln ⊢; omega⟩
        · simp at hq; subst hq; exact hall p hp
        · rcases List.mem_append.1 hn with hn | hn
          · exact g.pos n hn
          · simp at hn; subst hn; omega
        · rw [sumC_app, sumC_app S]; simp [sumC]; omega
        · have := a id
          rw [sumAt_app, sumAt_app id S, this]
        · rcases List.mem_append.1 hn with hn | hn
          · obtain ⟨q, hq, eq⟩ := m n hn; exact ⟨q, by simp [hq], eq⟩
          · simp at hn; subst hn; exact ⟨n, by simp, rfl⟩
theorem fold_inv : ∀ (k : Nat) (S : List Nd), k ≤ S.length → S.Pairwise (fun a b => idA b a = false) → NonNeg S → FInv (S.take k) (foldN (S.take k)) := by
  intro k S hk hS hN
  induction k with
  | zero => exact ⟨good_nil, rfl, fun _ => rfl, fun n h => by simp [foldN] at h, by simp [foldN]⟩
  | succ k ih =>
    have hlt : k < S.length := by omega
    rw [nd_take hlt, foldN_snoc]
    refine fold_step (ih (by omega)) (hN _ (nd_mem hlt)) fun m hm => ?_
    have e := List.take_append_drop k S
    rw [← e] at hS
    have := (List.pairwise_append.1 hS).2.2 m hm (S.getD k nz) (by rw [nd_drop hlt]; simp)
    simp only [idA, decide_eq_false_iff_not] at this; omega
/-- F is L folded -/
def FoldOf (L F : List Nd) : Prop := ∃ S, Srt idA L S ∧ F = foldN S
theorem FoldOf.uniq {L F G : List Nd} (a : FoldOf L F) (b : FoldOf L G) : F = G := by
  obtain ⟨S, h, rfl⟩ := a
  obtain ⟨T, g, rfl⟩ := b
  rw [Srt.uniq idA_ahd h g]
def FoldC (L : List Nd) : Prop := TotC L ∧ ∀ n ∈ L, 1 ≤ n.1
instance (L : List Nd) : Decidable (FoldC L) := inferInstanceAs (Decidable (_ ∧ _))
def foldB (L : List Nd) : Bool := decide (FoldC L)
theorem foldC_iff {L : List Nd} : foldB L = true ↔ FoldC L := by simp [foldB]
theorem foldC_no {L : List Nd} (h : ¬ FoldC L) : foldB L = false := decide_eq_false h
theorem foldC_perm {L M : List Nd} (h : L.Perm M) : FoldC L ↔ FoldC M := by
  unfold FoldC
  rw [totC_perm h]
  constructor
  · rintro ⟨a, b⟩; exact ⟨a, fun n hn => b n (h.mem_iff.2 hn)⟩
  · rintro ⟨a, b⟩; exact ⟨a, fun n hn => b n (h.mem_iff.1 hn)⟩
theorem foldB_swap (L M : List Nd) : foldB (L ++ M) = foldB (M ++ L) := by
  have := foldC_perm (List.perm_append_comm (l₁ := L) (l₂ := M))
  unfold foldB
  exact decide_eq_decide.2 this
theorem foldC_app {L M : List Nd} (h : FoldC (L ++ M)) : FoldC L ∧ FoldC M :=
  ⟨⟨(totC_app h.1).1, fun n hn => h.2 n (by simp [hn])⟩, ⟨(totC_app h.1).2, fun n hn => h.2 n (by simp [hn])⟩⟩
theorem FoldOf.inv {L F : List Nd} (h : FoldOf L F) (hL : NonNeg L) : FInv L F := by
  obtain ⟨S, hS, rfl⟩ := h
  have hN : NonNeg S := fun n hn => hL n (hS.mem.1 hn)
  have i := fold_inv S.length S (Nat.le_refl _) hS.ord hN
  rw [List.take_of_length_le (Nat.le_refl _)] at i
  exact ⟨i.good, i.sum.trans (sumC_perm hS.perm), fun id => (i.at_ id).trans (sumAt_perm id hS.perm), fun n hn => by
    obtain ⟨m, hm, e⟩ := i.mem n hn
    exact ⟨m, hS.mem.1 hm, e⟩, by have := i.len; have := hS.len; omega⟩
theorem FInv.foldC {L F : List Nd} (h : FInv L F) (hL : FoldC L) : FoldC F :=
  ⟨⟨fun n hn => by have := h.good.pos n hn; omega, by rw [h.sum]; exact hL.1.2⟩, fun n hn => by
    obtain ⟨m, hm, e⟩ := h.mem n hn
    rw [← e]; exact hL.2 m hm⟩
/-- two lists of one sum for each Id are folded alike -/
theorem fold_same {L M F G : List Nd} (hF : FInv L F) (hG : FInv M G) (h : ∀ id, sumAt id L = sumAt id M) : F = G :=
  good_uniq F G hF.good hG.good fun id => by rw [hF.at_, hG.at_, h]
theorem foldC_two {L M F G : List Nd} (hF : FInv L F) (hG : FInv M G) (h : FoldC (L ++ M)) : FoldC (F ++ G) := by
  have a := hF.foldC (foldC_app h).1
  have b := hG.foldC (foldC_app h).2
  refine ⟨⟨fun n hn => ?_, ?_⟩, fun n hn => ?_⟩
  · rcases List.mem_append.1 hn with hn | hn
    · exact a.1.1 n hn
    · exact b.1.1 n hn
  · rw [sumC_app, hF.sum, hG.sum, ← sumC_app]; exact h.1.2
  · rcases List.mem_append.1 hn with hn | hn
    · exact a.2 n hn
    · exact b.2 n hn

end Go.Proofs.Ytafkkhjhdfmhpaa
