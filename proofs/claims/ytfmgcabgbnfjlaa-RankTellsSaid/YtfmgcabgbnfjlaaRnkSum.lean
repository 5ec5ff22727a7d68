/- Plain facts of layer rank: a table of what weighs up to the values of a list. No program is spoken of here. -/
import Derived.Test.YtfmgcabgbnfjlaaRnkNum
import Derived.Test.YtfmgcabgbnfjlaaRcN
import Derived.Test.YtfmgcabgbnfjlaaBgNum
namespace Go.Proofs.Ytfmgcabgbnfjlaa
set_option linter.unusedVariables false

/-- up to y -/
def rkP (y : Int) : Int → Bool := fun v => decide (v ≤ y)
theorem low_up (l : Int) (L : List Nd) (y : Int) : lowR l L y = wtF (rkP y) (mapN (hiN l) L) := by rw [wt_map]; rfl
theorem high_up (l : Int) (L : List Nd) (y : Int) : highR l L y = wtF (rkP y) (mapN (loN l) L) := by rw [wt_map]; rfl
theorem wtF_perm {P : Int → Bool} {L M : List Nd} (h : L.Perm M) : wtF P L = wtF P M := by
  induction h with
  | nil => rfl
  | cons x _ ih => simp [wtF, ih]
  | swap x y l => simp only [wtF]; omega
  | trans _ _ a b => exact a.trans b
theorem wtF_mem {P : Int → Bool} {L : List Nd} (h : NonNeg L) {m : Nd} (hm : m ∈ L) (hp : P m.1 = true) : m.2 ≤ wtF P L := by
  induction L with
  | nil => simp at hm
  | cons n L ih =>
    have b := wtF_bd P (L := L) fun x hx => h x (List.mem_cons_of_mem _ hx)
    have n0 := h n (by simp)
    rcases List.mem_cons.1 hm with q | q
    · subst q; simp only [wtF, hp, if_true]; omega
    · have := ih (fun x hx => h x (List.mem_cons_of_mem _ hx)) q
      simp only [wtF]; split <;> omega
theorem wtF_full {P : Int → Bool} {L : List Nd} (h : ∀ n ∈ L, P n.1 = true) : wtF P L = sumC L := by
  rw [← wtF_all]
  exact wtF_congr fun n hn => h n hn
theorem wtF_zero {P : Int → Bool} {L : List Nd} (h : ∀ n ∈ L, P n.1 = false) : wtF P L = 0 := by
  rw [← wtF_none L]
  exact wtF_congr fun n hn => h n hn
/-- S tells what T's values weigh, each with those below it -/
structure SumI (T S : List Nd) : Prop where
  rise : S.Pairwise (fun a b => a.1 < b.1)
  mem : ∀ y, (∃ p ∈ S, p.1 = y) ↔ ∃ p ∈ T, p.1 = y
  wt : ∀ p ∈ S, p.2 = wtF (rkP p.1) T
theorem SumI.nil : SumI [] [] := ⟨List.Pairwise.nil, fun y => by simp, fun p h => by simp at h⟩
theorem SumI.perm {T T' S : List Nd} (h : SumI T S) (p : T.Perm T') : SumI T' S :=
  ⟨h.rise, fun y => (h.mem y).trans ⟨fun ⟨q, a, b⟩ => ⟨q, p.mem_iff.1 a, b⟩, fun ⟨q, a, b⟩ => ⟨q, p.mem_iff.2 a, b⟩⟩, fun q hq => (h.wt q hq).trans (wtF_perm p)⟩
theorem SumI.good {T S : List Nd} (h : SumI T S) (p : ∀ n ∈ T, 1 ≤ n.2) : Good S :=
  ⟨h.rise, fun n hn => by
    obtain ⟨m, hm, e⟩ := (h.mem n.1).1 ⟨n, hn, rfl⟩
    have a := wtF_mem (P := rkP n.1) (L := T) (fun x hx => by have := p x hx; omega) hm (decide_eq_true (by omega))
    rw [h.wt n hn]
    have := p m hm
    omega⟩
theorem up_snoc (T : List Nd) (v : Nd) (y : Int) : wtF (rkP y) (T ++ [v]) = wtF (rkP y) T + (if v.1 ≤ y then v.2 else 0) := by
  rw [wtF_app]
  simp only [wtF, rkP]
  by_cases h : v.1 ≤ y <;> simp [h]
/-- the last value once more -/
theorem SumI.same {T A : List Nd} {a v : Nd} (h : SumI T (A ++ [a])) (e : a.1 = v.1) (asc : ∀ p ∈ T, p.1 ≤ v.1) : SumI (T ++ [v]) (A ++ [(v.1, sumC (T ++ [v]))]) := by
  have r := List.pairwise_append.1 h.rise
  refine ⟨List.pairwise_append.2 ⟨r.1, by simp, fun x hx y hy => ?_⟩, fun y => ?_, fun p hp => ?_⟩
  · simp at hy; subst hy
    have := r.2.2 x hx a (by simp)
    show x.1 < v.1
    omega
  · constructor
    · rintro ⟨p, hp, q⟩
      rcases List.mem_append.1 hp with hp | hp
      · obtain ⟨m, hm, f⟩ := (h.mem y).1 ⟨p, by simp [hp], q⟩
        exact ⟨m, by simp [hm], f⟩
      · simp at hp; subst hp; exact ⟨v, by simp, q⟩
    · rintro ⟨p, hp, q⟩
      rcases List.mem_append.1 hp with hp | hp
      · obtain ⟨m, hm, f⟩ := (h.mem y).2 ⟨p, hp, q⟩
        rcases List.mem_append.1 hm with hm | hm
        · exact ⟨m, by simp [hm], f⟩
        · simp at hm; subst hm; exact ⟨(v.1, sumC (T ++ [v])), by simp, by show v.1 = y; omega⟩
      · simp at hp; subst hp; exact ⟨(p.1, sumC (T ++ [p])), by simp, q⟩
  · rcases List.mem_append.1 hp with hp | hp
    · have := r.2.2 p hp a (by simp)
      rw [h.wt p (by simp [hp]), up_snoc, if_neg (by omega)]; omega
    · simp at hp; subst hp
      refine (wtF_full fun n hn => decide_eq_true ?_).symm
      rcases List.mem_append.1 hn with hn | hn
      · exact asc n hn
      · simp at hn; subst hn; exact Int.le_refl _
/-- a greater value -/
theorem SumI.more {T S : List Nd} {v : Nd} (h : SumI T S) (lt : ∀ p ∈ S, p.1 < v.1) : SumI (T ++ [v]) (S ++ [(v.1, sumC (T ++ [v]))]) := by
  refine ⟨List.pairwise_append.2 ⟨h.rise, by simp, fun x hx y hy => ?_⟩, fun y => ?_, fun p hp => ?_⟩
  · simp at hy; subst hy; exact lt x hx
  · constructor
    · rintro ⟨p, hp, q⟩
      rcases List.mem_append.1 hp with hp | hp
      · obtain ⟨m, hm, f⟩ := (h.mem y).1 ⟨p, hp, q⟩
        exact ⟨m, by simp [hm], f⟩
      · simp at hp; subst hp; exact ⟨v, by simp, q⟩
    · rintro ⟨p, hp, q⟩
      rcases List.mem_append.1 hp with hp | hp
      · obtain ⟨m, hm, f⟩ := (h.mem y).2 ⟨p, hp, q⟩
        exact ⟨m, by simp [hm], f⟩
      · simp at hp; subst hp; exact ⟨(p.1, sumC (T ++ [p])), by simp, q⟩
  · rcases List.mem_append.1 hp with hp | hp
    · have := lt p hp
      rw [h.wt p hp, up_snoc, if_neg (by omega)]; omega
    · simp at hp; subst hp
      refine (wtF_full fun n hn => decide_eq_true ?_).symm
      rcases List.mem_append.1 hn with hn | hn
      · obtain ⟨m, hm, f⟩ := (h.mem n.1).2 ⟨n, hn, rfl⟩
        have := lt m hm
        show n.1 ≤ v.1
        omega
      · simp at hn; subst hn; exact Int.le_refl _
theorem SumI.lt {T S : List Nd} {v : Nd} (h : SumI T S) (asc : ∀ p ∈ T, p.1 ≤ v.1) (ne : ∀ k, S.length = k + 1 → (S.getD k nz).1 ≠ v.1) : ∀ p ∈ S, p.1 < v.1 := by
  have le : ∀ p ∈ S, p.1 ≤ v.1 := fun p hp => by
    obtain ⟨m, hm, e⟩ := (h.mem p.1).1 ⟨p, hp, rfl⟩
    have := asc m hm
    omega
  rcases List.eq_nil_or_concat S with e | ⟨A, a, e⟩
  · subst e; intro p hp; simp at hp
  · rw [List.concat_eq_append] at e
    subst e
    have r := List.pairwise_append.1 h.rise
    have na : a.1 ≠ v.1 := by
      have := ne A.length (by simp)
      rw [List.getD_eq_getElem?_getD] at this
      simpa using this
    have la := le a (by simp)
    intro p hp
    rcases List.mem_append.1 hp with hp | hp
    · have := r.2.2 p hp a (by simp); omega
    · simp at hp; subst hp; omega
theorem SumI.put {T S : List Nd} {v : Nd} {k : Nat} (h : SumI T S) (hk : S.length = k + 1) (e : (S.getD k nz).1 = v.1) (asc : ∀ p ∈ T, p.1 ≤ v.1) : SumI (T ++ [v]) (S.set k (v.1, sumC (T ++ [v]))) := by
  rcases List.eq_nil_or_concat S with q | ⟨A, a, q⟩
  · subst q; simp at hk
  · rw [List.concat_eq_append] at q
    subst q
    have hA : A.length = k := by simpa using hk
    have ea : a.1 = v.1 := by
      rw [← hA, List.getD_eq_getElem?_getD] at e
      simpa using e
    rw [← hA, List.set_append_right _ _ (Nat.le_refl _), Nat.sub_self, List.set_cons_zero]
    exact h.same ea asc
/-- what weighs up to x -/
def rkAt (S : List Nd) (x : Int) : Int := if leN S x = 0 then 0 else (S.getD (leN S x - 1) nz).2
theorem SumI.at {T S : List Nd} (h : SumI T S) (p : ∀ n ∈ T, 1 ≤ n.2) (x : Int) : rkAt S x = wtF (rkP x) T := by
  have g := h.good p
  unfold rkAt
  by_cases z : leN S x = 0
  · rw [if_pos z]
    refine (wtF_zero fun n hn => decide_eq_false ?_).symm
    obtain ⟨m, hm, e⟩ := (h.mem n.1).2 ⟨n, hn, rfl⟩
    obtain ⟨j, hj, ej⟩ := List.mem_iff_getElem.1 hm
    have a := le_at g x hj
    rw [z, decide_eq_true (Nat.zero_le j)] at a
    have a := of_decide_eq_true a
    rw [List.getD_eq_getElem?_getD, List.getElem?_eq_getElem hj] at a
    simp at a
    rw [ej] at a
    omega
  · rw [if_neg z]
    have hl := le_le S x
    have hk : leN S x - 1 < S.length := by omega
    have hm := nd_mem hk
    rw [h.wt _ hm]
    have a := le_at g x hk
    rw [decide_eq_false (by omega : ¬ leN S x ≤ leN S x - 1)] at a
    have a := of_decide_eq_false a
    refine wtF_congr fun n hn => ?_
    unfold rkP
    refine decide_eq_decide.2 ⟨fun q => by omega, fun q => ?_⟩
    obtain ⟨m, hm, e⟩ := (h.mem n.1).2 ⟨n, hn, rfl⟩
    obtain ⟨j, hj, ej⟩ := List.mem_iff_getElem.1 hm
    have b := le_at g x hj
    rw [List.getD_eq_getElem?_getD, List.getElem?_eq_getElem hj] at b
    simp only [Option.getD_some, ej] at b
    rw [decide_eq_false (by omega : ¬ m.1 > x)] at b
    have b := of_decide_eq_false b.symm
    rw [List.getD_eq_getElem?_getD, List.getElem?_eq_getElem hk]
    simp only [Option.getD_some]
    rcases Nat.lt_or_ge j (leN S x - 1) with c | c
    · have := List.pairwise_iff_getElem.1 h.rise j (leN S x - 1) hj hk c
      rw [ej] at this
      omega
    · have c : j = leN S x - 1 := by omega
      subst c
      rw [ej]; omega
theorem rise_map : ∀ {S : List Nd}, S.Pairwise (fun a b => a.1 < b.1) → RiseI (S.map fun n => n.1)
  | [], _ => trivial
  | n :: S, h => by
    have q := List.pairwise_cons.1 h
    exact ⟨fun y hy => by obtain ⟨m, hm, e⟩ := List.mem_map.1 hy; have := q.1 m hm; subst e; exact this, rise_map q.2⟩
theorem SumI.steps {l : Int} {L S : List Nd} (h : SumI (mapN (hiN l) L) S) : S.map (fun n => n.1) = stepsN l L := by
  refine rise_uniq (rise_map h.rise) (steps_rise l L) fun y => ?_
  rw [steps_mem, List.mem_map]
  refine (h.mem y).trans ⟨?_, ?_⟩
  · rintro ⟨p, hp, e⟩
    obtain ⟨n, hn, q⟩ := List.mem_map.1 (show p ∈ L.map fun n => (hiN l n.1, n.2) from hp)
    subst q
    exact ⟨n, hn, e⟩
  · rintro ⟨n, hn, e⟩
    exact ⟨(hiN l n.1, n.2), List.mem_map.2 ⟨n, hn, rfl⟩, e⟩
theorem mapN_take (f : Int → Int) (L : List Nd) {k : Nat} (hk : k < L.length) : mapN f (L.take (k + 1)) = mapN f (L.take k) ++ [(f (L.getD k nz).1, (L.getD k nz).2)] := by
  have g : L.getD k nz = L[k] := by simp [List.getD_eq_getElem?_getD, hk]
  unfold mapN
  rw [List.take_succ_eq_append_getElem hk, List.map_append, g]
  rfl
theorem asc_take {T : List Nd} (h : T.Pairwise (fun a b => a.1 ≤ b.1)) {k : Nat} (hk : k < T.length) : ∀ p ∈ T.take k, p.1 ≤ (T.getD k nz).1 := by
  intro p hp
  obtain ⟨j, hj, e⟩ := List.mem_iff_getElem.1 hp
  have hj2 : j < k ∧ j < T.length := by rw [List.length_take] at hj; omega
  have a := List.pairwise_iff_getElem.1 h j k hj2.2 hk hj2.1
  rw [List.getElem_take] at e
  rw [List.getD_eq_getElem?_getD, List.getElem?_eq_getElem hk]
  simp only [Option.getD_some]
  rw [← e]; exact a

end Go.Proofs.Ytfmgcabgbnfjlaa
