/- Plain facts on runs of values: the gaps between, and how many values they have. No program is spoken of here. -/
import Derived.Test.YtjmglihdndknjaaTiMem2
namespace Go.Proofs.Ytjmglihdndknjaa
set_option linter.unusedVariables false

def GapInv (m : Int) (P O : List Rn) (at_ : Int) : Prop :=
  Runs m O ∧ (∀ x, InR O x ↔ (0 ≤ x ∧ x < at_) ∧ ¬ InR P x) ∧ (∀ p ∈ P, p.2 < at_) ∧ (∀ o ∈ O, o.2 + 1 < at_) ∧ ((at_ = 0 ∧ P = []) ∨ ∃ p ∈ P, at_ = p.2 + 1) ∧ O.length ≤ P.length
theorem gap_start (m : Int) : GapInv m [] [] 0 := ⟨⟨fun r h => by simp at h, List.Pairwise.nil⟩, fun x => ⟨fun g => absurd g (inR_nil x), fun g => by omega⟩, fun p h => by simp at h, fun p h => by simp at h, .inl ⟨rfl, rfl⟩, by simp⟩
theorem runs_snoc {m : Int} {O : List Rn} {r : Rn} (h : Runs m O) (hr : 0 ≤ r.1 ∧ r.1 ≤ r.2 ∧ r.2 < m) (hg : ∀ o ∈ O, o.2 + 1 < r.1) : Runs m (O ++ [r]) :=
  ⟨fun s hs => by rcases mem_snoc hs with hs | rfl; exact h.1 s hs; exact hr, pw_snoc h.2 hg⟩
theorem inR_snoc (O : List Rn) (r : Rn) (x : Int) : InR (O ++ [r]) x ↔ InR O x ∨ (r.1 ≤ x ∧ x ≤ r.2) := by rw [inR_app, inR_one]
theorem gap_at_bd {m : Int} {P O : List Rn} {at_ : Int} (h : GapInv m P O at_) (hP : ∀ p ∈ P, 0 ≤ p.1 ∧ p.1 ≤ p.2 ∧ p.2 < m) (hm : 0 ≤ m) : 0 ≤ at_ ∧ at_ ≤ m := by
  rcases h.2.2.2.2.1 with ⟨e, _⟩ | ⟨p, hp, e⟩
  · omega
  · have := hP p hp; omega
theorem gap_yes {m : Int} {P O : List Rn} {at_ : Int} {r : Rn} (h : GapInv m P O at_) (hP : ∀ p ∈ P, 0 ≤ p.1 ∧ p.1 ≤ p.2 ∧ p.2 < m) (hr : 0 ≤ r.1 ∧ r.1 ≤ r.2 ∧ r.2 < m) (hg : ∀ p ∈ P, Gap p r) (c : at_ < r.1) : GapInv m (P ++ [r]) (O ++ [(at_, r.1 - 1)]) (r.2 + 1) := by
  have hb := gap_at_bd h hP (by omega)
  obtain ⟨h1, h2, h3, h4, h5, h6⟩ := h
  refine ⟨runs_snoc h1 ⟨by simp only; omega, by simp only; omega, by simp only; omega⟩ h4, fun x => ?_, fun p hp => ?_, fun o ho => ?_, .inr ⟨r, by simp, rfl⟩, by simp; omega⟩
  · rw [inR_snoc, inR_snoc, h2]
    constructor
    · rintro (⟨g1, g2⟩ | g)
      · exact ⟨by omega, fun q => q.elim g2 fun q => by omega⟩
      · simp only at g
        refine ⟨by omega, fun q => q.elim (fun ⟨p, hp, q⟩ => ?_) fun q => by omega⟩
        have := h3 p hp; omega
    · rintro ⟨g1, g2⟩
      by_cases e : x < at_
      · exact .inl ⟨by omega, fun q => g2 (.inl q)⟩
      · by_cases e2 : x ≤ r.1 - 1
        · exact .inr (by simp only; omega)
        · exact absurd (.inr ⟨by omega, by omega⟩) g2
  · rcases mem_snoc hp with hp | rfl
    · have := h3 p hp; omega
    · omega
  · rcases mem_snoc ho with ho | rfl
    · have := h4 o ho; omega
    · simp only; omega
theorem gap_no {m : Int} {P O : List Rn} {at_ : Int} {r : Rn} (h : GapInv m P O at_) (hP : ∀ p ∈ P, 0 ≤ p.1 ∧ p.1 ≤ p.2 ∧ p.2 < m) (hr : 0 ≤ r.1 ∧ r.1 ≤ r.2 ∧ r.2 < m) (hg : ∀ p ∈ P, Gap p r) (c : ¬ at_ < r.1) : GapInv m (P ++ [r]) O (r.2 + 1) := by
  obtain ⟨h1, h2, h3, h4, h5, h6⟩ := h
  rcases h5 with ⟨e, rfl⟩ | ⟨p, hp, e⟩
  · subst e
    have hO : O = [] := by
      cases O with
      | nil => rfl
      | cons o O => simp at h6
    subst hO
    refine ⟨h1, fun x => ?_, fun p hp => ?_, fun o ho => by simp at ho, .inr ⟨r, by simp, rfl⟩, by simp⟩
    · rw [inR_snoc]
      exact ⟨fun g => absurd g (inR_nil x), fun ⟨g1, g2⟩ => absurd (.inr ⟨by omega, by omega⟩) g2⟩
    · rcases mem_snoc hp with hp | rfl
      · simp at hp
      · omega
  · have := hg p hp; unfold Gap at this; omega
theorem gap_end_yes {m : Int} {P O : List Rn} {at_ : Int} (h : GapInv m P O at_) (hP : ∀ p ∈ P, 0 ≤ p.1 ∧ p.1 ≤ p.2 ∧ p.2 < m) (hm : 0 ≤ m) (c : at_ < m) :
    Runs m (O ++ [(at_, m - 1)]) ∧ (∀ x, InR (O ++ [(at_, m - 1)]) x ↔ (0 ≤ x ∧ x < m) ∧ ¬ InR P x) := by
  have hb := gap_at_bd h hP hm
  obtain ⟨h1, h2, h3, h4, h5, h6⟩ := h
  refine ⟨runs_snoc h1 ⟨by simp only; omega, by simp only; omega, by simp only; omega⟩ h4, fun x => ?_⟩
  rw [inR_snoc, h2]
  constructor
  · rintro (⟨g1, g2⟩ | g)
    · exact ⟨by omega, g2⟩
    · simp only at g
      refine ⟨by omega, fun ⟨p, hp, q⟩ => ?_⟩
      have := h3 p hp; omega
  · rintro ⟨g1, g2⟩
    by_cases e : x < at_
    · exact .inl ⟨by omega, g2⟩
    · exact .inr (by simp only; omega)
theorem gap_end_no {m : Int} {P O : List Rn} {at_ : Int} (h : GapInv m P O at_) (hP : ∀ p ∈ P, 0 ≤ p.1 ∧ p.1 ≤ p.2 ∧ p.2 < m) (hm : 0 ≤ m) (c : ¬ at_ < m) :
    Runs m O ∧ (∀ x, InR O x ↔ (0 ≤ x ∧ x < m) ∧ ¬ InR P x) := by
  have hb := gap_at_bd h hP hm
  obtain ⟨h1, h2, h3, h4, h5, h6⟩ := h
  refine ⟨h1, fun x => ?_⟩
  rw [h2]
  have : at_ = m := by omega
  rw [this]

/-- what lays out runs has as many values as they have -/
theorem runs_tot {l : Int} (hl : 1 ≤ l ∧ l ≤ 48) {L : List Rn} (h : Runs (2 ^ l.toNat) L) : ∀ k, k ≤ L.length → ∃ T, LaidR l (L.take k) T ∧ tot l T = totR (L.take k) := by
  intro k
  induction k with
  | zero => intro _; exact ⟨[], laidR_start l, rfl⟩
  | succ k ih =>
    intro hk
    obtain ⟨T, h1, h2⟩ := ih (by omega)
    have hk' : k < L.length := by omega
    rw [take_atr hk']
    have hr := h.1 _ (getDr_mem hk')
    have hg := gap_at h.2 hk'
    generalize L.getD k rz = r at *
    have va : ValC l r.1 := ⟨hl.1, hl.2, by omega, by omega⟩
    have vb : ValC l r.2 := ⟨hl.1, hl.2, by omega, by omega⟩
    obtain ⟨k', j, f, hn, _, t1, t2, t3, t4⟩ := lay_top va vb
    obtain ⟨p1, p2, p3, p4⟩ := laid_into f hn (R := []) ⟨fun t h => by simp at h, List.Pairwise.nil⟩ (fun t h => by simp at h) hr.2.1 t1 t4
    refine ⟨_, laidR_step h1 hg (stack_good p1) (fun x => ?_) (by simp at p4 ⊢; omega), ?_⟩
    · rw [held_rev, p2]
      exact ⟨fun g => g.elim (fun g => absurd g (held_nil l x)) id, .inr⟩
    · rw [tot_app, totR_app, h2, tot_rev, p3]
      simp [tot, totR]; omega
theorem tot_runs {l : Int} (hl : 1 ≤ l ∧ l ≤ 48) {L : List Rn} (h : Runs (2 ^ l.toNat) L) {T : List Int} (hT : Good l T) (he : ∀ x, Held l T x ↔ InR L x) : tot l T = totR L := by
  obtain ⟨U, h1, h2⟩ := runs_tot hl h L.length (Nat.le_refl _)
  rw [List.take_of_length_le (Nat.le_refl _)] at h1 h2
  rw [uniq hT h1.1 (fun x => by rw [he, h1.2.1]), h2]
theorem totR_bd {m : Int} {L : List Rn} (h : ∀ r ∈ L, 0 ≤ r.1 ∧ r.1 ≤ r.2 ∧ r.2 < m) (hm : m ≤ 281474976710656) : 0 ≤ totR L ∧ totR L ≤ L.length * 281474976710656 := by
  induction L with
  | nil => simp [totR]
  | cons t T ih =>
    have b := h t (by simp)
    have := ih fun u hu => h u (by simp [hu])
    rw [totR, List.length_cons]
    omega

end Go.Proofs.Ytjmglihdndknjaa
