/- Plain facts on runs of values: rising, apart, and not side by side; one more run; the runs that nodes hold, and the gaps between. No program is spoken of here. -/
import Derived.Test.YtjmglihdndknjaaTiNum2
namespace Go.Proofs.Ytjmglihdndknjaa
set_option linter.unusedVariables false

abbrev Rn := Int × Int
def InR (L : List Rn) (x : Int) : Prop := ∃ r ∈ L, r.1 ≤ x ∧ x ≤ r.2
def Gap (r s : Rn) : Prop := r.2 + 1 < s.1
/-- runs of values below m -/
def Runs (m : Int) (L : List Rn) : Prop := (∀ r ∈ L, 0 ≤ r.1 ∧ r.1 ≤ r.2 ∧ r.2 < m) ∧ L.Pairwise Gap
theorem inR_nil (x : Int) : ¬ InR [] x := fun ⟨r, h, _⟩ => by simp at h
theorem inR_app (L M : List Rn) (x : Int) : InR (L ++ M) x ↔ InR L x ∨ InR M x := by
  unfold InR
  constructor
  · rintro ⟨t, h, g⟩
    rcases List.mem_append.1 h with h | h
    · exact .inl ⟨t, h, g⟩
    · exact .inr ⟨t, h, g⟩
  · rintro (⟨t, h, g⟩ | ⟨t, h, g⟩)
    · exact ⟨t, List.mem_append.2 (.inl h), g⟩
    · exact ⟨t, List.mem_append.2 (.inr h), g⟩
theorem inR_one (r : Rn) (x : Int) : InR [r] x ↔ r.1 ≤ x ∧ x ≤ r.2 := by unfold InR; simp
/-- between: some runs were looked at (P); x0 has become x; what is ahead, and behind -/
structure WInv (m : Int) (P : List Rn) (x0 : Rn) (A : List Rn) (x : Rn) (B : List Rn) : Prop where
  ahead : ∀ r ∈ A, r ∈ P
  behind : ∀ r ∈ B, r ∈ P
  pa : A.Pairwise Gap
  pb : B.Pairwise Gap
  ax : ∀ r ∈ A, Gap r x
  xb : ∀ r ∈ B, Gap x r
  low : 0 ≤ x.1
  mid : x.1 ≤ x.2
  top : x.2 < m
  all : ∀ y, (InR A y ∨ (x.1 ≤ y ∧ y ≤ x.2) ∨ InR B y) ↔ InR P y ∨ (x0.1 ≤ y ∧ y ≤ x0.2)
  len : A.length + B.length ≤ P.length
theorem w_start {m : Int} {x : Rn} (h : 0 ≤ x.1 ∧ x.1 ≤ x.2 ∧ x.2 < m) : WInv m [] x [] x [] :=
  ⟨fun r h => by simp at h, fun r h => by simp at h, List.Pairwise.nil, List.Pairwise.nil, fun r h => by simp at h, fun r h => by simp at h, h.1, h.2.1, h.2.2,
    fun y => ⟨fun g => g.elim (fun g => absurd g (inR_nil y)) fun g => g.elim .inr (fun g => absurd g (inR_nil y)), fun g => g.elim (fun g => absurd g (inR_nil y)) fun g => .inr (.inl g)⟩, by simp⟩
theorem pw_snoc {A : List Rn} {e : Rn} (h : A.Pairwise Gap) (g : ∀ r ∈ A, Gap r e) : (A ++ [e]).Pairwise Gap :=
  List.pairwise_append.2 ⟨h, by simp, fun s hs u hu => by simp at hu; subst hu; exact g s hs⟩
theorem mem_snoc {A : List Rn} {e r : Rn} (h : r ∈ A ++ [e]) : r ∈ A ∨ r = e := by simpa using h
/-- the next run lies behind all that were looked at -/
theorem w_ahead {m : Int} {P A B : List Rn} {x0 x e : Rn} (h : WInv m P x0 A x B) (he : e.1 ≤ e.2) (hP : ∀ p ∈ P, Gap p e) (hPr : ∀ p ∈ P, p.1 ≤ p.2) (c : e.2 + 1 < x.1) : WInv m (P ++ [e]) x0 (A ++ [e]) x B := by
  have hB : B = [] := by
    cases B with
    | nil => rfl
    | cons r B =>
      have a := h.xb r (by simp)
      have b := hP r (h.behind r (by simp))
      have d := hPr r (h.behind r (by simp))
      have := h.mid
      unfold Gap at a b; omega
  subst hB
  refine ⟨fun r hr => ?_, fun r hr => by simp at hr, pw_snoc h.pa fun r hr => hP r (h.ahead r hr), h.pb, fun r hr => ?_, h.xb, h.low, h.mid, h.top, fun y => ?_, by have := h.len; simp at *; omega⟩
  · rcases mem_snoc hr with hr | rfl
    · simp [h.ahead r hr]
    · simp
  · rcases mem_snoc hr with hr | rfl
    · exact h.ax r hr
    · exact c
  · rw [inR_app, inR_app, inR_one]
    have := h.all y
    constructor
    · rintro ((g | g) | g)
      · exact (this.1 (.inl g)).elim (fun q => .inl (.inl q)) .inr
      · exact .inl (.inr g)
      · exact (this.1 (.inr g)).elim (fun q => .inl (.inl q)) .inr
    · rintro ((g | g) | g)
      · rcases this.2 (.inl g) with q | q
        · exact .inl (.inl q)
        · exact .inr q
      · exact .inl (.inr g)
      · rcases this.2 (.inr g) with q | q
        · exact .inl (.inl q)
        · exact .inr q
theorem w_behind {m : Int} {P A B : List Rn} {x0 x e : Rn} (h : WInv m P x0 A x B) (he : e.1 ≤ e.2) (hP : ∀ p ∈ P, Gap p e) (c : x.2 + 1 < e.1) : WInv m (P ++ [e]) x0 A x (B ++ [e]) := by
  refine ⟨fun r hr => by simp [h.ahead r hr], fun r hr => ?_, h.pa, pw_snoc h.pb fun r hr => hP r (h.behind r hr), h.ax, fun r hr => ?_, h.low, h.mid, h.top, fun y => ?_, by have := h.len; simp at *; omega⟩
  · rcases mem_snoc hr with hr | rfl
    · simp [h.behind r hr]
    · simp
  · rcases mem_snoc hr with hr | rfl
    · exact h.xb r hr
    · exact c
  · rw [inR_app, inR_app, inR_one]
    have := h.all y
    constructor
    · rintro (g | g | g | g)
      · exact (this.1 (.inl g)).elim (fun q => .inl (.inl q)) .inr
      · exact (this.1 (.inr (.inl g))).elim (fun q => .inl (.inl q)) .inr
      · exact (this.1 (.inr (.inr g))).elim (fun q => .inl (.inl q)) .inr
      · exact .inl (.inr g)
    · rintro ((g | g) | g)
      · rcases this.2 (.inl g) with q | q | q
        · exact .inl q
        · exact .inr (.inl q)
        · exact .inr (.inr (.inl q))
      · exact .inr (.inr (.inr g))
      · rcases this.2 (.inr g) with q | q | q
        · exact .inl q
        · exact .inr (.inl q)
        · exact .inr (.inr (.inl q))
theorem w_touch {m : Int} {P A B : List Rn} {x0 x e : Rn} (h : WInv m P x0 A x B) (he : 0 ≤ e.1 ∧ e.1 ≤ e.2 ∧ e.2 < m) (hP : ∀ p ∈ P, Gap p e) (hPr : ∀ p ∈ P, p.1 ≤ p.2) (c : ¬ e.2 + 1 < x.1) (d : ¬ x.2 + 1 < e.1) {lo hi : Int} (hlo : lo = min e.1 x.1) (hhi : hi = max e.2 x.2) :
    WInv m (P ++ [e]) x0 A (lo, hi) B := by
  have hB : B = [] := by
    cases B with
    | nil => rfl
    | cons r B =>
      have a := h.xb r (by simp)
      have b := hP r (h.behind r (by simp))
      have d := hPr r (h.behind r (by simp))
      unfold Gap at a b; omega
  subst hB
  have hx := h.mid
  have h0 := h.low
  have h2 := h.top
  refine ⟨fun r hr => by simp [h.ahead r hr], fun r hr => by simp at hr, h.pa, h.pb, fun r hr => ?_, fun r hr => by simp at hr, ?_, ?_, ?_, fun y => ?_, by have := h.len; simp at *; omega⟩
  · have a := h.ax r hr
    have b := hP r (h.ahead r hr)
    unfold Gap at *; simp only; omega
  · simp only; omega
  · simp only; omega
  · simp only; omega
  · rw [inR_app, inR_one]
    have := h.all y
    simp only
    constructor
    · rintro (g | g | g)
      · exact (this.1 (.inl g)).elim (fun q => .inl (.inl q)) .inr
      · by_cases q : x.1 ≤ y ∧ y ≤ x.2
        · exact (this.1 (.inr (.inl q))).elim (fun q => .inl (.inl q)) .inr
        · exact .inl (.inr (by omega))
      · exact absurd g (inR_nil y)
    · rintro ((g | g) | g)
      · rcases this.2 (.inl g) with q | q | q
        · exact .inl q
        · exact .inr (.inl (by omega))
        · exact absurd q (inR_nil y)
      · exact .inr (.inl (by omega))
      · rcases this.2 (.inr g) with q | q | q
        · exact .inl q
        · exact .inr (.inl (by omega))
        · exact absurd q (inR_nil y)
theorem w_end {m : Int} {P A B : List Rn} {x0 x : Rn} (hP : Runs m P) (h : WInv m P x0 A x B) : Runs m (A ++ [x] ++ B) ∧ (∀ y, InR (A ++ [x] ++ B) y ↔ InR P y ∨ (x0.1 ≤ y ∧ y ≤ x0.2)) ∧ (A ++ [x] ++ B).length ≤ P.length + 1 := by
  refine ⟨⟨fun r hr => ?_, List.pairwise_append.2 ⟨pw_snoc h.pa h.ax, h.pb, fun s hs u hu => ?_⟩⟩, fun y => ?_, by have := h.len; simp; omega⟩
  · rcases List.mem_append.1 hr with hr | hr
    · rcases mem_snoc hr with hr | rfl
      · exact hP.1 r (h.ahead r hr)
      · exact ⟨h.low, h.mid, h.top⟩
    · exact hP.1 r (h.behind r hr)
  · have b := h.xb u hu
    rcases mem_snoc hs with hs | rfl
    · have a := h.ax s hs
      have := h.mid
      unfold Gap at *; omega
    · exact b
  · rw [inR_app, inR_app, inR_one, ← h.all y]
    exact ⟨fun g => g.elim (fun g => g.elim .inl fun g => .inr (.inl g)) fun g => .inr (.inr g), fun g => g.elim (fun g => .inl (.inl g)) fun g => g.elim (fun g => .inl (.inr g)) .inr⟩

/-! ### tiles of runs -/
/-- T lays out the runs P -/
def LaidR (l : Int) (P : List Rn) (T : List Int) : Prop := Good l T ∧ (∀ x, Held l T x ↔ InR P x) ∧ T.length ≤ P.length * 96
theorem laidR_start (l : Int) : LaidR l [] [] := ⟨⟨fun t h => by simp at h, List.Pairwise.nil⟩, fun x => ⟨fun g => absurd g (held_nil l x), fun g => absurd g (inR_nil x)⟩, by simp⟩
theorem laidR_step {l : Int} {P : List Rn} {T U : List Int} {r : Rn} (h : LaidR l P T) (hP : ∀ p ∈ P, Gap p r) (hU : Good l U) (hr : ∀ x, Held l U x ↔ r.1 ≤ x ∧ x ≤ r.2) (hl : U.length ≤ 96) : LaidR l (P ++ [r]) (T ++ U) := by
  obtain ⟨h1, h2, h3⟩ := h
  refine ⟨⟨fun t ht => ?_, List.pairwise_append.2 ⟨h1.2, hU.2, fun s hs u hu => ?_⟩⟩, fun x => ?_, by simp; omega⟩
  · rcases List.mem_append.1 ht with ht | ht
    · exact h1.1 t ht
    · exact hU.1 t ht
  · obtain ⟨p, hp, g⟩ := (h2 _).1 (held_hi h1.1 hs)
    have a := hP p hp
    have nu := node_bd (hU.1 u hu)
    have b := (hr (loN l u)).1 ⟨u, hu, Int.le_refl _, nu.2.1⟩
    unfold Gap at a
    refine ⟨by omega, fun ⟨q1, q2⟩ => ?_⟩
    have ns := node_bd (h1.1 s hs)
    have := node_pair (h1.1 s hs) (by omega) q1
    subst q2
    omega
  · rw [held_app, inR_app, inR_one, h2, hr]
/-- how many values the runs have -/
def totR : List Rn → Int
  | [] => 0
  | r :: L => (r.2 - r.1 + 1) + totR L
theorem totR_app (S T : List Rn) : totR (S ++ T) = totR S + totR T := by
  induction S with
  | nil => simp [totR]
  | cons a S ih => simp [totR, ih]; omega

end Go.Proofs.Ytjmglihdndknjaa
