/- Plain facts of layer gap: which of two digests surely has the greater share, where first, and how far they are apart. No program is spoken of here. -/
import Derived.Test.YtelekchdbiimiaaGreatDgQ
import Derived.Test.YtelekchdbiimiaaGreatPln
namespace Go.Proofs.YtelekchdbiimiaaGreat
set_option linter.unusedVariables false
/-- why two are not held against one another -/
def gpE (la lb : Int) (L M : List Nd) : Int := if la = lb then (if sumC L = 0 ∨ sumC M = 0 then 7 else 0) else 6
/-- which one surely has the greater share at a number -/
def sdN (l : Int) (L M : List Nd) (x : Int) : Int := if highR l M x * sumC L < lowR l L x * sumC M then 1 else if highR l L x * sumC M < lowR l M x * sumC L then -1 else 0
theorem sd_apart {l : Int} {L M : List Nd} (hL : RollC l L) (hM : RollC l M) (x : Int) : ¬ (highR l M x * sumC L < lowR l L x * sumC M ∧ highR l L x * sumC M < lowR l M x * sumC L) := fun ⟨a, b⟩ => by
  have sL : 0 ≤ sumC L := sumC_nonneg (good_nonneg (roll_good hL))
  have sM : 0 ≤ sumC M := sumC_nonneg (good_nonneg (roll_good hM))
  have c := Int.mul_le_mul_of_nonneg_right (low_high hM x) sL
  have d := Int.mul_le_mul_of_nonneg_right (low_high hL x) sM
  omega
theorem sd_turn {l : Int} {L M : List Nd} (hL : RollC l L) (hM : RollC l M) (x : Int) : sdN l M L x = -sdN l L M x := by
  have a := sd_apart hL hM x
  unfold sdN
  split <;> split <;> (try split) <;> (try split) <;> omega
theorem sd_self {l : Int} {L : List Nd} (hL : RollC l L) (x : Int) : sdN l L L x = 0 := by
  have sL : 0 ≤ sumC L := sumC_nonneg (good_nonneg (roll_good hL))
  have c := Int.mul_le_mul_of_nonneg_right (low_high hL x) sL
  unfold sdN
  rw [if_neg (by omega), if_neg (by omega)]
theorem sd_bd (l : Int) (L M : List Nd) (x : Int) : -1 ≤ sdN l L M x ∧ sdN l L M x ≤ 1 := by
  unfold sdN; split <;> (try split) <;> omega
def endsN (l : Int) : List Nd → List Int
  | [] => []
  | n :: L => loN l n.1 :: hiN l n.1 :: endsN l L
def gpP (l : Int) (L M : List Nd) : List Int := 0 :: endsN l (L ++ M)
theorem ends_mem {l : Int} {n : Nd} : ∀ {L : List Nd}, n ∈ L → loN l n.1 ∈ endsN l L ∧ hiN l n.1 ∈ endsN l L
  | x :: L, h => by
    rcases List.mem_cons.1 h with rfl | h
    · exact ⟨by simp [endsN], by simp [endsN]⟩
    · obtain ⟨a, b⟩ := ends_mem (l := l) h
      exact ⟨by simp [endsN, a], by simp [endsN, b]⟩
theorem ends_of {l e : Int} : ∀ {L : List Nd}, e ∈ endsN l L → ∃ n ∈ L, e = loN l n.1 ∨ e = hiN l n.1
  | x :: L, h => by
    simp only [endsN, List.mem_cons] at h
    rcases h with h | h | h
    · exact ⟨x, by simp, .inl h⟩
    · exact ⟨x, by simp, .inr h⟩
    · obtain ⟨n, hn, q⟩ := ends_of h
      exact ⟨n, by simp [hn], q⟩
theorem gp_in {l e : Int} {L M : List Nd} (hL : RollC l L) (hM : RollC l M) (h : e ∈ gpP l L M) : 0 ≤ e ∧ e < 2 ^ l.toNat := by
  rcases List.mem_cons.1 h with rfl | h
  · exact ⟨Int.le_refl _, two_pos _⟩
  · obtain ⟨n, hn, q⟩ := ends_of h
    have ne : 0 ≤ loN l n.1 ∧ loN l n.1 ≤ hiN l n.1 ∧ hiN l n.1 < 2 ^ l.toNat := by
      rcases List.mem_append.1 hn with hn | hn
      · exact node_ends hL hn
      · exact node_ends hM hn
    omega
theorem gp_under {P : List Int} {y : Int} : (∃ p ∈ P, p ≤ y) → ∃ e ∈ P, e ≤ y ∧ ∀ p ∈ P, p ≤ y → p ≤ e := by
  induction P with
  | nil => rintro ⟨p, h, _⟩; simp at h
  | cons x P ih =>
    rintro ⟨p, hp, hy⟩
    by_cases c : ∃ p ∈ P, p ≤ y
    · obtain ⟨e, he, ey, em⟩ := ih c
      by_cases d : x ≤ y ∧ e < x
      · exact ⟨x, by simp, d.1, fun p hp hy => by
          rcases List.mem_cons.1 hp with rfl | hp
          · exact Int.le_refl _
          · have := em p hp hy; omega⟩
      · exact ⟨e, by simp [he], ey, fun p hp hy => by
          rcases List.mem_cons.1 hp with rfl | hp
          · omega
          · exact em p hp hy⟩
    · rcases List.mem_cons.1 hp with rfl | hp
      · exact ⟨p, by simp, hy, fun q hq hqy => by
          rcases List.mem_cons.1 hq with rfl | hq
          · exact Int.le_refl _
          · exact absurd ⟨q, hq, hqy⟩ c⟩
      · exact absurd ⟨p, hp, hy⟩ c
/-- each value tells what some end ahead of it, or it, tells -/
theorem gp_step {l y : Int} {L M : List Nd} (hL : RollC l L) (hM : RollC l M) (h : 0 ≤ y) : ∃ e ∈ gpP l L M, e ≤ y ∧ (lowR l L e = lowR l L y ∧ highR l L e = highR l L y) ∧ lowR l M e = lowR l M y ∧ highR l M e = highR l M y := by
  obtain ⟨e, he, ey, em⟩ := gp_under (P := gpP l L M) (y := y) ⟨0, by simp [gpP], h⟩
  have key : ∀ {A : List Nd}, (∀ n ∈ A, n ∈ L ++ M) → lowR l A e = lowR l A y ∧ highR l A e = highR l A y := fun {A} hA => by
    refine ⟨wtF_eq fun n hn => ?_, wtF_eq fun n hn => ?_⟩
    · have m : hiN l n.1 ∈ gpP l L M := List.mem_cons_of_mem _ (ends_mem (hA n hn)).2
      have q := em _ m
      exact decide_eq_decide.2 ⟨fun a => Int.le_trans a ey, q⟩
    · have m : loN l n.1 ∈ gpP l L M := List.mem_cons_of_mem _ (ends_mem (hA n hn)).1
      have q := em _ m
      exact decide_eq_decide.2 ⟨fun a => Int.le_trans a ey, q⟩
  exact ⟨e, he, ey, key fun n hn => by simp [hn], key fun n hn => by simp [hn]⟩
theorem sd_same {l e y : Int} {L M : List Nd} (h : (lowR l L e = lowR l L y ∧ highR l L e = highR l L y) ∧ lowR l M e = lowR l M y ∧ highR l M e = highR l M y) : sdN l L M e = sdN l L M y := by
  unfold sdN; rw [h.1.1, h.1.2, h.2.1, h.2.2]
structure ApP (l : Int) (L M : List Nd) (x s : Int) : Prop where
  none : s = 0 → x = 0 ∧ ∀ y, 0 ≤ y → y < 2 ^ l.toNat → sdN l L M y = 0
  one : s ≠ 0 → (0 ≤ x ∧ x < 2 ^ l.toNat) ∧ sdN l L M x = s ∧ ∀ y, 0 ≤ y → y < x → sdN l L M y = 0
theorem ApP.uniq {l x s y t : Int} {L M : List Nd} (a : ApP l L M x s) (b : ApP l L M y t) : x = y ∧ s = t := by
  by_cases hs : s = 0 <;> by_cases ht : t = 0
  · exact ⟨by rw [(a.none hs).1, (b.none ht).1], by rw [hs, ht]⟩
  · obtain ⟨⟨h1, h2⟩, h3, _⟩ := b.one ht
    exact absurd (h3.symm.trans ((a.none hs).2 y h1 h2)) ht
  · obtain ⟨⟨h1, h2⟩, h3, _⟩ := a.one hs
    exact absurd (h3.symm.trans ((b.none ht).2 x h1 h2)) hs
  · obtain ⟨⟨h1, h2⟩, h3, h4⟩ := a.one hs
    obtain ⟨⟨g1, g2⟩, g3, g4⟩ := b.one ht
    rcases Int.lt_trichotomy x y with q | q | q
    · exact absurd (h3.symm.trans (g4 x h1 q)) hs
    · exact ⟨q, by rw [← h3, ← g3, q]⟩
    · exact absurd (g3.symm.trans (h4 y g1 q)) ht
def apS (f : Int → Int) (s : Int × Int) (y : Int) : Int × Int := if f y ≠ 0 ∧ (s.2 = 0 ∨ y < s.1) then (y, f y) else s
def apF (f : Int → Int) (P : List Int) : Int × Int := P.foldl (apS f) (0, 0)
theorem apF_take (f : Int → Int) {P : List Int} {k : Nat} (hk : k < P.length) : apF f (P.take (k + 1)) = apS f (apF f (P.take k)) (P.getD k 0) := by
  have g : P.getD k 0 = P[k] := by simp [List.getD_eq_getElem?_getD, hk]
  unfold apF
  rw [List.take_succ_eq_append_getElem hk, List.foldl_append, g]
  rfl
theorem ap_spec (f : Int → Int) : ∀ (P : List Int) (s : Int × Int), (s.2 = 0 → s.1 = 0) →
    (s.2 = 0 → (∀ p ∈ P, f p = 0) → P.foldl (apS f) s = s) ∧ ((P.foldl (apS f) s).2 = 0 → (s.2 = 0 ∧ (P.foldl (apS f) s).1 = 0 ∧ ∀ p ∈ P, f p = 0)) ∧
    ((P.foldl (apS f) s).2 ≠ 0 → (P.foldl (apS f) s = s ∨ ∃ p ∈ P, (P.foldl (apS f) s) = (p, f p)) ∧ (s.2 ≠ 0 → (P.foldl (apS f) s).1 ≤ s.1) ∧ ∀ p ∈ P, f p ≠ 0 → (P.foldl (apS f) s).1 ≤ p)
  | [], s, h => ⟨fun _ _ => rfl, fun e => ⟨e, h e, fun p hp => by simp at hp⟩, fun _ => ⟨.inl rfl, fun _ => Int.le_refl _, fun p hp => by simp at hp⟩⟩
  | x :: P, s, h => by
    have hs : (apS f s x).2 = 0 → (apS f s x).1 = 0 := by
      unfold apS; split
      · rename_i c; intro e; exact absurd e c.1
      · exact h
    obtain ⟨a, b, c⟩ := ap_spec f P (apS f s x) hs
    have e : (x :: P).foldl (apS f) s = P.foldl (apS f) (apS f s x) := rfl
    rw [e]
    refine ⟨fun s0 al => ?_, fun z => ?_, fun z => ?_⟩
    · have fx := al x (by simp)
      have q : apS f s x = s := by unfold apS; rw [if_neg (fun k => k.1 fx)]
      rw [q] at a ⊢
      exact a s0 fun p hp => al p (by simp [hp])
    · obtain ⟨b1, b2, b3⟩ := b z
      have fx : f x = 0 ∧ s.2 = 0 := by
        unfold apS at b1
        by_cases k : f x ≠ 0 ∧ (s.2 = 0 ∨ x < s.1)
        · rw [if_pos k] at b1; exact absurd b1 k.1
        · rw [if_neg k] at b1
          exact ⟨Classical.byContradiction fun q => k ⟨q, .inl b1⟩, b1⟩
      exact ⟨fx.2, b2, fun p hp => by
        rcases List.mem_cons.1 hp with rfl | hp
        · exact fx.1
        · exact b3 p hp⟩
    · obtain ⟨c1, c2, c3⟩ := c z
      by_cases k : f x ≠ 0 ∧ (s.2 = 0 ∨ x < s.1)
      · have q : apS f s x = (x, f x) := if_pos k
        rw [q] at c1 c2 c3 ⊢
        refine ⟨?_, fun s0 => ?_, fun p hp fp => ?_⟩
        · rcases c1 with c1 | ⟨p, hp, c1⟩
          · exact .inr ⟨x, by simp, c1⟩
          · exact .inr ⟨p, by simp [hp], c1⟩
        · have := c2 k.1
          rcases k.2 with w | w
          · exact absurd w s0
          · simp only at this; omega
        · rcases List.mem_cons.1 hp with rfl | hp
          · exact c2 k.1
          · exact c3 p hp fp
      · have q : apS f s x = s := if_neg k
        rw [q] at c1 c2 c3 ⊢
        refine ⟨?_, c2, fun p hp fp => ?_⟩
        · rcases c1 with c1 | ⟨p, hp, c1⟩
          · exact .inl c1
          · exact .inr ⟨p, by simp [hp], c1⟩
        · rcases List.mem_cons.1 hp with rfl | hp
          · have s0 : s.2 ≠ 0 := fun w => k ⟨fp, .inl w⟩
            have := c2 s0
            have : ¬ p < s.1 := fun w => k ⟨fp, .inr w⟩
            omega
          · exact c3 p hp fp
theorem ap_is {l : Int} {L M : List Nd} (hL : RollC l L) (hM : RollC l M) : ApP l L M (apF (sdN l L M) (gpP l L M)).1 (apF (sdN l L M) (gpP l L M)).2 := by
  obtain ⟨a, b, c⟩ := ap_spec (sdN l L M) (gpP l L M) (0, 0) fun _ => rfl
  refine ⟨fun z => ?_, fun z => ?_⟩
  · obtain ⟨_, b2, b3⟩ := b z
    refine ⟨b2, fun y y0 _ => ?_⟩
    obtain ⟨e, he, _, q⟩ := gp_step (y := y) hL hM y0
    rw [← sd_same q]; exact b3 e he
  · obtain ⟨c1, _, c3⟩ := c z
    have c1' : ∃ p ∈ gpP l L M, apF (sdN l L M) (gpP l L M) = (p, sdN l L M p) := by
      rcases c1 with c1 | c1
      · exact absurd (show (apF (sdN l L M) (gpP l L M)).2 = 0 by unfold apF; rw [c1]) z
      · exact c1
    obtain ⟨p, hp, ep⟩ := c1'
    have e1 : (apF (sdN l L M) (gpP l L M)).1 = p := by rw [ep]
    have e2 : (apF (sdN l L M) (gpP l L M)).2 = sdN l L M p := by rw [ep]
    rw [e1, e2]
    refine ⟨gp_in hL hM hp, rfl, fun y y0 yx => ?_⟩
    obtain ⟨e, he, ey, q⟩ := gp_step (y := y) hL hM y0
    rw [← sd_same q]
    refine Classical.byContradiction fun w => ?_
    have t : (apF (sdN l L M) (gpP l L M)).1 ≤ e := c3 e he w
    omega
def gdnN (l : Int) (L : List Nd) (den x : Int) : Int := partN (lowR l L x) den (sumC L)
def gupN (l : Int) (L : List Nd) (den x : Int) : Int := partUpN (highR l L x) den (sumC L)
def mtL (l : Int) (L M : List Nd) (den x : Int) : Int := max (gdnN l L den x - gupN l M den x) (gdnN l M den x - gupN l L den x)
def mtH (l : Int) (L M : List Nd) (den x : Int) : Int := max (gupN l L den x - gdnN l M den x) (gupN l M den x - gdnN l L den x)
structure MxP (l : Int) (f : Int → Int) (m : Int) : Prop where
  pos : 0 ≤ m
  most : ∀ y, 0 ≤ y → y < 2 ^ l.toNat → f y ≤ m
  one : m = 0 ∨ ∃ y, (0 ≤ y ∧ y < 2 ^ l.toNat) ∧ f y = m
theorem MxP.uniq {l m k : Int} {f : Int → Int} (a : MxP l f m) (b : MxP l f k) : m = k := by
  rcases a.one with q | ⟨y, hy, q⟩ <;> rcases b.one with r | ⟨z, hz, r⟩
  · omega
  · have := a.most z hz.1 hz.2; have := b.pos; omega
  · have := b.most y hy.1 hy.2; have := a.pos; omega
  · have := a.most z hz.1 hz.2; have := b.most y hy.1 hy.2; omega
def mxF (f : Int → Int) (P : List Int) : Int := P.foldl (fun m y => max m (f y)) 0
theorem mxF_take (f : Int → Int) {P : List Int} {k : Nat} (hk : k < P.length) : mxF f (P.take (k + 1)) = max (mxF f (P.take k)) (f (P.getD k 0)) := by
  have g : P.getD k 0 = P[k] := by simp [List.getD_eq_getElem?_getD, hk]
  unfold mxF
  rw [List.take_succ_eq_append_getElem hk, List.foldl_append, g]
  rfl
theorem mxF_spec (f : Int → Int) : ∀ (P : List Int) (m : Int), m ≤ P.foldl (fun m y => max m (f y)) m ∧ (∀ p ∈ P, f p ≤ P.foldl (fun m y => max m (f y)) m) ∧ (P.foldl (fun m y => max m (f y)) m = m ∨ ∃ p ∈ P, f p = P.foldl (fun m y => max m (f y)) m)
  | [], m => ⟨Int.le_refl _, fun p hp => by simp at hp, .inl rfl⟩
  | x :: P, m => by
    obtain ⟨a, b, c⟩ := mxF_spec f P (max m (f x))
    refine ⟨Int.le_trans (by omega) a, fun p hp => ?_, ?_⟩
    · rcases List.mem_cons.1 hp with rfl | hp
      · exact Int.le_trans (by omega) a
      · exact b p hp
    · rcases c with c | ⟨p, hp, c⟩
      · by_cases q : f x ≤ m
        · exact .inl (by show List.foldl _ (max m (f x)) P = _; rw [c]; omega)
        · exact .inr ⟨x, by simp, by show _ = List.foldl _ (max m (f x)) P; rw [c]; omega⟩
      · exact .inr ⟨p, by simp [hp], c⟩
theorem mx_is {l : Int} {L M : List Nd} (hL : RollC l L) (hM : RollC l M) {f : Int → Int} (hf : ∀ e y, (lowR l L e = lowR l L y ∧ highR l L e = highR l L y) ∧ lowR l M e = lowR l M y ∧ highR l M e = highR l M y → f e = f y) : MxP l f (mxF f (gpP l L M)) := by
  obtain ⟨a, b, c⟩ := mxF_spec f (gpP l L M) 0
  refine ⟨a, fun y y0 _ => ?_, ?_⟩
  · obtain ⟨e, he, _, q⟩ := gp_step (y := y) hL hM y0
    rw [← hf e y q]; exact b e he
  · rcases c with c | ⟨p, hp, c⟩
    · exact .inl c
    · exact .inr ⟨p, gp_in hL hM hp, c⟩
theorem mtL_is {l den : Int} {L M : List Nd} (hL : RollC l L) (hM : RollC l M) : MxP l (mtL l L M den) (mxF (mtL l L M den) (gpP l L M)) :=
  mx_is hL hM fun e y q => by unfold mtL gdnN gupN; rw [q.1.1, q.1.2, q.2.1, q.2.2]
theorem mtH_is {l den : Int} {L M : List Nd} (hL : RollC l L) (hM : RollC l M) : MxP l (mtH l L M den) (mxF (mtH l L M den) (gpP l L M)) :=
  mx_is hL hM fun e y q => by unfold mtH gdnN gupN; rw [q.1.1, q.1.2, q.2.1, q.2.2]
theorem mtL_turn (l den : Int) (L M : List Nd) : mtL l M L den = mtL l L M den := by
  funext x; unfold mtL; omega
theorem mtH_turn (l den : Int) (L M : List Nd) : mtH l M L den = mtH l L M den := by
  funext x; unfold mtH; omega
/-- why it isn't told, and what is told -/
def mtE (la lb : Int) (L M : List Nd) (den : Int) : Int := if gpE la lb L M = 0 then (if den < 1 then 2 else 0) else gpE la lb L M
def mtA (la lb : Int) (L M : List Nd) (den : Int) : Int := if mtE la lb L M den = 0 then mxF (mtL la L M den) (gpP la L M) else 0
def mtB (la lb : Int) (L M : List Nd) (den : Int) : Int := if mtE la lb L M den = 0 then mxF (mtH la L M den) (gpP la L M) else 0
def apX (la lb : Int) (L M : List Nd) : Int := if gpE la lb L M = 0 then (apF (sdN la L M) (gpP la L M)).1 else 0
def apZ (la lb : Int) (L M : List Nd) : Int := if gpE la lb L M = 0 then (apF (sdN la L M) (gpP la L M)).2 else 0
def sdE (la lb : Int) (L M : List Nd) (x : Int) : Int := if gpE la lb L M = 0 then sdN la L M x else 0
theorem gpE_yes {la lb : Int} {L M : List Nd} (h : gpE la lb L M = 0) : la = lb ∧ sumC L ≠ 0 ∧ sumC M ≠ 0 := by
  unfold gpE at h
  by_cases e : la = lb
  · rw [if_pos e] at h
    by_cases z : sumC L = 0 ∨ sumC M = 0
    · rw [if_pos z] at h; omega
    · exact ⟨e, by omega, by omega⟩
  · rw [if_neg e] at h; omega
/-- turned about -/
theorem gp_turn {l den : Int} {L M : List Nd} (hL : RollC l L) (hM : RollC l M) : (apF (sdN l M L) (gpP l M L)).1 = (apF (sdN l L M) (gpP l L M)).1 ∧ (apF (sdN l M L) (gpP l M L)).2 = -(apF (sdN l L M) (gpP l L M)).2
    ∧ mxF (mtL l M L den) (gpP l M L) = mxF (mtL l L M den) (gpP l L M) ∧ mxF (mtH l M L den) (gpP l M L) = mxF (mtH l L M den) (gpP l L M) := by
  have a := ap_is hM hL
  have b := ap_is hL hM
  have c : ApP l M L (apF (sdN l L M) (gpP l L M)).1 (-(apF (sdN l L M) (gpP l L M)).2) := by
    refine ⟨fun z => ?_, fun z => ?_⟩
    · obtain ⟨h1, h2⟩ := b.none (by omega)
      exact ⟨h1, fun y y0 y1 => by rw [sd_turn hL hM, h2 y y0 y1]; rfl⟩
    · obtain ⟨h1, h2, h3⟩ := b.one (by omega)
      exact ⟨h1, by rw [sd_turn hL hM, h2], fun y y0 y1 => by rw [sd_turn hL hM, h3 y y0 y1]; rfl⟩
  obtain ⟨u, v⟩ := a.uniq c
  refine ⟨u, v, ?_, ?_⟩
  · have p := mtL_is (den := den) hM hL
    rw [mtL_turn] at p ⊢
    exact p.uniq (mtL_is hL hM)
  · have p := mtH_is (den := den) hM hL
    rw [mtH_turn] at p ⊢
    exact p.uniq (mtH_is hL hM)
end Go.Proofs.YtelekchdbiimiaaGreat
