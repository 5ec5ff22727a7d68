/- Plain facts of layer gap: the ends of nodes in order, each once; the first at which two are apart, and how far they are apart, told of these. No program is spoken of here. -/
import Derived.Test.YtelekchdbiimiaaGreatGpNum
import Derived.Lib.SlicesCompact
namespace Go.Proofs.YtelekchdbiimiaaGreat
set_option linter.unusedVariables false
/-- the first of what is put in order, each once -/
theorem gpCmp {T : List Int} (hs : T.Pairwise (fun a b => a ≤ b)) : ∀ k, k ≤ T.length → (Lib.compactUpTo T.toArray k).Pairwise (fun a b => a < b) ∧ ∀ x, x ∈ Lib.compactUpTo T.toArray k ↔ x ∈ T.take k
  | 0, _ => ⟨by simp [Lib.compactUpTo], fun x => by simp [Lib.compactUpTo]⟩
  | k + 1, h => by
    obtain ⟨p, m⟩ := gpCmp hs k (by omega)
    have hk : k < T.length := by omega
    have ek : T.toArray[k]! = T[k] := by simp [hk]
    have tk : T.take (k + 1) = T.take k ++ [T[k]] := List.take_succ_eq_append_getElem hk
    have le : ∀ x ∈ T.take k, x ≤ T[k] := fun x hx => by
      obtain ⟨i, hi, e⟩ := List.mem_iff_getElem.1 hx
      rw [List.getElem_take] at e
      rw [List.length_take] at hi
      rw [← e]
      exact List.pairwise_iff_getElem.1 hs i k (by omega) hk (by omega)
    rw [Lib.compactUpTo_succ, ek, tk]
    by_cases z : k = 0
    · subst z
      have kp : Lib.keeps T.toArray 0 = true := by simp [Lib.keeps]
      rw [kp, if_pos rfl]
      have e0 : Lib.compactUpTo T.toArray 0 = [] := by simp [Lib.compactUpTo]
      rw [e0]
      exact ⟨by simp, fun x => by simp⟩
    · obtain ⟨i, rfl⟩ : ∃ i, k = i + 1 := ⟨k - 1, by omega⟩
      have hi : i < T.length := by omega
      have ei : T.toArray[i + 1 - 1]! = T[i] := by simp [hi]
      have it : T[i] ∈ T.take (i + 1) := by
        have q := List.take_succ_eq_append_getElem hi
        rw [q]
        exact List.mem_append_right _ (List.mem_singleton.2 rfl)
      by_cases lt : T[i] = T[i + 1]
      · have kp : Lib.keeps T.toArray (i + 1) = false := Lib.keeps_neg (by omega) (by rw [ei, ek, lt])
        rw [kp, if_neg (by decide), List.append_nil]
        refine ⟨p, fun x => ?_⟩
        rw [m x, List.mem_append, List.mem_singleton]
        exact ⟨.inl, fun q => q.elim id fun e => by rw [e, ← lt]; exact it⟩
      · have kp : Lib.keeps T.toArray (i + 1) = true := Lib.keeps_pos (by rw [ei, ek]; exact fun e => lt e.symm)
        rw [kp, if_pos rfl]
        have ii : T[i] < T[i + 1] := by have := le _ it; omega
        refine ⟨List.pairwise_append.2 ⟨p, by simp, fun a ha b hb => ?_⟩, fun x => ?_⟩
        · rw [List.mem_singleton.1 hb]
          have ha2 := (m a).1 ha
          obtain ⟨j, hj, e⟩ := List.mem_iff_getElem.1 ha2
          rw [List.getElem_take] at e
          rw [List.length_take] at hj
          have : T[j] ≤ T[i] := by
            rcases Nat.lt_or_eq_of_le (show j ≤ i by omega) with q | q
            · exact List.pairwise_iff_getElem.1 hs j i (by omega) hi q
            · subst q; exact Int.le_refl _
          omega
        · rw [List.mem_append, List.mem_append, m x]
/-- the ends of the nodes of both in order, each once -/
def gpS (l : Int) (L M : List Nd) : List Int := (endsN l L ++ endsN l M).mergeSort fun x y => decide (x ≤ y)
def gpC (l : Int) (L M : List Nd) : List Int := Lib.compact (gpS l L M)
theorem gpEnds_len (l : Int) : ∀ L : List Nd, (endsN l L).length = 2 * L.length
  | [] => rfl
  | n :: L => by simp only [endsN, List.length_cons, gpEnds_len l L]; omega
theorem gpEnds_app (l : Int) (M : List Nd) : ∀ L : List Nd, endsN l (L ++ M) = endsN l L ++ endsN l M
  | [] => rfl
  | n :: L => by simp only [endsN, List.cons_append, gpEnds_app l M L]
theorem gpS_len (l : Int) (L M : List Nd) : (gpS l L M).length = 2 * L.length + 2 * M.length := by
  unfold gpS; rw [List.length_mergeSort, List.length_append, gpEnds_len, gpEnds_len]
theorem gpS_pair (l : Int) (L M : List Nd) : (gpS l L M).Pairwise (fun a b => a ≤ b) := by
  have h := List.pairwise_mergeSort (le := fun (x y : Int) => decide (x ≤ y)) (fun a b c h1 h2 => by simp at *; omega) (fun a b => by simp; omega) (endsN l L ++ endsN l M)
  exact h.imp fun q => of_decide_eq_true q
theorem gpC_is (l : Int) (L M : List Nd) : (gpC l L M).Pairwise (fun a b => a < b) ∧ ∀ x, x ∈ gpC l L M ↔ x ∈ endsN l (L ++ M) := by
  have h := gpCmp (gpS_pair l L M) (gpS l L M).length (Nat.le_refl _)
  refine ⟨h.1, fun x => ?_⟩
  have m := h.2 x
  rw [List.take_length] at m
  unfold gpC Lib.compact
  rw [m, gpEnds_app]
  unfold gpS
  rw [List.mem_mergeSort]
theorem gpC_len (l : Int) (L M : List Nd) : (gpC l L M).length ≤ 2 * L.length + 2 * M.length := by
  rw [← gpS_len l]
  unfold gpC Lib.compact Lib.compactUpTo
  rw [List.length_map]
  exact Nat.le_trans (List.length_filter_le _ _) (by simp)
theorem gpC_in {l x : Int} {L M : List Nd} (hL : RollC l L) (hM : RollC l M) (h : x ∈ gpC l L M) : 0 ≤ x ∧ x < 2 ^ l.toNat :=
  gp_in hL hM (List.mem_cons_of_mem _ (((gpC_is l L M).2 x).1 h))
theorem gpC_bd {l x : Int} {L M : List Nd} (hL : RollC l L) (hM : RollC l M) (h : x ∈ gpC l L M) : 0 ≤ x ∧ x < 281474976710656 := by
  have a := gpC_in hL hM h
  have u : 1 ≤ l ∧ l ≤ 48 := of_decide_eq_true hL.1
  have q : (2 : Nat) ^ l.toNat ≤ 2 ^ 48 := Nat.pow_le_pow_right (by omega) (by omega)
  have e : (2 : Int) ^ l.toNat = ((2 ^ l.toNat : Nat) : Int) := by rw [Int.natCast_pow]; rfl
  rw [e] at a; omega
/-- what a value's bounds are is told at some end ahead of it, or it has none -/
def Nul (l : Int) (L M : List Nd) (y : Int) : Prop := (lowR l L y = 0 ∧ highR l L y = 0) ∧ lowR l M y = 0 ∧ highR l M y = 0
theorem gp_step2 {l y : Int} {L M : List Nd} (hL : RollC l L) (hM : RollC l M) (h : 0 ≤ y) : (∃ e ∈ gpC l L M, e ≤ y ∧ (lowR l L e = lowR l L y ∧ highR l L e = highR l L y) ∧ lowR l M e = lowR l M y ∧ highR l M e = highR l M y) ∨ Nul l L M y := by
  obtain ⟨e, he, ey, q⟩ := gp_step (y := y) hL hM h
  rcases List.mem_cons.1 he with rfl | he
  · by_cases z : (0 : Int) ∈ endsN l (L ++ M)
    · exact .inl ⟨0, ((gpC_is l L M).2 0).2 z, ey, q⟩
    · right
      have key : ∀ {A : List Nd}, RollC l A → (∀ n ∈ A, n ∈ L ++ M) → lowR l A 0 = 0 ∧ highR l A 0 = 0 := fun {A} hA hin => by
        have hz : highR l A 0 = 0 := by
          refine Eq.trans (wtF_eq (Q := fun _ => false) fun n hn => decide_eq_false fun c => z ?_) (wtF_none A)
          have c : loN l n.1 ≤ 0 := c
          have b := node_ends hA hn
          have m := (ends_mem (l := l) (hin n hn)).1
          rwa [show loN l n.1 = 0 by omega] at m
        have a := low_high hA 0
        have b := (low_bd hA 0).1
        exact ⟨by omega, hz⟩
      have kL := key hL fun n hn => by simp [hn]
      have kM := key hM fun n hn => by simp [hn]
      exact ⟨⟨q.1.1.symm.trans kL.1, q.1.2.symm.trans kL.2⟩, q.2.1.symm.trans kM.1, q.2.2.symm.trans kM.2⟩
  · exact .inl ⟨e, ((gpC_is l L M).2 e).2 he, ey, q⟩
theorem sd_nul {l y : Int} {L M : List Nd} (h : Nul l L M y) : sdN l L M y = 0 := by
  unfold sdN
  rw [h.1.1, h.1.2, h.2.1, h.2.2]
  simp
/-- the first of the ends at which two are apart -/
theorem ap_none {l : Int} {L M : List Nd} (hL : RollC l L) (hM : RollC l M) (h : ∀ x ∈ gpC l L M, sdN l L M x = 0) : (apF (sdN l L M) (gpP l L M)).1 = 0 ∧ (apF (sdN l L M) (gpP l L M)).2 = 0 := by
  refine (ap_is hL hM).uniq ⟨fun _ => ⟨rfl, fun y y0 _ => ?_⟩, fun z => absurd rfl z⟩
  rcases gp_step2 hL hM y0 with ⟨e, he, _, q⟩ | q
  · rw [← sd_same q]; exact h e he
  · exact sd_nul q
theorem ap_first {l x : Int} {L M P : List Nd} {pre : List Int} (hL : RollC l L) (hM : RollC l M) (hp : pre ++ [x] <+: gpC l L M) (h0 : ∀ y ∈ pre, sdN l L M y = 0) (hx : sdN l L M x ≠ 0) :
    (apF (sdN l L M) (gpP l L M)).1 = x ∧ (apF (sdN l L M) (gpP l L M)).2 = sdN l L M x := by
  obtain ⟨t, ht⟩ := hp
  have pw := (gpC_is l L M).1
  refine (ap_is hL hM).uniq ⟨fun z => absurd z hx, fun _ => ⟨gpC_in hL hM (by rw [← ht]; simp), rfl, fun y y0 yx => ?_⟩⟩
  rcases gp_step2 hL hM y0 with ⟨e, he, ey, q⟩ | q
  · rw [← sd_same q]
    rw [← ht] at he pw
    rw [List.append_assoc, List.mem_append] at he
    rcases he with he | he
    · exact h0 e he
    · exfalso
      rw [List.append_assoc] at pw
      have pw2 := (List.pairwise_append.1 pw).2.1
      rw [List.singleton_append] at he pw2
      rcases List.mem_cons.1 he with rfl | he
      · omega
      · have := (List.pairwise_cons.1 pw2).1 e he
        omega
  · exact sd_nul q
/-- how far two are apart, told of the ends -/
theorem mx_gpC {l : Int} {L M : List Nd} (hL : RollC l L) (hM : RollC l M) {f : Int → Int} (hf : ∀ e y, (lowR l L e = lowR l L y ∧ highR l L e = highR l L y) ∧ lowR l M e = lowR l M y ∧ highR l M e = highR l M y → f e = f y) (hz : ∀ y, Nul l L M y → f y ≤ 0) :
    mxF f (gpC l L M) = mxF f (gpP l L M) := by
  refine MxP.uniq (l := l) (f := f) ?_ (mx_is hL hM hf)
  obtain ⟨a, b, c⟩ := mxF_spec f (gpC l L M) 0
  refine ⟨a, fun y y0 _ => ?_, ?_⟩
  · rcases gp_step2 hL hM y0 with ⟨e, he, _, q⟩ | q
    · rw [← hf e y q]; exact b e he
    · exact Int.le_trans (hz y q) a
  · rcases c with c | ⟨p, hp, c⟩
    · exact .inl c
    · exact .inr ⟨p, gpC_in hL hM hp, c⟩
/-- parts of a share -/
theorem gp_part2 {s d N : Int} (s0 : 0 ≤ s) (sN : s ≤ N) (N1 : 1 ≤ N) (d0 : 0 ≤ d) (d1 : d ≤ 9223372036854775807) : partN s d N = s * d / N ∧ (0 ≤ partN s d N ∧ partN s d N ≤ d) ∧ ((s * d % N = 0 ∧ partUpN s d N = s * d / N) ∨ (0 < s * d % N ∧ partUpN s d N = s * d / N + 1)) ∧ 0 ≤ partUpN s d N ∧ partUpN s d N ≤ d := by
  have pc : partC s d N := ⟨s0, d0, N1⟩
  have m0 : 0 ≤ s * d := Int.mul_nonneg s0 d0
  have m1 : s * d ≤ N * d := Int.mul_le_mul_of_nonneg_right sN d0
  have m2 : N * d ≤ N * 9223372036854775807 := Int.mul_le_mul_of_nonneg_left d1 (by omega)
  have lt : s * d < 9223372036854775808 * N := by omega
  have pn : partN s d N = s * d / N := by rw [(part_yes pc).1]; exact if_pos lt
  have q0 : 0 ≤ s * d / N := Int.ediv_nonneg m0 (by omega)
  have q1 : s * d / N ≤ d := Int.ediv_le_of_le_mul (by omega) (by rw [Int.mul_comm d N]; exact m1)
  have r0 := Int.emod_nonneg (s * d) (show N ≠ 0 by omega)
  have rr := (part_yes pc).2.1
  have em := Int.mul_ediv_add_emod (s * d) N
  have up : 0 < s * d % N → s * d / N + 1 ≤ d := fun h => by
    rcases Int.lt_or_le (s * d / N) d with q | q
    · omega
    · exfalso
      have e : s * d / N = d := by omega
      rw [e] at em
      omega
  cases hr : partR s d N
  · rw [hr] at rr
    have e := (partUp_flat hr).1.trans pn
    refine ⟨pn, by rw [pn]; exact ⟨q0, q1⟩, .inl ⟨?_, e⟩, by rw [e]; exact ⟨q0, q1⟩⟩
    unfold quotR at rr
    have := rr.symm
    simp only [decide_eq_true lt, Bool.true_and] at this
    simpa using this
  · rw [hr] at rr
    have rn : s * d % N ≠ 0 := by
      unfold quotR at rr
      simp only [Bool.true_eq, Bool.and_eq_true] at rr
      exact of_decide_eq_true rr.2
    have u := up (by omega)
    have e : partUpN s d N = s * d / N + 1 := by rw [(partUp_more hr (by rw [pn]; omega)).1, pn]
    exact ⟨pn, by rw [pn]; exact ⟨q0, q1⟩, .inr ⟨by omega, e⟩, by rw [e]; exact ⟨by omega, u⟩⟩
/-- the parts of a share of either are counts -/
theorem gp_dn_bd {l x den : Int} {L : List Nd} (h : RollC l L) (m : 1 ≤ sumC L) (d1 : 1 ≤ den) (d2 : den ≤ 9223372036854775807) : (0 ≤ gdnN l L den x ∧ gdnN l L den x ≤ den) ∧ 0 ≤ gupN l L den x ∧ gupN l L den x ≤ den := by
  have nn := good_nonneg (roll_good h)
  have lo := wtF_bd (fun n => decide (hiN l n ≤ x)) nn
  have hi := wtF_bd (fun n => decide (loN l n ≤ x)) nn
  exact ⟨(gp_part2 (s := lowR l L x) lo.1 lo.2 m (by omega) d2).2.1, (gp_part2 (s := highR l L x) hi.1 hi.2 m (by omega) d2).2.2.2⟩
theorem gp_nul {l y den : Int} {L M : List Nd} (sL : 1 ≤ sumC L) (sM : 1 ≤ sumC M) (d1 : 1 ≤ den) (d2 : den ≤ 9223372036854775807) (h : Nul l L M y) : mtL l L M den y ≤ 0 ∧ mtH l L M den y ≤ 0 := by
  have z : ∀ {N : Int}, 1 ≤ N → partN 0 den N = 0 ∧ partUpN 0 den N = 0 := fun {N} hN => by
    have a := gp_part2 (s := 0) (d := den) (N := N) (Int.le_refl _) (by omega) hN (by omega) d2
    rw [Int.zero_mul] at a
    simp at a
    exact ⟨a.1, a.2.2.1⟩
  unfold mtL mtH gdnN gupN
  rw [h.1.1, h.1.2, h.2.1, h.2.2, (z sL).1, (z sL).2, (z sM).1, (z sM).2]
  simp
theorem mtL_C {l den : Int} {L M : List Nd} (hL : RollC l L) (hM : RollC l M) (sL : 1 ≤ sumC L) (sM : 1 ≤ sumC M) (d1 : 1 ≤ den) (d2 : den ≤ 9223372036854775807) : mxF (mtL l L M den) (gpC l L M) = mxF (mtL l L M den) (gpP l L M) :=
  mx_gpC hL hM (fun e y q => by unfold mtL gdnN gupN; rw [q.1.1, q.1.2, q.2.1, q.2.2]) fun y h => (gp_nul sL sM d1 d2 h).1
theorem mtH_C {l den : Int} {L M : List Nd} (hL : RollC l L) (hM : RollC l M) (sL : 1 ≤ sumC L) (sM : 1 ≤ sumC M) (d1 : 1 ≤ den) (d2 : den ≤ 9223372036854775807) : mxF (mtH l L M den) (gpC l L M) = mxF (mtH l L M den) (gpP l L M) :=
  mx_gpC hL hM (fun e y q => by unfold mtH gdnN gupN; rw [q.1.1, q.1.2, q.2.1, q.2.2]) fun y h => (gp_nul sL sM d1 d2 h).2
/-- one more of a list that is gone over -/
theorem mxF_snoc (f : Int → Int) (P : List Int) (x : Int) : mxF f (P ++ [x]) = max (mxF f P) (f x) := by
  unfold mxF; rw [List.foldl_append]; rfl
end Go.Proofs.YtelekchdbiimiaaGreat
