/- Plain facts of layer gap: two digests turned about; one and itself. No program is spoken of here. -/
import Derived.Test.YtelekchdbiimiaaGreatGpNum
namespace Go.Proofs.YtelekchdbiimiaaGreat
set_option linter.unusedVariables false
theorem gpE_turn (la lb : Int) (L M : List Nd) : gpE lb la M L = gpE la lb L M := by
  unfold gpE
  by_cases e : la = lb
  · rw [if_pos e.symm, if_pos e]
    by_cases z : sumC L = 0 ∨ sumC M = 0
    · rw [if_pos z, if_pos z.symm]
    · rw [if_neg z, if_neg (fun q => z q.symm)]
  · rw [if_neg e, if_neg (fun q => e q.symm)]
theorem sdE_turn {la lb : Int} {L M : List Nd} (hL : RollC la L) (hM : RollC lb M) (x : Int) : sdE lb la M L x = -sdE la lb L M x := by
  unfold sdE
  rw [gpE_turn]
  by_cases h : gpE la lb L M = 0
  · obtain ⟨rfl, _, _⟩ := gpE_yes h
    rw [if_pos h, if_pos h, sd_turn hL hM]
  · rw [if_neg h, if_neg h]; rfl
theorem ap_turn {la lb : Int} {L M : List Nd} (hL : RollC la L) (hM : RollC lb M) : apX lb la M L = apX la lb L M ∧ apZ lb la M L = -apZ la lb L M := by
  unfold apX apZ
  rw [gpE_turn]
  by_cases h : gpE la lb L M = 0
  · obtain ⟨rfl, _, _⟩ := gpE_yes h
    rw [if_pos h, if_pos h, if_pos h, if_pos h]
    have t := gp_turn (den := 1) hL hM
    exact ⟨t.1, t.2.1⟩
  · rw [if_neg h, if_neg h, if_neg h, if_neg h]; exact ⟨rfl, rfl⟩
theorem mt_turn {la lb : Int} {L M : List Nd} (hL : RollC la L) (hM : RollC lb M) (den : Int) : mtE lb la M L den = mtE la lb L M den ∧ mtA lb la M L den = mtA la lb L M den ∧ mtB lb la M L den = mtB la lb L M den := by
  have e : mtE lb la M L den = mtE la lb L M den := by unfold mtE; rw [gpE_turn]
  refine ⟨e, ?_, ?_⟩
  · unfold mtA
    rw [e]
    by_cases h : mtE la lb L M den = 0
    · have g : gpE la lb L M = 0 := by
        unfold mtE at h
        by_cases z : gpE la lb L M = 0
        · exact z
        · rw [if_neg z] at h; exact absurd h z
      obtain ⟨rfl, _, _⟩ := gpE_yes g
      rw [if_pos h, if_pos h]
      exact (gp_turn (den := den) hL hM).2.2.1
    · rw [if_neg h, if_neg h]
  · unfold mtB
    rw [e]
    by_cases h : mtE la lb L M den = 0
    · have g : gpE la lb L M = 0 := by
        unfold mtE at h
        by_cases z : gpE la lb L M = 0
        · exact z
        · rw [if_neg z] at h; exact absurd h z
      obtain ⟨rfl, _, _⟩ := gpE_yes g
      rw [if_pos h, if_pos h]
      exact (gp_turn (den := den) hL hM).2.2.2
    · rw [if_neg h, if_neg h]
theorem gpE_self (l : Int) (L : List Nd) : gpE l l L L = if sumC L = 0 then 7 else 0 := by
  unfold gpE
  rw [if_pos rfl]
  by_cases z : sumC L = 0
  · rw [if_pos (.inl z), if_pos z]
  · rw [if_neg (by omega), if_neg z]
theorem ap_self {l : Int} {L : List Nd} (hL : RollC l L) : apX l l L L = 0 ∧ apZ l l L L = 0 := by
  have a := ap_is hL hL
  have z : ApP l L L 0 0 := ⟨fun _ => ⟨rfl, fun y _ _ => sd_self hL y⟩, fun h => absurd rfl h⟩
  obtain ⟨u, v⟩ := a.uniq z
  unfold apX apZ
  rw [u, v]
  constructor <;> split <;> rfl
theorem mtE_self (l : Int) (L : List Nd) (den : Int) : mtE l l L L den = if sumC L = 0 then 7 else if den < 1 then 2 else 0 := by
  unfold mtE
  rw [gpE_self]
  by_cases z : sumC L = 0
  · rw [if_pos z, if_neg (by decide), if_pos z]
  · rw [if_neg z, if_pos rfl, if_neg z]
/-- down is never more than up -/
theorem dn_up {l den : Int} {L : List Nd} (hL : RollC l L) (h1 : 1 ≤ den) (h2 : den ≤ 9223372036854775807) (hs : sumC L ≠ 0) (x : Int) : gdnN l L den x ≤ gupN l L den x := by
  have lb := low_bd hL x
  have hb := high_bd hL x
  have lh := low_high hL x
  have s0 : 0 ≤ sumC L := sumC_nonneg (good_nonneg (roll_good hL))
  have hlt := (show highR l L x ≤ sumC L by
    have a := wtF_not (highP l x) L
    have b := (wtF_all_parts (P := fun n => !(highP l x n)) hL).1
    rw [high_is]; omega)
  have pc : ∀ n, 0 ≤ n → partC n den (sumC L) := fun n hn => by unfold partC; omega
  have q : ∀ n, 0 ≤ n → n ≤ sumC L → quotN (n * den) (sumC L) = n * den / sumC L ∧ quotB (n * den) (sumC L) = true ∧ quotR (n * den) (sumC L) = decide (n * den % sumC L ≠ 0) := fun n hn hm => by
    have a : n * den ≤ sumC L * den := Int.mul_le_mul_of_nonneg_right hm (by omega)
    have b : sumC L * den ≤ sumC L * 9223372036854775807 := Int.mul_le_mul_of_nonneg_left h2 s0
    have c : n * den < 9223372036854775808 * sumC L := by omega
    exact ⟨if_pos c, decide_eq_true c, by unfold quotR; rw [decide_eq_true c]; rfl⟩
  have p1 := part_yes (pc (lowR l L x) lb.1)
  have p2 := part_yes (pc (highR l L x) hb.1)
  have a1 := q (lowR l L x) lb.1 (by omega)
  have a2 := q (highR l L x) hb.1 hlt
  have m : lowR l L x * den ≤ highR l L x * den := Int.mul_le_mul_of_nonneg_right lh (by omega)
  have d : lowR l L x * den / sumC L ≤ highR l L x * den / sumC L := Int.ediv_le_ediv (by omega) m
  have e : highR l L x * den / sumC L ≤ den := by
    have a : highR l L x * den ≤ den * sumC L := by rw [Int.mul_comm den]; exact Int.mul_le_mul_of_nonneg_right hlt (by omega)
    exact Int.ediv_le_of_le_mul (by omega) a
  unfold gdnN gupN
  rw [p1.1, a1.1]
  cases hr : partR (highR l L x) den (sumC L)
  · rw [(partUp_flat hr).1, p2.1, a2.1]; exact d
  · rcases Int.lt_or_le (partN (highR l L x) den (sumC L)) 9223372036854775807 with w | w
    · rw [(partUp_more hr w).1, p2.1, a2.1]; omega
    · have hd : den = 9223372036854775807 := by rw [p2.1, a2.1] at w; omega
      have rest : highR l L x * den % sumC L ≠ 0 := by
        rw [p2.2.1, a2.2.2] at hr
        exact of_decide_eq_true hr
      rw [p2.1, a2.1] at w
      exfalso
      have f := Int.mul_ediv_add_emod (highR l L x * den) (sumC L)
      have g : 0 ≤ highR l L x * den % sumC L := Int.emod_nonneg _ hs
      have k : highR l L x * den / sumC L = den := by omega
      rw [k] at f
      have a : highR l L x * den ≤ sumC L * den := Int.mul_le_mul_of_nonneg_right hlt (by omega)
      omega
theorem mtA_self {l den : Int} {L : List Nd} (hL : RollC l L) (h2 : den ≤ 9223372036854775807) : mtA l l L L den = 0 := by
  unfold mtA
  rw [mtE_self]
  by_cases z : sumC L = 0
  · rw [if_pos z, if_neg (by decide)]
  · rw [if_neg z]
    by_cases d : den < 1
    · rw [if_pos d, if_neg (by decide)]
    · rw [if_neg d, if_pos rfl]
      have a := mtL_is (den := den) hL hL
      have p : MxP l (mtL l L L den) 0 := ⟨Int.le_refl _, fun y _ _ => by
        have := dn_up (den := den) hL (by omega) h2 z y
        unfold mtL; omega, .inl rfl⟩
      exact a.uniq p
end Go.Proofs.YtelekchdbiimiaaGreat
