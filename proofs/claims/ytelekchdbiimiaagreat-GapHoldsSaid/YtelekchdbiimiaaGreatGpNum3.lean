/- Plain facts of layer gap: what is told of two digests, held against all that both accepted. No program is spoken of here. -/
import Derived.Test.YtelekchdbiimiaaGreatGpNum
import Derived.Test.YtelekchdbiimiaaGreatDgN
namespace Go.Proofs.YtelekchdbiimiaaGreat
set_option linter.unusedVariables false
/-- is the difference of two shares greater than so many parts? -/
def byB (p m q n den k : Int) : Bool := decide (q * m * den + m * n * k < p * n * den) || decide (p * n * den + m * n * k < q * m * den)
/-- some parts of a share: rounded down, and up -/
theorem gp_part {s d N : Int} (s0 : 0 ≤ s) (sN : s ≤ N) (N1 : 1 ≤ N) (d0 : 0 ≤ d) (d1 : d ≤ 1099511627776) : partN s d N = s * d / N ∧ ((s * d % N = 0 ∧ partUpN s d N = s * d / N) ∨ (0 < s * d % N ∧ partUpN s d N = s * d / N + 1)) := by
  have pc : partC s d N := ⟨s0, d0, N1⟩
  have m1 : s * d ≤ N * d := Int.mul_le_mul_of_nonneg_right sN d0
  have m2 : N * d ≤ N * 1099511627776 := Int.mul_le_mul_of_nonneg_left d1 (by omega)
  have lt : s * d < 9223372036854775808 * N := by omega
  have pn : partN s d N = s * d / N := by rw [(part_yes pc).1]; exact if_pos lt
  have q1 : s * d / N ≤ d := Int.ediv_le_of_le_mul (by omega) (by rw [Int.mul_comm d N]; exact m1)
  have r0 := Int.emod_nonneg (s * d) (show N ≠ 0 by omega)
  have rr := (part_yes pc).2.1
  refine ⟨pn, ?_⟩
  cases hr : partR s d N
  · rw [hr] at rr
    refine .inl ⟨?_, by rw [(partUp_flat hr).1, pn]⟩
    unfold quotR at rr
    have := rr.symm
    simp only [decide_eq_true lt, Bool.true_and] at this
    simpa using this
  · rw [hr] at rr
    have rn : s * d % N ≠ 0 := by
      unfold quotR at rr
      simp only [Bool.true_eq, Bool.and_eq_true] at rr
      exact of_decide_eq_true rr.2
    exact .inr ⟨by omega, by rw [(partUp_more hr (by rw [pn]; omega)).1, pn]⟩
theorem gp_upnn (s d N : Int) : 0 ≤ partUpN s d N := by
  cases h : partR s d N
  · rw [(partUp_flat h).1]; exact (part_bd s d N).1
  · rw [(partUp_rest h).1]
    have b := part_bd s d N
    by_cases q : partN s d N + 1 ≤ 9223372036854775807
    · rw [(sum_yes ⟨b.1, by omega, q⟩).1]; omega
    · rw [(sum_no (by omega)).1]; omega
theorem gp_dn {s d N : Int} (s0 : 0 ≤ s) (sN : s ≤ N) (N1 : 1 ≤ N) (d0 : 0 ≤ d) (d1 : d ≤ 1099511627776) : partN s d N * N ≤ s * d := by
  rw [(gp_part s0 sN N1 d0 d1).1]
  exact Int.ediv_mul_le _ (by omega)
theorem gp_up {s d N : Int} (s0 : 0 ≤ s) (sN : s ≤ N) (N1 : 1 ≤ N) (d0 : 0 ≤ d) (d1 : d ≤ 1099511627776) : s * d ≤ partUpN s d N * N := by
  have e := Int.mul_ediv_add_emod (s * d) N
  have l := Int.emod_lt_of_pos (s * d) (show 0 < N by omega)
  have c : s * d / N * N = N * (s * d / N) := Int.mul_comm _ _
  rcases (gp_part s0 sN N1 d0 d1).2 with ⟨a, b⟩ | ⟨a, b⟩
  · rw [b, c]; omega
  · rw [b, Int.add_mul, c]; omega
/-- what weighs up to a number, of all values -/
theorem gp_rank {l x : Int} {L T : List Nd} (hr : RollC l L) (s : DgS l L T) : 0 ≤ lowR l L x ∧ lowR l L x ≤ betN T 0 x ∧ betN T 0 x ≤ highR l L x ∧ highR l L x ≤ sumC L := by
  have nn := good_nonneg (roll_good hr)
  have q := std_rank (y := x) s.std hr s.bag
  exact ⟨(wtF_bd _ nn).1, q.1, q.2, (wtF_bd _ nn).2⟩
theorem gp_below0 {l x : Int} {T : List Nd} (h : BagC l T) (hx : x < 0) : betN T 0 x = 0 := by
  have key : ∀ A : List Nd, betN A 0 x = 0 := fun A => by
    induction A with
    | nil => rfl
    | cons n A ih => simp only [betN, ih]; rw [if_neg (by omega)]; rfl
  exact key T
/-- where one surely has the greater share it has -/
theorem gp_side {l x : Int} {L M T U : List Nd} (hL : RollC l L) (hM : RollC l M) (s : DgS l L T) (t : DgS l M U) :
    (0 < sdN l L M x → betN U 0 x * sumC L < betN T 0 x * sumC M) ∧ (sdN l L M x < 0 → betN T 0 x * sumC M < betN U 0 x * sumC L) := by
  obtain ⟨a0, a1, a2, a3⟩ := gp_rank (x := x) hL s
  obtain ⟨b0, b1, b2, b3⟩ := gp_rank (x := x) hM t
  have sL : 0 ≤ sumC L := by omega
  have sM : 0 ≤ sumC M := by omega
  have c1 := Int.mul_le_mul_of_nonneg_right b2 sL
  have c2 := Int.mul_le_mul_of_nonneg_right a1 sM
  have c3 := Int.mul_le_mul_of_nonneg_right a2 sM
  have c4 := Int.mul_le_mul_of_nonneg_right b1 sL
  unfold sdN
  by_cases g : highR l M x * sumC L < lowR l L x * sumC M
  · rw [if_pos g]; exact ⟨fun _ => by omega, fun h => by omega⟩
  · rw [if_neg g]
    by_cases k : highR l L x * sumC M < lowR l M x * sumC L
    · rw [if_pos k]; exact ⟨fun h => by omega, fun _ => by omega⟩
    · rw [if_neg k]; exact ⟨fun h => by omega, fun h => by omega⟩
/-- one share is above another one by no more than its up is above the other one's down -/
theorem gp_over {p m q n den u v k : Int} (m1 : 1 ≤ m) (n1 : 1 ≤ n) (hu : p * den ≤ u * m) (hv : v * n ≤ q * den) (hk : u - v ≤ k) : ¬ q * m * den + m * n * k < p * n * den := by
  have a := Int.mul_le_mul_of_nonneg_right hu (show 0 ≤ n by omega)
  have b := Int.mul_le_mul_of_nonneg_right hv (show 0 ≤ m by omega)
  have c : m * n * (u - v) ≤ m * n * k := Int.mul_le_mul_of_nonneg_left hk (Int.mul_nonneg (by omega) (by omega))
  have e1 : p * den * n = p * n * den := by rw [Int.mul_assoc, Int.mul_comm den n, ← Int.mul_assoc]
  have e2 : q * den * m = q * m * den := by rw [Int.mul_assoc, Int.mul_comm den m, ← Int.mul_assoc]
  have e3 : u * m * n = m * n * u := by rw [Int.mul_assoc, Int.mul_comm]
  have e4 : v * n * m = m * n * v := by rw [Int.mul_assoc, Int.mul_comm n m, Int.mul_comm]
  have e5 : m * n * (u - v) = m * n * u - m * n * v := Int.mul_sub _ _ _
  omega
/-- .. and by no less than its down is above the other one's up -/
theorem gp_under' {p m q n den u v k : Int} (m1 : 1 ≤ m) (n1 : 1 ≤ n) (hu : u * m ≤ p * den) (hv : q * den ≤ v * n) (hk : k < u - v) : q * m * den + m * n * k < p * n * den := by
  have a := Int.mul_le_mul_of_nonneg_right hu (show 0 ≤ n by omega)
  have b := Int.mul_le_mul_of_nonneg_right hv (show 0 ≤ m by omega)
  have c : m * n * (k + 1) ≤ m * n * (u - v) := Int.mul_le_mul_of_nonneg_left (by omega) (Int.mul_nonneg (by omega) (by omega))
  have d : 0 < m * n := Int.mul_pos (by omega) (by omega)
  have e1 : p * den * n = p * n * den := by rw [Int.mul_assoc, Int.mul_comm den n, ← Int.mul_assoc]
  have e2 : q * den * m = q * m * den := by rw [Int.mul_assoc, Int.mul_comm den m, ← Int.mul_assoc]
  have e3 : u * m * n = m * n * u := by rw [Int.mul_assoc, Int.mul_comm]
  have e4 : v * n * m = m * n * v := by rw [Int.mul_assoc, Int.mul_comm n m, Int.mul_comm]
  have e5 : m * n * (u - v) = m * n * u - m * n * v := Int.mul_sub _ _ _
  have e6 : m * n * (k + 1) = m * n * k + m * n := by rw [Int.mul_add, Int.mul_one]
  omega
theorem gp_within {l den x : Int} {L M T U : List Nd} (hL : RollC l L) (hM : RollC l M) (s : DgS l L T) (t : DgS l M U) (mL : 1 ≤ sumC L) (mM : 1 ≤ sumC M) (d1 : 1 ≤ den) (d2 : den ≤ 1099511627776) :
    byB (betN T 0 x) (sumC L) (betN U 0 x) (sumC M) den (mxF (mtH l L M den) (gpP l L M)) = false := by
  obtain ⟨k0, km, _⟩ := mxF_spec (mtH l L M den) (gpP l L M) 0
  have K0 : 0 ≤ mxF (mtH l L M den) (gpP l L M) := k0
  rcases Int.lt_or_le x 0 with g | g
  · rw [gp_below0 s.bag g, gp_below0 t.bag g]
    have d : 0 ≤ sumC L * sumC M * mxF (mtH l L M den) (gpP l L M) := Int.mul_nonneg (Int.mul_nonneg (by omega) (by omega)) K0
    unfold byB
    simp only [Int.zero_mul, Int.zero_add]
    rw [decide_eq_false (by omega)]; rfl
  · obtain ⟨e, he, _, q⟩ := gp_step (y := x) hL hM g
    have km' : mtH l L M den e ≤ mxF (mtH l L M den) (gpP l L M) := km e he
    have me : mtH l L M den e = mtH l L M den x := by unfold mtH gdnN gupN; rw [q.1.1, q.1.2, q.2.1, q.2.2]
    rw [me] at km'
    generalize mxF (mtH l L M den) (gpP l L M) = K at *
    obtain ⟨a0, a1, a2, a3⟩ := gp_rank (x := x) hL s
    obtain ⟨b0, b1, b2, b3⟩ := gp_rank (x := x) hM t
    have uA := gp_up (s := highR l L x) (d := den) (by omega) a3 mL (by omega) d2
    have uB := gp_up (s := highR l M x) (d := den) (by omega) b3 mM (by omega) d2
    have dA := gp_dn (s := lowR l L x) (d := den) (by omega) (by omega) mL (by omega) d2
    have dB := gp_dn (s := lowR l M x) (d := den) (by omega) (by omega) mM (by omega) d2
    have p1 := Int.mul_le_mul_of_nonneg_right a2 (show 0 ≤ den by omega)
    have p2 := Int.mul_le_mul_of_nonneg_right a1 (show 0 ≤ den by omega)
    have q1 := Int.mul_le_mul_of_nonneg_right b2 (show 0 ≤ den by omega)
    have q2 := Int.mul_le_mul_of_nonneg_right b1 (show 0 ≤ den by omega)
    unfold mtH gupN gdnN at km'
    have x1 := gp_over (p := betN T 0 x) (q := betN U 0 x) mL mM (Int.le_trans p1 uA) (Int.le_trans dB q2) (show _ ≤ K by omega)
    have x2 := gp_over (p := betN U 0 x) (q := betN T 0 x) mM mL (Int.le_trans q1 uB) (Int.le_trans dA p2) (show _ ≤ K by omega)
    rw [Int.mul_comm (sumC M) (sumC L)] at x2
    unfold byB
    rw [decide_eq_false x1, decide_eq_false x2]; rfl
/-- the greatest value that isn't above a number -/
theorem gp_item {T : List Nd} (hv : ∀ n ∈ T, 0 ≤ n.1) {y z : Int} (hzy : z ≤ y) (hg : ∀ n ∈ T, n.1 ≤ y → n.1 ≤ z) : betN T 0 z = betN T 0 y := by
  induction T with
  | nil => rfl
  | cons n T ih =>
    have ih := ih (fun m hm => hv m (by simp [hm])) (fun m hm => hg m (by simp [hm]))
    have v := hv n (by simp)
    have g := hg n (by simp)
    simp only [betN, ih]
    by_cases c : n.1 ≤ y
    · rw [if_pos ⟨v, g c⟩, if_pos ⟨v, c⟩]
    · rw [if_neg (by omega), if_neg (by omega)]
theorem gp_some {T : List Nd} {y : Int} (h : 0 < betN T 0 y) : ∃ n ∈ T, n.1 ≤ y := by
  induction T with
  | nil => simp [betN] at h
  | cons n T ih =>
    by_cases c : n.1 ≤ y
    · exact ⟨n, by simp, c⟩
    · simp only [betN] at h
      rw [if_neg (by omega), Int.zero_add] at h
      obtain ⟨m, hm, q⟩ := ih h
      exact ⟨m, by simp [hm], q⟩
theorem gp_far {l den : Int} {L M T U : List Nd} (hL : RollC l L) (hM : RollC l M) (s : DgS l L T) (t : DgS l M U) (mL : 1 ≤ sumC L) (mM : 1 ≤ sumC M) (d1 : 1 ≤ den) (d2 : den ≤ 1099511627776) (h : mxF (mtL l L M den) (gpP l L M) ≠ 0) :
    ∃ z ∈ T ++ U, byB (betN T 0 z.1) (sumC L) (betN U 0 z.1) (sumC M) den (mxF (mtL l L M den) (gpP l L M) - 1) = true := by
  have mx := mtL_is (den := den) hL hM
  generalize mxF (mtL l L M den) (gpP l L M) = K at *
  rcases mx.one with q | ⟨y, ⟨y0, y1⟩, hy⟩
  · exact absurd q h
  have k1 : 1 ≤ K := by have := mx.pos; omega
  obtain ⟨a0, a1, a2, a3⟩ := gp_rank (x := y) hL s
  obtain ⟨b0, b1, b2, b3⟩ := gp_rank (x := y) hM t
  have uA := gp_up (s := highR l L y) (d := den) (by omega) a3 mL (by omega) d2
  have uB := gp_up (s := highR l M y) (d := den) (by omega) b3 mM (by omega) d2
  have dA := gp_dn (s := lowR l L y) (d := den) (by omega) (by omega) mL (by omega) d2
  have dB := gp_dn (s := lowR l M y) (d := den) (by omega) (by omega) mM (by omega) d2
  have p1 := Int.mul_le_mul_of_nonneg_right a2 (show 0 ≤ den by omega)
  have p2 := Int.mul_le_mul_of_nonneg_right a1 (show 0 ≤ den by omega)
  have q1 := Int.mul_le_mul_of_nonneg_right b2 (show 0 ≤ den by omega)
  have q2 := Int.mul_le_mul_of_nonneg_right b1 (show 0 ≤ den by omega)
  have vT : ∀ n ∈ T, 0 ≤ n.1 := fun n hn => (s.bag.val n hn).2.2.1
  have vU : ∀ n ∈ U, 0 ≤ n.1 := fun n hn => (t.bag.val n hn).2.2.1
  have ub : ∀ (s d N : Int), 0 ≤ partUpN s d N := gp_upnn
  unfold mtL gupN gdnN at hy
  -- at y itself
  have key : byB (betN T 0 y) (sumC L) (betN U 0 y) (sumC M) den (K - 1) = true ∧ (0 < betN T 0 y ∨ 0 < betN U 0 y) := by
    have hc : K ≤ partN (lowR l L y) den (sumC L) - partUpN (highR l M y) den (sumC M) ∨ K ≤ partN (lowR l M y) den (sumC M) - partUpN (highR l L y) den (sumC L) := by omega
    rcases hc with c | c
    · have x1 := gp_under' (p := betN T 0 y) (q := betN U 0 y) (k := K - 1) mL mM (Int.le_trans dA p2) (Int.le_trans q1 uB) (by omega)
      refine ⟨by unfold byB; rw [decide_eq_true x1]; rfl, .inl ?_⟩
      rcases Int.lt_or_le 0 (betN T 0 y) with g | g
      · exact g
      · exfalso
        have z : betN T 0 y = 0 := by omega
        have zl : lowR l L y = 0 := by omega
        have := ub (highR l M y) den (sumC M)
        rw [zl, (gp_part (Int.le_refl 0) (by omega) mL (by omega) d2).1] at c
        simp at c; omega
    · have x1 := gp_under' (p := betN U 0 y) (q := betN T 0 y) (k := K - 1) mM mL (Int.le_trans dB q2) (Int.le_trans p1 uA) (by omega)
      rw [Int.mul_comm (sumC M) (sumC L)] at x1
      refine ⟨by unfold byB; rw [decide_eq_true x1, Bool.or_true], .inr ?_⟩
      rcases Int.lt_or_le 0 (betN U 0 y) with g | g
      · exact g
      · exfalso
        have z : betN U 0 y = 0 := by omega
        have zl : lowR l M y = 0 := by omega
        have := ub (highR l L y) den (sumC L)
        rw [zl, (gp_part (Int.le_refl 0) (by omega) mM (by omega) d2).1] at c
        simp at c; omega
  have ex : ∃ p ∈ (T ++ U).map (·.1), p ≤ y := by
    rcases key.2 with g | g
    · obtain ⟨n, hn, q⟩ := gp_some g
      exact ⟨n.1, List.mem_map.2 ⟨n, by simp [hn], rfl⟩, q⟩
    · obtain ⟨n, hn, q⟩ := gp_some g
      exact ⟨n.1, List.mem_map.2 ⟨n, by simp [hn], rfl⟩, q⟩
  obtain ⟨e, he, ey, em⟩ := gp_under ex
  obtain ⟨z, hz, rfl⟩ := List.mem_map.1 he
  refine ⟨z, hz, ?_⟩
  rw [gp_item vT ey (fun n hn q => em n.1 (List.mem_map.2 ⟨n, by simp [hn], rfl⟩) q), gp_item vU ey (fun n hn q => em n.1 (List.mem_map.2 ⟨n, by simp [hn], rfl⟩) q)]
  exact key.1
theorem gp_mxbd {l den : Int} {L M : List Nd} (hL : RollC l L) (hM : RollC l M) (mL : 1 ≤ sumC L) (mM : 1 ≤ sumC M) (d1 : 1 ≤ den) (d2 : den ≤ 1099511627776) :
    (0 ≤ mxF (mtL l L M den) (gpP l L M) ∧ mxF (mtL l L M den) (gpP l L M) ≤ 1099511627777) ∧ 0 ≤ mxF (mtH l L M den) (gpP l L M) ∧ mxF (mtH l L M den) (gpP l L M) ≤ 1099511627777 := by
  have up : ∀ {A : List Nd}, RollC l A → 1 ≤ sumC A → ∀ x, (0 ≤ gupN l A den x ∧ gupN l A den x ≤ 1099511627777) ∧ 0 ≤ gdnN l A den x ∧ gdnN l A den x ≤ 1099511627777 := fun {A} hA mA x => by
    have nn := good_nonneg (roll_good hA)
    have hi := wtF_bd (fun n => decide (loN l n ≤ x)) nn
    have lo := wtF_bd (fun n => decide (hiN l n ≤ x)) nn
    have hi' : 0 ≤ highR l A x ∧ highR l A x ≤ sumC A := hi
    have lo' : 0 ≤ lowR l A x ∧ lowR l A x ≤ sumC A := lo
    have a := gp_part (s := highR l A x) (d := den) hi'.1 hi'.2 mA (by omega) d2
    have b := gp_part (s := lowR l A x) (d := den) lo'.1 lo'.2 mA (by omega) d2
    have qa : highR l A x * den / sumC A ≤ den := Int.ediv_le_of_le_mul (by omega) (by rw [Int.mul_comm den]; exact Int.mul_le_mul_of_nonneg_right hi'.2 (by omega))
    have qb : lowR l A x * den / sumC A ≤ den := Int.ediv_le_of_le_mul (by omega) (by rw [Int.mul_comm den]; exact Int.mul_le_mul_of_nonneg_right lo'.2 (by omega))
    unfold gupN gdnN
    refine ⟨⟨gp_upnn _ _ _, ?_⟩, (part_bd _ _ _).1, by rw [b.1]; omega⟩
    rcases a.2 with ⟨_, e⟩ | ⟨_, e⟩ <;> (rw [e]; omega)
  obtain ⟨a0, _, a1⟩ := mxF_spec (mtL l L M den) (gpP l L M) 0
  obtain ⟨b0, _, b1⟩ := mxF_spec (mtH l L M den) (gpP l L M) 0
  have A0 : 0 ≤ mxF (mtL l L M den) (gpP l L M) := a0
  have B0 : 0 ≤ mxF (mtH l L M den) (gpP l L M) := b0
  refine ⟨⟨A0, ?_⟩, B0, ?_⟩
  · rcases a1 with e | ⟨x, _, e⟩
    · have e' : mxF (mtL l L M den) (gpP l L M) = 0 := e
      omega
    · have e' : mtL l L M den x = mxF (mtL l L M den) (gpP l L M) := e
      have u := up hL mL x
      have v := up hM mM x
      have m : mtL l L M den x = max (gdnN l L den x - gupN l M den x) (gdnN l M den x - gupN l L den x) := rfl
      rw [← e', m]
      omega
  · rcases b1 with e | ⟨x, _, e⟩
    · have e' : mxF (mtH l L M den) (gpP l L M) = 0 := e
      omega
    · have e' : mtH l L M den x = mxF (mtH l L M den) (gpP l L M) := e
      have u := up hL mL x
      have v := up hM mM x
      have m : mtH l L M den x = max (gupN l L den x - gdnN l M den x) (gupN l M den x - gdnN l L den x) := rfl
      rw [← e', m]
      omega
end Go.Proofs.YtelekchdbiimiaaGreat
