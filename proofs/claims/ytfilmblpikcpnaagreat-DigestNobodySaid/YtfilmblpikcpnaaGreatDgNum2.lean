/- Plain facts of layer digest: the folds of a press as a function; a digest's list behind each call. No program is spoken of here. -/
import Derived.Test.YtfilmblpikcpnaaGreatRaNum
namespace Go.Proofs.YtfilmblpikcpnaaGreat
set_option linter.unusedVariables false

/-! ### how many folds a press makes -/
def findJ (l cap : Int) (L : List Nd) : Nat → Nat → Nat
  | 0, j => j
  | f + 1, j => if hasX l cap (preA l cap L j) = true then findJ l cap L f (j + 1) else j
theorem findJ_is {l cap : Int} {L : List Nd} (h : RollC l L) : ∀ (f j : Nat), Live l cap L j → (phi L).toNat < j + f → Live l cap L (findJ l cap L f j) ∧ hasX l cap (preA l cap L (findJ l cap L f j)) = false := by
  intro f
  induction f with
  | zero =>
    intro j hl hf
    have q := pre_inv h hl
    have a := (phi_bd q.roll).1
    have b := q.phi
    omega
  | succ f ih =>
    intro j hl hf
    unfold findJ
    by_cases q : hasX l cap (preA l cap L j) = true
    · rw [if_pos q]
      exact ih (j + 1) (live_step hl q) (by omega)
    · rw [if_neg q]
      exact ⟨hl, by simpa using q⟩
def pressJ (l cap : Int) (L : List Nd) : Nat := findJ l cap L ((phi L).toNat + 1) 0
theorem press_is {l : Int} (cap : Int) {L : List Nd} (h : RollC l L) : Live l cap L (pressJ l cap L) ∧ hasX l cap (preA l cap L (pressJ l cap L)) = false :=
  findJ_is h _ 0 (fun i hi => absurd hi (Nat.not_lt_zero i)) (by omega)
theorem press_uniq {l cap : Int} {L : List Nd} (h : RollC l L) {j : Nat} (hl : Live l cap L j) (hx : hasX l cap (preA l cap L j) = false) : j = pressJ l cap L :=
  live_uniq hl (press_is cap h).1 hx (press_is cap h).2
/-- what a press leaves, and how many folds it makes -/
def pressW (l k : Int) (L : List Nd) : List Nd := preA l (sumC L / k) L (pressJ l (sumC L / k) L)
def pressN (l k : Int) (L : List Nd) : Nat := pressJ l (sumC L / k) L
theorem pressed_fun {l : Int} (k : Int) {L : List Nd} (h : RollC l L) : Pressed l (sumC L / k) L (pressW l k L) (pressN l k L) :=
  ⟨(press_is _ h).1, (press_is _ h).2, rfl⟩
theorem pressN_le {l k : Int} {L : List Nd} (h : RollC l L) : (pressN l k L : Int) ≤ l * (L.length : Int) := live_le h (press_is _ h).1
/-! ### a digest's list -/
structure DgV (l k : Int) (L : List Nd) : Prop where
  k1 : 1 ≤ k
  k2 : k ≤ 1048576
  roll : RollC l L
  len : (L.length : Int) ≤ 8 * k
  light : LightC l (sumC L / k) L
/-- what was accepted stands behind it -/
structure DgS (l : Int) (L T : List Nd) : Prop where
  bag : BagC l T
  std : Std l L T
theorem dgC_of {l k : Int} {L T : List Nd} (v : DgV l k L) (s : DgS l L T) : DgC l k L T := ⟨v.k1, v.roll, v.len, v.light, s.bag, s.std⟩
theorem dgV_of {l k : Int} {L T : List Nd} (c : DgC l k L T) (h : k ≤ 1048576) : DgV l k L := ⟨c.kk, h, c.roll, c.len, c.light⟩
theorem dgS_of {l k : Int} {L T : List Nd} (c : DgC l k L T) : DgS l L T := ⟨c.bag, c.std⟩
theorem dgV_nil {l k : Int} (hl : 1 ≤ l ∧ l ≤ 48) (h1 : 1 ≤ k) (h2 : k ≤ 1048576) : DgV l k [] := dgV_of (dg_nil hl h1) h2
theorem dgS_nil {l : Int} (hl : 1 ≤ l ∧ l ≤ 48) : DgS l [] [] := ⟨bag_nil hl, std_nil l⟩
theorem dgV_press {l k : Int} {L : List Nd} (v : DgV l k L) : DgV l k (pressW l k L) ∧ ((pressW l k L).length : Int) ≤ 4 * k - 1 ∧ (pressW l k L).length ≤ L.length ∧ sumC (pressW l k L) = sumC L := by
  have p := pressed_fun k v.roll
  have q := pressed_few v.roll v.k1 p
  have a := q.2.1
  have b := v.len
  refine ⟨⟨v.k1, v.k2, q.2.2.1, by omega, ?_⟩, q.1, a, q.2.2.2⟩
  rw [q.2.2.2]
  exact light_pre v.roll p.live v.light
theorem dgS_press {l k : Int} {L T : List Nd} (v : RollC l L) (s : DgS l L T) : DgS l (pressW l k L) T := ⟨s.bag, std_pre s.std v (pressed_fun k v).live⟩
/-- pressed once more, nothing is folded -/
theorem press_again {l k : Int} {L : List Nd} (h : RollC l L) : pressN l k (pressW l k L) = 0 := by
  have p := pressed_fun k h
  have q := pre_inv h p.live
  have t : sumC (pressW l k L) = sumC L := q.tot
  unfold pressN
  rw [t]
  refine (press_uniq (j := 0) q.roll (fun i hi => absurd hi (Nat.not_lt_zero i)) ?_).symm
  exact p.stop
/-! ### Insert -/
def dgE (l : Int) (L : List Nd) (x c : Int) : Int := if ValC l x then (if c < 1 then 4 else if 72057594037927935 - sumC L < c then 5 else 0) else 3
def dgRoom (l k : Int) (L : List Nd) (x : Int) : List Nd := if sumAt (leafN l x) L = 0 ∧ (L.length : Int) = 8 * k then pressW l k L else L
def dgIns (l k : Int) (L : List Nd) (x c : Int) : List Nd := if dgE l L x c = 0 then insW (dgRoom l k L x) (leafN l x) c else L
theorem dgE_yes {l : Int} {L : List Nd} {x c : Int} (h : dgE l L x c = 0) : ValC l x ∧ ¬ c < 1 ∧ ¬ 72057594037927935 < sumC L + c := by
  unfold dgE at h
  split at h
  · rename_i q
    split at h
    · simp at h
    · split at h
      · simp at h
      · exact ⟨q, by omega, by omega⟩
  · simp at h
theorem dgRoom_is {l k : Int} {L : List Nd} (v : DgV l k L) (x : Int) : DgV l k (dgRoom l k L x) ∧ sumC (dgRoom l k L x) = sumC L ∧ (dgRoom l k L x).length ≤ L.length ∧ (sumAt (leafN l x) (dgRoom l k L x) = 0 → ((dgRoom l k L x).length : Int) < 8 * k) := by
  unfold dgRoom
  have p := dgV_press v
  have k1 := v.k1
  split
  · exact ⟨p.1, p.2.2.2, p.2.2.1, fun _ => by omega⟩
  · rename_i q
    have := v.len
    exact ⟨v, rfl, Nat.le_refl _, fun z => by
      refine Classical.byContradiction fun c => q ⟨z, by omega⟩⟩
theorem dgS_room {l k : Int} {L T : List Nd} (v : RollC l L) (s : DgS l L T) (x : Int) : DgS l (dgRoom l k L x) T := by
  unfold dgRoom
  split
  · exact dgS_press v s
  · exact s
/-- behind an Insert: the digest is one, and what was accepted stands behind it -/
theorem dgS_ins {l k : Int} {L T : List Nd} (v : DgV l k L) (s : DgS l L T) (x c : Int) : DgV l k (dgIns l k L x c) ∧ DgS l (dgIns l k L x c) (if dgE l L x c = 0 then insW T x c else T) := by
  unfold dgIns
  by_cases h : dgE l L x c = 0
  · rw [if_pos h, if_pos h]
    obtain ⟨hx, hc, ht⟩ := dgE_yes h
    have r := dgRoom_is v x
    have z := dg_ins (dgC_of r.1 (dgS_room v.roll s x)) hx hc (by rw [r.2.1]; exact ht) r.2.2.2
    exact ⟨dgV_of z v.k2, dgS_of z⟩
  · rw [if_neg h, if_neg h]
    exact ⟨v, s⟩
theorem dgV_ins {l k : Int} {L : List Nd} (v : DgV l k L) (x c : Int) : DgV l k (dgIns l k L x c) := by
  unfold dgIns
  by_cases h : dgE l L x c = 0
  · rw [if_pos h]
    obtain ⟨hx, hc, ht⟩ := dgE_yes h
    have r := dgRoom_is v x
    have lf := leaf_right hx
    have g := roll_good r.1.roll
    have ea : addW (dgRoom l k L x) (leafN l x) c = insW (dgRoom l k L x) (leafN l x) c := if_neg (by omega)
    have hrl : RollC l (insW (dgRoom l k L x) (leafN l x) c) := by rw [← ea]; exact roll_add r.1.roll (right_yes lf.1) (by omega) (by rw [r.2.1]; omega)
    refine ⟨v.k1, v.k2, hrl, ?_, fun m hm hk => ?_⟩
    · rw [insW_len g]
      have := r.1.len
      split
      · rename_i z; have := r.2.2.2 z; omega
      · exact this
    · have gM := roll_good hrl
      have e := good_mem gM hm
      have p := gM.pos m hm
      rw [insW_sum] at e
      have ne : ¬ leafN l x = m.1 := fun q => hk.2 ⟨hk.1.1, hk.1.2.1, hk.1.2.2.1, by rw [← q]; exact lf.2.1⟩
      rw [if_neg ne] at e
      obtain ⟨n, hn, hq⟩ := sum_mem (L := dgRoom l k L x) (i := m.1) (by omega)
      have gn := good_mem g hn
      have a := r.1.light n hn (by rw [hq]; exact hk)
      rw [hq] at gn
      rw [insW_tot]
      have mono : sumC (dgRoom l k L x) / k ≤ (sumC (dgRoom l k L x) + c) / k := Int.ediv_le_ediv (by have := v.k1; omega) (by omega)
      omega
  · rw [if_neg h]
    exact v
theorem dgIns_tot {l k : Int} {L : List Nd} (v : DgV l k L) (x c : Int) : sumC (dgIns l k L x c) = sumC L + (if dgE l L x c = 0 then c else 0) ∧ (dgIns l k L x c).length ≤ L.length + 1 := by
  unfold dgIns
  by_cases h : dgE l L x c = 0
  · have r := dgRoom_is v x
    rw [if_pos h, if_pos h, insW_tot, r.2.1, insW_len (roll_good r.1.roll)]
    refine ⟨rfl, ?_⟩
    have := r.2.2.1
    split <;> omega
  · rw [if_neg h, if_neg h]
    exact ⟨by omega, by omega⟩
/-! ### a call: 1 Compress, 2 Reset, else Insert -/
def dgDo (l k : Int) (L : List Nd) (kd x c : Int) : List Nd := if kd = 1 then pressW l k L else if kd = 2 then [] else dgIns l k L x c
def dgTell (l k : Int) (L : List Nd) (kd x c : Int) : Int := if kd = 1 then (pressN l k L : Int) else if kd = 2 then 0 else dgE l L x c
theorem dgV_do {l k : Int} {L : List Nd} (v : DgV l k L) (kd x c : Int) : DgV l k (dgDo l k L kd x c) ∧ (dgDo l k L kd x c).length ≤ L.length + 1 := by
  unfold dgDo
  split
  · have := dgV_press v
    exact ⟨this.1, by omega⟩
  · split
    · exact ⟨dgV_nil (of_decide_eq_true v.roll.1) v.k1 v.k2, by simp⟩
    · exact ⟨dgV_ins v x c, (dgIns_tot v x c).2⟩
/-- all that was accepted behind a call -/
def dgBag (l : Int) (L T : List Nd) (kd x c : Int) : List Nd := if kd = 1 then T else if kd = 2 then [] else if dgE l L x c = 0 then insW T x c else T
theorem dgS_do {l k : Int} {L T : List Nd} (v : DgV l k L) (s : DgS l L T) (kd x c : Int) : DgS l (dgDo l k L kd x c) (dgBag l L T kd x c) := by
  unfold dgDo dgBag
  split
  · exact dgS_press v.roll s
  · split
    · exact dgS_nil (of_decide_eq_true v.roll.1)
    · exact (dgS_ins v s x c).2

end Go.Proofs.YtfilmblpikcpnaaGreat
