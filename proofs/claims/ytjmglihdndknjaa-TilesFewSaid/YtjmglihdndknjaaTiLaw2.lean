/- The laws TilesOf, TilesFew, walked. -/
import Derived.Test.YtjmglihdndknjaaTiLaw
namespace Go.Proofs.Ytjmglihdndknjaa
set_option linter.unusedVariables false
open Go.RowKit

theorem run_step {l a b : Int} {P Q : List Int} {t z : Int} (h : Good l (P ++ t :: Q)) (hT : ∀ x, Held l (P ++ t :: Q) x ↔ a ≤ x ∧ x ≤ b) (hP : ∀ x, Held l P x ↔ a ≤ x ∧ x < z) (hz : a ≤ z) :
    loN l t = z ∧ (∀ x, Held l (P ++ [t]) x ↔ a ≤ x ∧ x < hiN l t + 1) ∧ hiN l t ≤ b := by
  have hn : Node l t := h.1 t (by simp)
  have bt := node_bd hn
  have ha := List.pairwise_append.1 h.2
  have h1 := (hT (loN l t)).1 ⟨t, by simp, by omega, by omega⟩
  have h2 := (hT (hiN l t)).1 ⟨t, by simp, by omega, by omega⟩
  have hge : z ≤ loN l t := by
    false_or_by_contra
    obtain ⟨p, hp, g⟩ := (hP (loN l t)).2 ⟨h1.1, by omega⟩
    have := (ha.2.2 p hp t (by simp)).1
    omega
  have hle : loN l t ≤ z := by
    false_or_by_contra
    obtain ⟨u, hu, g⟩ := (hT z).2 ⟨hz, by omega⟩
    rcases List.mem_append.1 hu with hu | hu
    · have := (hP z).1 ⟨u, hu, g⟩
      omega
    · rcases List.mem_cons.1 hu with rfl | hu
      · omega
      · have := ((List.pairwise_cons.1 ha.2.1).1 u hu).1
        omega
  refine ⟨by omega, fun x => ?_, h2.2⟩
  rw [held_snoc, hP]
  omega
theorem run_stop {l a b z : Int} {T : List Int} (hT : ∀ x, Held l T x ↔ a ≤ x ∧ x ≤ b) (hP : ∀ x, Held l T x ↔ a ≤ x ∧ x < z) (hz : a ≤ z) (hb : z ≤ b + 1) : z = b + 1 := by
  false_or_by_contra
  have := (hP z).1 ((hT z).2 ⟨hz, by omega⟩)
  omega
theorem rel_pair {l s t : Int} (hs : Node l s) (ht : Node l t) (h : Rel l s t) (h2 : 2 ≤ s) : t ≠ pairN s := by
  intro e
  rw [(pair_yes h2).1] at e
  split at e
  · rename_i g
    exact h.2 ⟨g, e⟩
  · rename_i g
    have := pair_half hs h2 (by omega)
    have b1 := node_bd hs
    have b2 := node_bd ht
    subst e
    have := h.1
    omega
theorem split_at {T : List Int} {k : Nat} (h : k < T.length) : T = T.take k ++ T.getD k 0 :: T.drop (k + 1) := by
  rw [← drop_at h, List.take_append_drop]
theorem next_rel {l : Int} {T : List Int} (h : T.Pairwise (Rel l)) {k : Nat} (hk : k + 1 < T.length) : Rel l (T.getD k 0) (T.getD (k + 1) 0) := by
  have := List.pairwise_iff_getElem.1 h k (k + 1) (by omega) hk (by omega)
  simpa [List.getD_eq_getElem?_getD, List.getElem?_eq_getElem hk, List.getElem?_eq_getElem (show k < T.length by omega)] using this
set_option maxHeartbeats 1600000 in
theorem tilesOf_walk (l a b : Int) (w : World) (L0 : -9223372036854775808 ≤ l) (L1 : l ≤ 9223372036854775807) (X0 : -9223372036854775808 ≤ a) (X1 : a ≤ 9223372036854775807) (Y0 : -9223372036854775808 ≤ b) (Y1 : b ≤ 9223372036854775807) :
    Calls Try.prog 3 #[.int .i64 l, .int .i64 a, .int .i64 b] w (True1 w) := by
  by_cases h : OfC l a b
  · have H1 := Lib.hid (of_yes l a b w h)
    have H2 := Lib.hid (fun w => r5of_yes l a b w h)
    have hl : 2 * l.toNat ≤ 96 := by have := h.1.2.1; omega
    clear h
    go_enter Try.func3, Try.ntmps3
    go_wp2_with fail
    refine H1.out.mono ?_
    rintro e w1 ⟨A1, c1, T, rfl, hints, hgood, hheld, hlen, hb1⟩
    have HI := Lib.hid hints
    have HG := Lib.hid hgood
    have HH := Lib.hid hheld
    have z1 := hb1.size
    have HB := Lib.hid hb1
    have hm : T.length ≤ 96 := by omega
    generalize hn : T.length = n at *
    clear hints hgood hheld hlen hb1 H1
    have HN := Lib.hid hn
    clear hn
    go_wp2_with fail
    refine (H2.out _).mono ?_
    rintro e w2 ⟨A2, c2, T2, rfl, hints, hgood, hheld, hlen, hb2⟩
    obtain rfl : T2 = T := uniq hgood HG.out (fun x => by rw [hheld, HH.out])
    have HI2 := Lib.hid hints
    have HI1 := Lib.hid (HI.out.below hb2)
    have HB2 := Lib.hid (HB.out.trans (hb2.mono z1))
    have z2 := HB2.out.size
    rw [HN.out] at HI2
    rw [HN.out]
    clear hints hgood hheld hlen hb2
    go_wp2_with fail
    refine (same_any A1 A2 n n c1 c2 T2 T2 _ HI1.out HI2.out (by omega) (by omega)).mono ?_
    rintro e w3 ⟨rfl, hb3⟩
    rw [show decide (T2 = T2) = true from decide_eq_true rfl]
    have HB3 := Lib.hid (HB2.out.trans (hb3.mono z2))
    have z3 := HB3.out.size
    clear hb3
    go_wp2_with fail
    refine (alive5_any _).mono ?_
    rintro e w4 ⟨rfl, hb4⟩
    have HB4 := Lib.hid (HB3.out.trans (hb4.mono z3))
    clear hb4
    go_wp2_with fail
    go_ret
    exact ⟨rfl, HB4.out⟩
  · have H1 := Lib.hid (of_no l a b w h L0 L1 X0 X1 Y0 Y1)
    have H2 := Lib.hid (fun w => r5of_no l a b w h L0 L1)
    clear h
    go_enter Try.func3, Try.ntmps3
    go_wp2_with fail
    refine H1.out.mono ?_
    rintro e w1 ⟨rfl, hb1⟩
    have HB := Lib.hid hb1
    have z1 := hb1.size
    clear hb1
    go_wp2_with fail
    refine (H2.out _).mono ?_
    rintro e w2 ⟨rfl, hb2⟩
    have HB2 := Lib.hid (HB.out.trans (hb2.mono z1))
    have z2 := HB2.out.size
    clear hb2
    go_wp2_with fail
    refine (same_any none none 0 0 0 0 [] [] _ (ints_nil _) (ints_nil _) (by omega) (by omega)).mono ?_
    rintro e w3 ⟨rfl, hb3⟩
    rw [show decide (([] : List Int) = []) = true from decide_eq_true rfl]
    have HB3 := Lib.hid (HB2.out.trans (hb3.mono z2))
    have z3 := HB3.out.size
    clear hb3
    go_wp2_with fail
    refine (alive5_any _).mono ?_
    rintro e w4 ⟨rfl, hb4⟩
    have HB4 := Lib.hid (HB3.out.trans (hb4.mono z3))
    clear hb4
    go_wp2_with fail
    go_ret
    exact ⟨rfl, HB4.out⟩
set_option maxHeartbeats 3200000 in
theorem tilesFew_walk (l a b : Int) (w : World) (L0 : -9223372036854775808 ≤ l) (L1 : l ≤ 9223372036854775807) (X0 : -9223372036854775808 ≤ a) (X1 : a ≤ 9223372036854775807) (Y0 : -9223372036854775808 ≤ b) (Y1 : b ≤ 9223372036854775807) :
    Calls Try.prog 6 #[.int .i64 l, .int .i64 a, .int .i64 b] w (True1 w) := by
  by_cases h : OfC l a b
  · have H1 := Lib.hid (of_yes l a b w h)
    have hl1 := h.1.1
    have hl2 := h.1.2.1
    have hl : 2 * l.toNat ≤ 96 := by omega
    have b48 : (2 : Int) ^ l.toNat ≤ 281474976710656 := two_le l.toNat 48 (by omega)
    have ha0 := h.1.2.2.1
    have hab := h.2.2
    have hb48 : b < 281474976710656 := by have := h.2.1.2.2.2; omega
    clear h
    go_enter Try.func6, Try.ntmps6
    go_wp2_with fail
    refine H1.out.mono ?_
    rintro e w1 ⟨A1, c1, T, rfl, hints, hgood, hheld, hlen, hb1⟩
    have HI := Lib.hid hints
    have HC := Lib.hid (ints_cells hints).2
    have HG := Lib.hid hgood
    have HH := Lib.hid hheld
    have z1 := hb1.size
    have HB := Lib.hid hb1
    have hm : T.length ≤ 96 := by omega
    have hm2 : (T.length : Int) ≤ 2 * l := by omega
    have HO := Lib.hid (ordF_good hgood ⟨hl1, hl2⟩ 0 (fun t ht => (node_bd (hgood.1 t ht)).1))
    generalize hn : T.length = n at *
    clear hints hgood hheld hlen hb1 H1
    have HN := Lib.hid hn
    clear hn
    go_wp2_with fail
    go_loop [9, 35] (fun x i => ∃ (k : Nat) (z : Int), k ≤ n ∧ i = .int .i64 k ∧ x = .int .i64 z ∧ a ≤ z ∧ z ≤ b + 1 ∧ (∀ x, Held l (T.take k) x ↔ a ≤ x ∧ x < z)) (fun _ i => n - (intOf i).toNat)
    case atStart => exact ⟨0, a, by omega, rfl, rfl, by omega, by omega, fun x => ⟨fun g => absurd g (held_nil l x), fun g => by omega⟩⟩
    case round =>
      obtain ⟨k, z, hk, rfl, rfl, hz0, hz1, hst⟩ := hrel
      have HST := Lib.hid hst
      clear hst
      by_cases hlt : k < n
      · have hk2 : k < T.length := by have := HN.out; omega
        obtain ⟨b', o, rfl, hbl, hcell⟩ := HC.out (by have := HN.out; omega)
        have e0 : w1.cell? ⟨b', o + k, none⟩ = some (.int .i64 (T.getD k 0)) := hcell k (by have := HN.out; omega)
        have hsp := split_at hk2
        have hrs := run_step (P := T.take k) (t := T.getD k 0) (Q := T.drop (k + 1)) (z := z) (a := a) (b := b) (by rw [← hsp]; exact HG.out) (by rw [← hsp]; exact HH.out) HST.out hz0
        have ht : Node l (T.getD k 0) := HG.out.1 _ (getD_mem hk2)
        have htk := Lib.hid (take_at hk2)
        have hnext : Hid (∀ h : k + 1 < T.length, w1.cell? ⟨b', o + (k + 1), none⟩ = some (.int .i64 (T.getD (k + 1) 0)) ∧ (2 ≤ T.getD k 0 → T.getD (k + 1) 0 ≠ pairN (T.getD k 0))) := fun h => ⟨hcell (k + 1) (by have := HN.out; omega), fun h2 => rel_pair ht (HG.out.1 _ (getD_mem h)) (next_rel HG.out.2 h) h2⟩
        clear hcell hsp
        generalize T.getD k 0 = t at *
        have hbd := node_bd ht
        have hid := right_id ht.1 ht.2
        have he := (end_yes ht.1).2.2
        have hlo := hrs.1
        have HST2 := Lib.hid hrs.2.1
        have hhi := hrs.2.2
        have q1 : (loN l t == z) = true := by simpa using hlo
        have q2 : (loN l t != z) = false := by simpa using hlo
        have hhz : z ≤ hiN l t := by omega
        clear hrs hlo ht
        by_cases h2 : 2 ≤ t
        · have hp := (pair_yes h2).2
          by_cases hlast : k + 1 < n
          · have hnx := hnext (by have := HN.out; omega)
            have e1 := hnx.1
            have q3 : (T.getD (k + 1) 0 == pairN t) = false := by simpa using hnx.2 h2
            clear hnx
            generalize T.getD (k + 1) 0 = t2 at *
            go_wp2_with (first | (go_at_call 22; refine (ends_any _ _ _ (by omega) (by omega) (by omega) (by omega)).mono ?_; rintro e w2 ⟨rfl, rfl⟩) | (go_at_call 23; refine (pair_any _ _ (by omega) (by omega)).mono ?_; rintro e w2 ⟨rfl, rfl⟩))
            go_round
            case rel => exact ⟨k + 1, _, by omega, by go_num, rfl, by omega, by omega, by rw [htk.out]; exact HST2.out⟩
            case measure => simp [intOf]; omega
          · go_wp2_with (first | (go_at_call 22; refine (ends_any _ _ _ (by omega) (by omega) (by omega) (by omega)).mono ?_; rintro e w2 ⟨rfl, rfl⟩) | (go_at_call 23; refine (pair_any _ _ (by omega) (by omega)).mono ?_; rintro e w2 ⟨rfl, rfl⟩))
            go_round
            case rel => exact ⟨k + 1, _, by omega, by go_num, rfl, by omega, by omega, by rw [htk.out]; exact HST2.out⟩
            case measure => simp [intOf]; omega
        · have hp := (pair_no h2).2
          go_wp2_with (first | (go_at_call 22; refine (ends_any _ _ _ (by omega) (by omega) (by omega) (by omega)).mono ?_; rintro e w2 ⟨rfl, rfl⟩) | (go_at_call 23; refine (pair_any _ _ (by omega) (by omega)).mono ?_; rintro e w2 ⟨rfl, rfl⟩))
          go_round
          case rel => exact ⟨k + 1, _, by omega, by go_num, rfl, by omega, by omega, by rw [htk.out]; exact HST2.out⟩
          case measure => simp [intOf]; omega
      · have hd : Hid (T.take k = T) := List.take_of_length_le (by have := HN.out; omega)
        obtain rfl : z = b + 1 := run_stop HH.out (by have q := HST.out; rw [hd] at q; exact q) hz0 hz1
        go_wp2_with fail
        refine (tRight_any l A1 n c1 T w1 HI.out (bds_nodes HG.out.1) (by omega) (by omega) (by omega)).mono ?_
        rintro e w2 ⟨rfl, rfl⟩
        rw [HO.out]
        go_wp2_with fail
        refine (alive5_any _).mono ?_
        rintro e w4 ⟨rfl, hb4⟩
        have HB4 := Lib.hid (HB.out.trans (hb4.mono z1))
        clear hb4
        go_wp2_with fail
        go_ret
        exact ⟨rfl, HB4.out⟩
  · have H1 := Lib.hid (of_no l a b w h L0 L1 X0 X1 Y0 Y1)
    clear h
    go_enter Try.func6, Try.ntmps6
    go_wp2_with fail
    refine H1.out.mono ?_
    rintro e w1 ⟨rfl, hb1⟩
    have HB := Lib.hid hb1
    have z1 := hb1.size
    clear hb1
    go_wp2_with fail
    refine (alive5_any _).mono ?_
    rintro e w4 ⟨rfl, hb4⟩
    have HB4 := Lib.hid (HB.out.trans (hb4.mono z1))
    clear hb4
    go_wp2_with fail
    go_ret
    exact ⟨rfl, HB4.out⟩

theorem walk_tilesOf (l a b : Int) (L0 : -9223372036854775808 ≤ l) (L1 : l ≤ 9223372036854775807) (X0 : -9223372036854775808 ≤ a) (X1 : a ≤ 9223372036854775807) (Y0 : -9223372036854775808 ≤ b) (Y1 : b ≤ 9223372036854775807) (w : World) :
    Calls Try.prog 3 #[.int .i64 l, .int .i64 a, .int .i64 b] w fun e w' => e = .returned (.bool true) ∧ Below w.heap.size w w' := (tilesOf_walk l a b w L0 L1 X0 X1 Y0 Y1).mono fun _ _ h => h
theorem walk_tilesFew (l a b : Int) (L0 : -9223372036854775808 ≤ l) (L1 : l ≤ 9223372036854775807) (X0 : -9223372036854775808 ≤ a) (X1 : a ≤ 9223372036854775807) (Y0 : -9223372036854775808 ≤ b) (Y1 : b ≤ 9223372036854775807) (w : World) :
    Calls Try.prog 6 #[.int .i64 l, .int .i64 a, .int .i64 b] w fun e w' => e = .returned (.bool true) ∧ Below w.heap.size w w' := (tilesFew_walk l a b w L0 L1 X0 X1 Y0 Y1).mono fun _ _ h => h

end Go.Proofs.Ytjmglihdndknjaa
