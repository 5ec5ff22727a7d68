/- The law TilesBack, walked. -/
import Derived.Test.YtjmglihdndknjaaTiLaw3
namespace Go.Proofs.Ytjmglihdndknjaa
set_option linter.unusedVariables false
open Go.RowKit

theorem drop_rev {T : List Int} {k : Nat} (h : k < T.length) : (T.drop k).reverse = (T.drop (k + 1)).reverse ++ [T.getD k 0] := by rw [drop_at h, List.reverse_cons]
theorem all_good {l : Int} {ids S : List Int} (h : IsAll l ids) (hS : Good l S) : IsAll l S := ⟨h.1, fun t ht => (end_yes (hS.1 t ht).1).2.2⟩
theorem all_rev {l : Int} {ids : List Int} (h : IsAll l ids) : IsAll l ids.reverse := ⟨h.1, fun t ht => h.2 t (List.mem_reverse.1 ht)⟩
theorem bds_rev {ids : List Int} (h : Bds ids) : Bds ids.reverse := fun t ht => h t (List.mem_reverse.1 ht)
theorem back_holds {l : Int} {ids S R : List Int} (h : IsAll l ids) (hS : Good l S) (hR : Good l R) (hr : ∀ x, Held l R x ↔ (0 ≤ x ∧ x < 2 ^ l.toNat) ∧ ¬ Held l S x) (x : Int) :
    (holdsB l S x != holdsB l R x) = decide (0 ≤ x ∧ x < 2 ^ l.toNat) := by
  have a1 := holdsB_all (x := x) (all_good h hS)
  have a2 := holdsB_all (x := x) (all_good h hR)
  rw [hr] at a2
  by_cases q : 0 ≤ x ∧ x < 2 ^ l.toNat
  · rw [decide_eq_true q]
    by_cases g : Held l S x
    · rw [a1.2 g, Bool.eq_false_iff.2 fun e => (a2.1 e).2 g]; rfl
    · rw [a2.2 ⟨q, g⟩, Bool.eq_false_iff.2 fun e => g (a1.1 e)]; rfl
  · rw [decide_eq_false q, Bool.eq_false_iff.2 fun e => q (a2.1 e).1, Bool.eq_false_iff.2 fun e => q (held_bd hS.1 (a1.1 e))]; rfl
set_option maxRecDepth 100000 in
set_option maxHeartbeats 6400000 in
theorem tilesBack_walk (l : Int) (A : Option Addr) (n c : Nat) (ids : List Int) (x : Int) (w : World) (hA : IntsAt w (.slice A n c) ids) (hB : Bds ids) (hn : n ≤ 9223372036854775807) (L0 : -9223372036854775808 ≤ l) (L1 : l ≤ 9223372036854775807) :
    Calls Try.prog 7 #[.int .i64 l, .slice A n c, .int .i64 x] w (True1 w) := by
  obtain ⟨i0, hi, hz0, hz1, hz2⟩ := info_parts int_info
  have HL := Lib.hid (ints_cells hA).1
  have HC := Lib.hid (ints_cells hA).2
  have HA := Lib.hid hA
  have HB := Lib.hid hB
  clear hA hB
  by_cases hbig : 60 < n
  · go_enter Try.func7, Try.ntmps7
    go_wp2_with fail
    refine (alive5_any _).mono ?_
    rintro e w4 ⟨rfl, hb4⟩
    have HB4 := Lib.hid hb4
    clear hb4
    go_wp2_with fail
    go_ret
    exact ⟨rfl, HB4.out⟩
  have hn60 : n ≤ 60 := by omega
  clear hbig
  go_enter Try.func7, Try.ntmps7
  go_wp2_with fail
  refine (join_any l A n c ids w HA.out HB.out (by omega) L0 L1).mono ?_
  rintro e w1 (⟨hall, A1, c1, S, rfl, hi1, hg1, hh1, hl1, hb1⟩ | ⟨hno, rfl, hb1⟩)
  rotate_left
  · have z1 := hb1.size
    have B1 := Lib.hid hb1
    clear hno hb1
    go_wp2_with fail
    refine (alive5_any _).mono ?_
    rintro e w4 ⟨rfl, hb4⟩
    have HB4 := Lib.hid (B1.out.trans (hb4.mono z1))
    clear hb4
    go_wp2_with fail
    go_ret
    exact ⟨rfl, HB4.out⟩
  have HALL := Lib.hid hall
  have hl48 := all_uni hall
  obtain ⟨hl1', hl2'⟩ := hl48
  have I1 := Lib.hid hi1
  have G1 := Lib.hid hg1
  have H1 := Lib.hid hh1
  have z1 := hb1.size
  have B1 := Lib.hid hb1
  have J1 := Lib.hid (HA.out.below hb1)
  have m1 : S.length ≤ 60 := by have := HL.out; omega
  generalize hs : S.length = s at *
  have HS := Lib.hid hs
  clear hall hi1 hg1 hh1 hl1 hb1 hs
  go_wp2_with fail
  go_loopw [9, 10] (fun v i wr => ∃ j : Nat, j ≤ n ∧ i = .int .i64 ((j : Int) - 1) ∧ OwnI 3 wr w1.heap.size v (ids.drop j).reverse ∧ Below w1.heap.size w1 wr) (fun _ i _ => (intOf i + 1).toNat)
  case atStart => exact ⟨n, Nat.le_refl _, rfl, by rw [List.drop_eq_nil_of_le (by have := HL.out; omega)]; exact ownI_nil _ _ _, Below.refl ..⟩
  case round =>
    rename_i wr
    obtain ⟨j, hj, rfl, hown, hb⟩ := hrel
    have OW := Lib.hid hown
    have z2 := hb.size
    have hol : (ids.drop j).reverse.length ≤ 60 := by simp; have := HL.out; omega
    obtain ⟨A2, m2, c2, rfl⟩ := own_slice hown
    clear hown
    cases j with
    | succ j =>
      have hk2 : j < ids.length := by have := HL.out; omega
      obtain ⟨b, o, rfl, hbl, hcell⟩ := HC.out (by omega)
      have e0 : wr.cell? ⟨b, o + j, none⟩ = some (.int .i64 (ids.getD j 0)) := ((B1.out.trans (hb.mono z1)).cell (p := ⟨b, o + j, none⟩) hbl).trans (hcell j hk2)
      have hdr := Lib.hid (drop_rev hk2)
      clear hcell
      generalize ids.getD j 0 = t at *
      have ej : ((j + 1 : Nat) : Int) - 1 = (j : Int) := by omega
      rw [ej]
      clear ej
      go_wp2_with (at_builtin; refine wpList_append_own _ rfl _ _ 22 rfl w1.heap.size 3 i0 (.int .i64 0) 1 8 Try.underlying22 hi hz0 hz1 hz2 rfl (by decide) _ (ids.drop (j + 1)).reverse.length (ints (ids.drop (j + 1)).reverse) rfl (World.ownsRow.alloc OW.out _) ⟨wr.heap.size, 0, none⟩ 1 1 [.int .i64 t] rfl rfl (one_new _ _ _ _ rfl) (one_int _) (by unfold maxLen; omega) (by omega) (by simp; omega) ?_)
      intro v' w2 hown2 hgrow _
      have hb2 : Below w1.heap.size w1 w2 := (hb.alloc z2 _).grown hgrow (by simp; omega) (fun g hg => (World.ownsRow.lt OW.out g hg).1)
      have O2 := Lib.hid (ownI_snoc (T := (ids.drop (j + 1)).reverse) (by simp) hown2)
      clear hown2 hgrow e0
      go_wp2_with fail
      go_roundw
      case rel => exact ⟨j, by omega, rfl, by rw [hdr.out]; exact O2.out, hb2⟩
      case measure => simp [intOf]
    | zero =>
      have O0 : OwnI 3 wr w1.heap.size (.slice A2 m2 c2) ids.reverse := OW.out
      have hi2 := ownI_ints O0
      have hm2 : m2 = ids.reverse.length := (ints_cells hi2).1
      have I2 := Lib.hid hi2
      have hm60 : m2 ≤ 60 := by simp at hm2; have := HL.out; omega
      have B2 := Lib.hid (B1.out.trans (hb.mono z1))
      have zz := B2.out.size
      have I12 := Lib.hid (I1.out.below hb)
      have J2 := Lib.hid (J1.out.below hb)
      have ej : ((0 : Nat) : Int) - 1 = -1 := rfl
      rw [ej]
      clear ej O0 hi2 hm2 OW hb hol
      go_wp2_with fail
      refine (join_any l A2 m2 c2 ids.reverse wr I2.out (bds_rev HB.out) (by omega) L0 L1).mono ?_
      rintro e w3 (⟨_, A3, c3, T, rfl, hi3, hg3, hh3, hl3, hb3⟩ | ⟨hx, _⟩)
      rotate_left
      · exact (all_not (all_rev HALL.out) hx).elim
      obtain rfl : T = S := uniq hg3 G1.out (fun x => by rw [hh3, H1.out, held_rev])
      rw [HS.out] at hi3
      rw [HS.out]
      have I3 := Lib.hid hi3
      have I13 := Lib.hid (I12.out.below hb3)
      have J3 := Lib.hid (J2.out.below hb3)
      have B3 := Lib.hid (B2.out.trans (hb3.mono zz))
      have z3 := B3.out.size
      clear hi3 hg3 hh3 hl3 hb3
      go_wp2_with fail
      refine (join_any l A1 s c1 T w3 I13.out (bds_nodes G1.out.1) (by omega) L0 L1).mono ?_
      rintro e w4 (⟨_, A4, c4, U, rfl, hi4, hg4, hh4, hl4, hb4⟩ | ⟨hx, _⟩)
      rotate_left
      · exact (all_not (all_good HALL.out G1.out) hx).elim
      obtain rfl : U = T := uniq hg4 G1.out (fun x => by rw [hh4])
      rw [HS.out] at hi4
      rw [HS.out]
      have I4 := Lib.hid hi4
      have I14 := Lib.hid (I13.out.below hb4)
      have I34 := Lib.hid (I3.out.below hb4)
      have J4 := Lib.hid (J3.out.below hb4)
      have B4 := Lib.hid (B3.out.trans (hb4.mono z3))
      have z4 := B4.out.size
      clear hi4 hg4 hh4 hl4 hb4
      go_wp2_with fail
      refine (rest_any l A n c ids w4 J4.out HB.out (by omega) L0 L1).mono ?_
      rintro e w5 (⟨_, A5, c5, R, rfl, hi5, hg5, hh5, hl5, ⟨K, hK1, hK2, hK3⟩, hb5⟩ | ⟨hx, _⟩)
      rotate_left
      · exact (all_not HALL.out hx).elim
      obtain rfl : K = U := uniq hK1 G1.out (fun x => by rw [hK2, H1.out])
      have I5 := Lib.hid hi5
      have G5 := Lib.hid hg5
      have H5 := Lib.hid hh5
      have TOT := Lib.hid hK3
      have I15 := Lib.hid (I14.out.below hb5)
      have I35 := Lib.hid (I34.out.below hb5)
      have I45 := Lib.hid (I4.out.below hb5)
      have J5 := Lib.hid (J4.out.below hb5)
      have B5 := Lib.hid (B4.out.trans (hb5.mono z4))
      have z5 := B5.out.size
      have m5 : R.length ≤ 6000 := by have := HL.out; omega
      generalize hr : R.length = r at *
      have HR := Lib.hid hr
      clear hi5 hg5 hh5 hl5 hK1 hK2 hK3 hb5 hr
      go_wp2_with fail
      refine (rest_any l A5 r c5 R w5 I5.out (bds_nodes G5.out.1) (by omega) L0 L1).mono ?_
      rintro e w6 (⟨_, A6, c6, V, rfl, hi6, hg6, hh6, hl6, _, hb6⟩ | ⟨hx, _⟩)
      rotate_left
      · exact (all_not (all_good HALL.out G5.out) hx).elim
      obtain rfl : V = K := uniq hg6 G1.out (fun x => by
        rw [hh6, H5.out, H1.out]
        constructor
        · rintro ⟨g1, g2⟩
          false_or_by_contra
          rename_i q
          exact g2 ⟨g1, q⟩
        · intro g
          exact ⟨held_bd (all_nodes HALL.out HB.out) g, fun q => q.2 g⟩)
      rw [HS.out] at hi6
      rw [HS.out]
      have I6 := Lib.hid hi6
      have I16 := Lib.hid (I15.out.below hb6)
      have I36 := Lib.hid (I35.out.below hb6)
      have I46 := Lib.hid (I45.out.below hb6)
      have I56 := Lib.hid (I5.out.below hb6)
      have B6 := Lib.hid (B5.out.trans (hb6.mono z5))
      have z6 := B6.out.size
      clear hi6 hg6 hh6 hl6 hb6
      go_wp2_with fail
      refine (count_any l A1 s c1 V w6 I16.out (bds_nodes G1.out.1) (by omega) L0 L1).mono ?_
      rintro e w7 (⟨_, K, hg7, hh7, rfl, hb7⟩ | ⟨hx, _⟩)
      rotate_left
      · exact (all_not (all_good HALL.out G1.out) hx).elim
      obtain rfl : K = V := uniq hg7 G1.out hh7
      have I17 := Lib.hid (I16.out.below hb7)
      have I37 := Lib.hid (I36.out.below hb7)
      have I47 := Lib.hid (I46.out.below hb7)
      have I57 := Lib.hid (I56.out.below hb7)
      have I67 := Lib.hid (I6.out.below hb7)
      have B7 := Lib.hid (B6.out.trans (hb7.mono z6))
      have z7 := B7.out.size
      clear hg7 hh7 hb7
      go_wp2_with fail
      refine (count_any l A5 r c5 R w7 I57.out (bds_nodes G5.out.1) (by omega) L0 L1).mono ?_
      rintro e w8 (⟨_, M, hg8, hh8, rfl, hb8⟩ | ⟨hx, _⟩)
      rotate_left
      · exact (all_not (all_good HALL.out G5.out) hx).elim
      obtain rfl : M = R := uniq hg8 G5.out hh8
      have I18 := Lib.hid (I17.out.below hb8)
      have I38 := Lib.hid (I37.out.below hb8)
      have I48 := Lib.hid (I47.out.below hb8)
      have I58 := Lib.hid (I57.out.below hb8)
      have I68 := Lib.hid (I67.out.below hb8)
      have B8 := Lib.hid (B7.out.trans (hb8.mono z7))
      have z8 := B8.out.size
      clear hg8 hh8 hb8
      have t1 := tot_bd G1.out.1
      have t2 := tot_bd G5.out.1
      have b48 : (2 : Int) ^ l.toNat ≤ 281474976710656 := two_le l.toNat 48 (by omega)
      have b0 : (0 : Int) < 2 ^ l.toNat := two_pos _
      have hbk := Lib.hid (back_holds HALL.out G1.out G5.out (fun x => by rw [H5.out, H1.out]) x)
      have hsum := TOT.out
      have hs1 : 0 ≤ tot l K := t1.1
      have hs2 : 0 ≤ tot l M := t2.1
      generalize tot l K = p1 at *
      generalize tot l M = p2 at *
      have hq1 : (p1 + p2 != 2 ^ l.toNat) = false := by
        have : p1 + p2 = 2 ^ l.toNat := by omega
        rw [this]; simp
      have hs3 : p1 + p2 ≤ 281474976710656 := by omega
      clear t1 t2 hsum
      go_wp2_with fail
      refine (same_any A1 A3 s s c1 c3 K K _ I18.out I38.out (by omega) (by omega)).mono ?_
      rintro e w9 ⟨rfl, hb9⟩
      rw [show decide (K = K) = true from decide_eq_true rfl]
      have I19 := Lib.hid (I18.out.below hb9)
      have I49 := Lib.hid (I48.out.below hb9)
      have I59 := Lib.hid (I58.out.below hb9)
      have I69 := Lib.hid (I68.out.below hb9)
      have B9 := Lib.hid (B8.out.trans (hb9.mono z8))
      have z9 := B9.out.size
      clear hb9
      go_wp2_with fail
      refine (same_any A1 A4 s s c1 c4 K K _ I19.out I49.out (by omega) (by omega)).mono ?_
      rintro e w10 ⟨rfl, hb10⟩
      rw [show decide (K = K) = true from decide_eq_true rfl]
      have I1a := Lib.hid (I19.out.below hb10)
      have I5a := Lib.hid (I59.out.below hb10)
      have I6a := Lib.hid (I69.out.below hb10)
      have Ba := Lib.hid (B9.out.trans (hb10.mono z9))
      have za := Ba.out.size
      clear hb10
      go_wp2_with fail
      refine (same_any A1 A6 s s c1 c6 K K _ I1a.out I6a.out (by omega) (by omega)).mono ?_
      rintro e w11 ⟨rfl, hb11⟩
      rw [show decide (K = K) = true from decide_eq_true rfl]
      have I1b := Lib.hid (I1a.out.below hb11)
      have I5b := Lib.hid (I5a.out.below hb11)
      have Bb := Lib.hid (Ba.out.trans (hb11.mono za))
      have zb := Bb.out.size
      clear hb11
      rcases (show x < 0 ∨ (0 ≤ x ∧ 2 ^ l.toNat ≤ x) ∨ (0 ≤ x ∧ x < 2 ^ l.toNat) by omega) with hx | hx | hx
      all_goals
        have hd := hbk.out
        first | rw [decide_eq_true hx] at hd | rw [decide_eq_false (by omega)] at hd
        have HD := Lib.hid hd
        clear hd
        go_wp2_with fail
        refine (tHolds_any l A1 s c1 K x w11 I1b.out (bds_nodes G1.out.1) (by omega) L0 L1).mono ?_
        rintro e w12 ⟨rfl, rfl⟩
        go_wp2_with fail
        refine (tHolds_any l A5 r c5 M x w11 I5b.out (bds_nodes G5.out.1) (by omega) L0 L1).mono ?_
        rintro e w12 ⟨rfl, rfl⟩
        have hd := HD.out
        clear hbk HD
        revert hd
        generalize holdsB l K x = o1
        generalize holdsB l M x = o2
        intro hd
        cases o1 <;> cases o2 <;> first | (exfalso; revert hd; decide) | skip
        all_goals
          clear hd
          go_wp2_with fail
          refine (alive5_any _).mono ?_
          rintro e w13 ⟨rfl, hb13⟩
          have Bc := Lib.hid (Bb.out.trans (hb13.mono zb))
          clear hb13
          go_wp2_with fail
          go_ret
          refine ⟨?_, Bc.out⟩
          first | rfl | exact ret_b (by rw [decide_eq_false (by omega)]; rfl) | exact ret_b (decide_eq_true (by omega))

theorem walk_tilesJoin (l : Int) (A : Option Addr) (n c : Nat) (ids : List Int) (L0 : -9223372036854775808 ≤ l) (L1 : l ≤ 9223372036854775807) (hB : Bds ids) (hn : n ≤ 9223372036854775807) (w : World) (hA : IntsAt w (.slice A n c) ids) :
    Calls Try.prog 4 #[.int .i64 l, .slice A n c] w fun e w' => e = .returned (.bool true) ∧ Below w.heap.size w w' := (tilesJoin_walk l A n c ids w hA hB hn L0 L1).mono fun _ _ h => h
theorem walk_tilesHolds (l : Int) (A : Option Addr) (n c : Nat) (ids : List Int) (x : Int) (L0 : -9223372036854775808 ≤ l) (L1 : l ≤ 9223372036854775807) (hB : Bds ids) (hn : n ≤ 9223372036854775807) (X0 : -9223372036854775808 ≤ x) (X1 : x ≤ 9223372036854775807) (w : World) (hA : IntsAt w (.slice A n c) ids) :
    Calls Try.prog 5 #[.int .i64 l, .slice A n c, .int .i64 x] w fun e w' => e = .returned (.bool true) ∧ Below w.heap.size w w' := (tilesHolds_walk l A n c ids x w hA hB hn L0 L1).mono fun _ _ h => h
theorem walk_tilesBack (l : Int) (A : Option Addr) (n c : Nat) (ids : List Int) (x : Int) (L0 : -9223372036854775808 ≤ l) (L1 : l ≤ 9223372036854775807) (hB : Bds ids) (hn : n ≤ 9223372036854775807) (X0 : -9223372036854775808 ≤ x) (X1 : x ≤ 9223372036854775807) (w : World) (hA : IntsAt w (.slice A n c) ids) :
    Calls Try.prog 7 #[.int .i64 l, .slice A n c, .int .i64 x] w fun e w' => e = .returned (.bool true) ∧ Below w.heap.size w w' := (tilesBack_walk l A n c ids x w hA hB hn L0 L1).mono fun _ _ h => h

end Go.Proofs.Ytjmglihdndknjaa
