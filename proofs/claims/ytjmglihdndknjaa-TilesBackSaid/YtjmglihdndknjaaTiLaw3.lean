/- The laws TilesJoin, TilesHolds, walked. -/
import Derived.Test.YtjmglihdndknjaaTiLaw
namespace Go.Proofs.Ytjmglihdndknjaa
set_option linter.unusedVariables false
open Go.RowKit

theorem all_not {l : Int} {ids : List Int} (h : IsAll l ids) (g : NotAll l ids) : False := by
  rcases g with g | ⟨t, ht, g⟩
  · rw [h.1] at g; cases g
  · rw [h.2 t ht] at g; cases g
set_option maxHeartbeats 3200000 in
theorem tilesJoin_walk (l : Int) (A : Option Addr) (n c : Nat) (ids : List Int) (w : World) (hA : IntsAt w (.slice A n c) ids) (hB : Bds ids) (hn : n ≤ 9223372036854775807) (L0 : -9223372036854775808 ≤ l) (L1 : l ≤ 9223372036854775807) :
    Calls Try.prog 4 #[.int .i64 l, .slice A n c] w (True1 w) := by
  have HL := Lib.hid (ints_cells hA).1
  have HA := Lib.hid hA
  have HB := Lib.hid hB
  clear hA hB
  by_cases hbig : 60 < n
  · go_enter Try.func4, Try.ntmps4
    go_wp2_with fail
    refine (alive5_any _).mono ?_
    rintro e w4 ⟨rfl, hb4⟩
    have HB4 := Lib.hid hb4
    clear hb4
    go_wp2_with fail
    go_ret
    exact ⟨rfl, HB4.out⟩
  · have hn60 : n ≤ 60 := by omega
    have HOR := Lib.hid (all_or l ids)
    clear hbig
    go_enter Try.func4, Try.ntmps4
    go_wp2_with fail
    refine (join_any l A n c ids w HA.out HB.out (by omega) L0 L1).mono ?_
    rintro e w1 h1
    rcases HOR.out with hall | hno
    · have HALL := Lib.hid hall
      rcases h1 with ⟨_, A1, c1, S, rfl, hi1, hg1, hh1, hl1, hb1⟩ | ⟨hx, _⟩
      rotate_left
      · exact (all_not hall hx).elim
      have I1 := Lib.hid hi1
      have G1 := Lib.hid hg1
      have H1 := Lib.hid hh1
      have z1 := hb1.size
      have B1 := Lib.hid hb1
      have J1 := Lib.hid (HA.out.below hb1)
      have m1 : S.length ≤ 60 := by have := HL.out; omega
      generalize hs : S.length = s at *
      have HS := Lib.hid hs
      clear hall hi1 hg1 hh1 hl1 hb1 hs
      go_wp2_with fail
      refine (r5join_any l A n c ids w1 J1.out HB.out (by omega) L0 L1).mono ?_
      rintro e w2 (⟨_, A2, c2, T, rfl, hi2, hg2, hh2, hl2, hb2⟩ | ⟨hx, _⟩)
      rotate_left
      · exact (all_not HALL.out hx).elim
      obtain rfl : T = S := uniq hg2 G1.out (fun x => by rw [hh2, H1.out])
      rw [HS.out] at hi2
      rw [HS.out]
      have I2 := Lib.hid hi2
      have I1' := Lib.hid (I1.out.below hb2)
      have J2 := Lib.hid (J1.out.below hb2)
      have B2 := Lib.hid (B1.out.trans (hb2.mono z1))
      have z2 := B2.out.size
      clear hi2 hg2 hh2 hl2 hb2
      go_wp2_with fail
      refine (rest_any l A n c ids w2 J2.out HB.out (by omega) L0 L1).mono ?_
      rintro e w3 (⟨_, A3, c3, U, rfl, hi3, hg3, hh3, hl3, _, hb3⟩ | ⟨hx, _⟩)
      rotate_left
      · exact (all_not HALL.out hx).elim
      have I3 := Lib.hid hi3
      have G3 := Lib.hid hg3
      have H3 := Lib.hid hh3
      have I12 := Lib.hid (I1'.out.below hb3)
      have I22 := Lib.hid (I2.out.below hb3)
      have J3 := Lib.hid (J2.out.below hb3)
      have B3 := Lib.hid (B2.out.trans (hb3.mono z2))
      have z3 := B3.out.size
      have m3 : U.length ≤ 6000 := by have := HL.out; omega
      generalize hu : U.length = u at *
      have HU := Lib.hid hu
      clear hi3 hg3 hh3 hl3 hb3 hu
      go_wp2_with fail
      refine (r5rest_any l A n c ids w3 J3.out HB.out (by omega) L0 L1).mono ?_
      rintro e w4 (⟨_, A4, c4, V, rfl, hi4, hg4, hh4, hl4, hb4⟩ | ⟨hx, _⟩)
      rotate_left
      · exact (all_not HALL.out hx).elim
      obtain rfl : V = U := uniq hg4 G3.out (fun x => by rw [hh4, H3.out])
      rw [HU.out] at hi4
      rw [HU.out]
      have I4 := Lib.hid hi4
      have I13 := Lib.hid (I12.out.below hb4)
      have I23 := Lib.hid (I22.out.below hb4)
      have I33 := Lib.hid (I3.out.below hb4)
      have J4 := Lib.hid (J3.out.below hb4)
      have B4 := Lib.hid (B3.out.trans (hb4.mono z3))
      have z4 := B4.out.size
      clear hi4 hg4 hh4 hl4 hb4
      go_wp2_with fail
      refine (same_any A1 A2 s s c1 c2 T T _ I13.out I23.out (by omega) (by omega)).mono ?_
      rintro e w5 ⟨rfl, hb5⟩
      rw [show decide (T = T) = true from decide_eq_true rfl]
      have I34 := Lib.hid (I33.out.below hb5)
      have I44 := Lib.hid (I4.out.below hb5)
      have J5 := Lib.hid (J4.out.below hb5)
      have B5 := Lib.hid (B4.out.trans (hb5.mono z4))
      have z5 := B5.out.size
      clear hb5
      go_wp2_with fail
      refine (same_any A3 A4 u u c3 c4 V V _ I34.out I44.out (by omega) (by omega)).mono ?_
      rintro e w6 ⟨rfl, hb6⟩
      rw [show decide (V = V) = true from decide_eq_true rfl]
      have J6 := Lib.hid (J5.out.below hb6)
      have B6 := Lib.hid (B5.out.trans (hb6.mono z5))
      have z6 := B6.out.size
      clear hb6
      go_wp2_with fail
      refine (tRight_any l A n c ids w6 J6.out HB.out (by omega) L0 L1).mono ?_
      rintro e w7 ⟨rfl, rfl⟩
      go_wp2_with fail
      refine (r5right_any l A n c ids w6 J6.out HB.out (by omega) L0 L1).mono ?_
      rintro e w7 ⟨rfl, rfl⟩
      generalize ordF l 0 ids = ob
      have hob : (ob == ob) = true := beq_self_eq_true ob
      go_wp2_with fail
      refine (alive5_any _).mono ?_
      rintro e w8 ⟨rfl, hb8⟩
      have B8 := Lib.hid (B6.out.trans (hb8.mono z6))
      clear hb8
      go_wp2_with fail
      go_ret
      exact ⟨rfl, B8.out⟩
    · have HNO := Lib.hid hno
      rcases h1 with ⟨hx, _⟩ | ⟨_, rfl, hb1⟩
      · exact (all_not hx hno).elim
      have z1 := hb1.size
      have B1 := Lib.hid hb1
      have J1 := Lib.hid (HA.out.below hb1)
      clear hno hb1
      go_wp2_with fail
      refine (r5join_any l A n c ids w1 J1.out HB.out (by omega) L0 L1).mono ?_
      rintro e w2 (⟨hx, _⟩ | ⟨_, rfl, hb2⟩)
      · exact (all_not hx HNO.out).elim
      have J2 := Lib.hid (J1.out.below hb2)
      have B2 := Lib.hid (B1.out.trans (hb2.mono z1))
      have z2 := B2.out.size
      clear hb2
      go_wp2_with fail
      refine (rest_any l A n c ids w2 J2.out HB.out (by omega) L0 L1).mono ?_
      rintro e w3 (⟨hx, _⟩ | ⟨_, rfl, hb3⟩)
      · exact (all_not hx HNO.out).elim
      have J3 := Lib.hid (J2.out.below hb3)
      have B3 := Lib.hid (B2.out.trans (hb3.mono z2))
      have z3 := B3.out.size
      clear hb3
      go_wp2_with fail
      refine (r5rest_any l A n c ids w3 J3.out HB.out (by omega) L0 L1).mono ?_
      rintro e w4 (⟨hx, _⟩ | ⟨_, rfl, hb4⟩)
      · exact (all_not hx HNO.out).elim
      have J4 := Lib.hid (J3.out.below hb4)
      have B4 := Lib.hid (B3.out.trans (hb4.mono z3))
      have z4 := B4.out.size
      clear hb4
      go_wp2_with fail
      refine (same_any none none 0 0 0 0 [] [] _ (ints_nil _) (ints_nil _) (by omega) (by omega)).mono ?_
      rintro e w5 ⟨rfl, hb5⟩
      rw [show decide (([] : List Int) = []) = true from decide_eq_true rfl]
      have J5 := Lib.hid (J4.out.below hb5)
      have B5 := Lib.hid (B4.out.trans (hb5.mono z4))
      have z5 := B5.out.size
      clear hb5
      go_wp2_with fail
      refine (same_any none none 0 0 0 0 [] [] _ (ints_nil _) (ints_nil _) (by omega) (by omega)).mono ?_
      rintro e w6 ⟨rfl, hb6⟩
      rw [show decide (([] : List Int) = []) = true from decide_eq_true rfl]
      have J6 := Lib.hid (J5.out.below hb6)
      have B6 := Lib.hid (B5.out.trans (hb6.mono z5))
      have z6 := B6.out.size
      clear hb6
      go_wp2_with fail
      refine (tRight_any l A n c ids w6 J6.out HB.out (by omega) L0 L1).mono ?_
      rintro e w7 ⟨rfl, rfl⟩
      go_wp2_with fail
      refine (r5right_any l A n c ids w6 J6.out HB.out (by omega) L0 L1).mono ?_
      rintro e w7 ⟨rfl, rfl⟩
      generalize ordF l 0 ids = ob
      have hob : (ob == ob) = true := beq_self_eq_true ob
      go_wp2_with fail
      refine (alive5_any _).mono ?_
      rintro e w8 ⟨rfl, hb8⟩
      have B8 := Lib.hid (B6.out.trans (hb8.mono z6))
      clear hb8
      go_wp2_with fail
      go_ret
      exact ⟨rfl, B8.out⟩
set_option maxHeartbeats 3200000 in
theorem tilesHolds_walk (l : Int) (A : Option Addr) (n c : Nat) (ids : List Int) (x : Int) (w : World) (hA : IntsAt w (.slice A n c) ids) (hB : Bds ids) (hn : n ≤ 9223372036854775807) (L0 : -9223372036854775808 ≤ l) (L1 : l ≤ 9223372036854775807) :
    Calls Try.prog 5 #[.int .i64 l, .slice A n c, .int .i64 x] w (True1 w) := by
  have HL := Lib.hid (ints_cells hA).1
  have HA := Lib.hid hA
  have HB := Lib.hid hB
  clear hA hB
  by_cases hbig : 60 < n
  · go_enter Try.func5, Try.ntmps5
    go_wp2_with fail
    refine (alive5_any _).mono ?_
    rintro e w4 ⟨rfl, hb4⟩
    have HB4 := Lib.hid hb4
    clear hb4
    go_wp2_with fail
    go_ret
    exact ⟨rfl, HB4.out⟩
  · have hn60 : n ≤ 60 := by omega
    have HOR := Lib.hid (all_or l ids)
    clear hbig
    go_enter Try.func5, Try.ntmps5
    go_wp2_with fail
    refine (count_any l A n c ids w HA.out HB.out (by omega) L0 L1).mono ?_
    rintro e w1 h1
    rcases HOR.out with hall | hno
    · have HALL := Lib.hid hall
      rcases h1 with ⟨_, J, hg1, hh1, rfl, hb1⟩ | ⟨hx, _⟩
      rotate_left
      · exact (all_not hall hx).elim
      have G1 := Lib.hid hg1
      have H1 := Lib.hid hh1
      have z1 := hb1.size
      have B1 := Lib.hid hb1
      have J1 := Lib.hid (HA.out.below hb1)
      clear hall hg1 hh1 hb1
      go_wp2_with fail
      refine (r5count_any l A n c ids w1 J1.out HB.out (by omega) L0 L1).mono ?_
      rintro e w2 (⟨_, R, hr2, hh2, rfl, hb2⟩ | ⟨hx, _⟩)
      rotate_left
      · exact (all_not HALL.out hx).elim
      have hq : totR R = tot l J := (tot_runs (all_uni HALL.out) hr2 G1.out (fun x => by rw [H1.out, hh2])).symm
      rw [hq]
      have J2 := Lib.hid (J1.out.below hb2)
      have B2 := Lib.hid (B1.out.trans (hb2.mono z1))
      have z2 := B2.out.size
      generalize tot l J = tj
      have htj : (tj == tj) = true := beq_self_eq_true tj
      clear hr2 hh2 hb2 hq
      go_wp2_with fail
      refine (tHolds_any l A n c ids x w2 J2.out HB.out (by omega) L0 L1).mono ?_
      rintro e w7 ⟨rfl, rfl⟩
      go_wp2_with fail
      refine (r5holds_any l A n c ids x w2 J2.out HB.out (by omega) L0 L1).mono ?_
      rintro e w3 ⟨rfl, hb3⟩
      have B3 := Lib.hid (B2.out.trans (hb3.mono z2))
      have z3 := B3.out.size
      clear hb3
      generalize holdsB l ids x = ob
      have hob : (ob == ob) = true := beq_self_eq_true ob
      go_wp2_with fail
      refine (alive5_any _).mono ?_
      rintro e w8 ⟨rfl, hb8⟩
      have B8 := Lib.hid (B3.out.trans (hb8.mono z3))
      clear hb8
      go_wp2_with fail
      go_ret
      exact ⟨rfl, B8.out⟩
    · have HNO := Lib.hid hno
      rcases h1 with ⟨hx, _⟩ | ⟨_, rfl, hb1⟩
      · exact (all_not hx hno).elim
      have z1 := hb1.size
      have B1 := Lib.hid hb1
      have J1 := Lib.hid (HA.out.below hb1)
      clear hno hb1
      go_wp2_with fail
      refine (r5count_any l A n c ids w1 J1.out HB.out (by omega) L0 L1).mono ?_
      rintro e w2 (⟨hx, _⟩ | ⟨_, rfl, hb2⟩)
      · exact (all_not hx HNO.out).elim
      have J2 := Lib.hid (J1.out.below hb2)
      have B2 := Lib.hid (B1.out.trans (hb2.mono z1))
      have z2 := B2.out.size
      clear hb2
      go_wp2_with fail
      refine (tHolds_any l A n c ids x w2 J2.out HB.out (by omega) L0 L1).mono ?_
      rintro e w7 ⟨rfl, rfl⟩
      go_wp2_with fail
      refine (r5holds_any l A n c ids x w2 J2.out HB.out (by omega) L0 L1).mono ?_
      rintro e w3 ⟨rfl, hb3⟩
      have B3 := Lib.hid (B2.out.trans (hb3.mono z2))
      have z3 := B3.out.size
      clear hb3
      generalize holdsB l ids x = ob
      have hob : (ob == ob) = true := beq_self_eq_true ob
      go_wp2_with fail
      refine (alive5_any _).mono ?_
      rintro e w8 ⟨rfl, hb8⟩
      have B8 := Lib.hid (B3.out.trans (hb8.mono z3))
      clear hb8
      go_wp2_with fail
      go_ret
      exact ⟨rfl, B8.out⟩

end Go.Proofs.Ytjmglihdndknjaa
