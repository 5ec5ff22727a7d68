/- The document's answers of package dewpondref05: Join, Rest, Right, Holds, Count. -/
import Derived.Test.YtjmglihdndknjaaTiRef4
namespace Go.Proofs.Ytjmglihdndknjaa
set_option linter.unusedVariables false
open Go.RowKit

def RJoinPost (l : Int) (ids : List Int) (w : World) (e : Ending) (w' : World) : Prop := (IsAll l ids ∧ Told l (Held l ids) (ids.length * 96) w e w') ∨ (NotAll l ids ∧ NoneTold w e w')
theorem all_uni {l : Int} {ids : List Int} (h : IsAll l ids) : 1 ≤ l ∧ l ≤ 48 := by have := h.1; unfold uniB at this; simpa using this
set_option maxHeartbeats 1600000 in
theorem r5join_any (l : Int) (A : Option Addr) (n c : Nat) (ids : List Int) (w : World) (hA : IntsAt w (.slice A n c) ids) (hB : Bds ids) (hn : n ≤ 9000) (L0 : -9223372036854775808 ≤ l) (L1 : l ≤ 9223372036854775807) :
    Calls Try.prog 13 #[.int .i64 l, .slice A n c] w (RJoinPost l ids w) := by
  have HL := Lib.hid (ints_cells hA).1
  have HI := Lib.hid (runs_any l A n c ids w hA hB (by omega) L0 L1)
  clear hA hB
  go_enter Try.func13, Try.ntmps13
  go_wp2_with fail
  refine HI.out.mono ?_
  rintro e w1 (⟨hall, A1, c1, L, rfl, hra, hrs, hin, hlen, hb1⟩ | ⟨hno, A1, m1, c1, rfl, hm1, hb1⟩)
  · have HALL := Lib.hid hall
    have hl48 := all_uni hall
    have hm9 : L.length ≤ 9000 := by have := HL.out; omega
    have HIN := Lib.hid hin
    have HLEN := Lib.hid hlen
    generalize hm : L.length = m at *
    have HM := Lib.hid hm
    have HLAY := Lib.hid (r5lay_any l A1 m c1 L w1 hra hrs (by omega) hl48)
    have z1 := hb1.size
    clear hall hra hrs hin hlen hm HI
    go_wp2_with fail
    refine HLAY.out.mono ?_
    rintro e w2 ⟨A2, c2, T, rfl, hints, hlaid, hb2⟩
    have HI2 := Lib.hid hints
    have HLD := Lib.hid hlaid
    generalize ht : T.length = t at *
    have HT := Lib.hid ht
    clear hints hlaid ht HLAY
    go_wp2_with fail
    go_ret2
    exact .inl ⟨HALL.out, A2, c2, T, by rw [HT.out]; rfl, by rw [HT.out]; exact HI2.out, HLD.out.1, fun x => by rw [HLD.out.2.1, HIN.out], by have := HLD.out.2.2; have := HLEN.out; have := HM.out; omega, hb1.trans (hb2.mono z1)⟩
  · have HNO := Lib.hid hno
    clear hno HI
    go_wp2_with fail
    go_ret2
    exact .inr ⟨HNO.out, rfl, hb1⟩
def RRestPost (l : Int) (ids : List Int) (w : World) (e : Ending) (w' : World) : Prop :=
  (IsAll l ids ∧ Told l (fun x => (0 ≤ x ∧ x < 2 ^ l.toNat) ∧ ¬ Held l ids x) (ids.length * 96 + 96) w e w') ∨ (NotAll l ids ∧ NoneTold w e w')
set_option maxHeartbeats 3200000 in
theorem r5rest_any (l : Int) (A : Option Addr) (n c : Nat) (ids : List Int) (w : World) (hA : IntsAt w (.slice A n c) ids) (hB : Bds ids) (hn : n ≤ 9000) (L0 : -9223372036854775808 ≤ l) (L1 : l ≤ 9223372036854775807) :
    Calls Try.prog 15 #[.int .i64 l, .slice A n c] w (RRestPost l ids w) := by
  obtain ⟨i0, hi, hz0, hz1, hz2⟩ := info_parts run_info
  have HL := Lib.hid (ints_cells hA).1
  have HI := Lib.hid (runs_any l A n c ids w hA hB (by omega) L0 L1)
  clear hA hB
  go_enter Try.func15, Try.ntmps15
  go_wp2_with fail
  refine HI.out.mono ?_
  rintro e w1 (⟨hall, A1, c1, L, rfl, hra, hrs, hin, hlen, hb1⟩ | ⟨hno, A1, m1, c1, rfl, hm1, hb1⟩)
  · have HALL := Lib.hid hall
    have hl48 := all_uni hall
    have hm9 : L.length ≤ 9000 := by have := HL.out; omega
    have HIN := Lib.hid hin
    have HRS := Lib.hid hrs
    have HC := Lib.hid (runs_cells hra).2
    have HLEN := Lib.hid hlen
    have z1 := hb1.size
    have hb48 : (2 : Int) ^ l.toNat ≤ 281474976710656 := two_le l.toNat 48 (by omega)
    have hb0 : (0 : Int) < 2 ^ l.toNat := two_pos _
    have htake : Hid (∀ k, ∀ p ∈ L.take k, 0 ≤ p.1 ∧ p.1 ≤ p.2 ∧ p.2 < 2 ^ l.toNat) := fun k p hp => hrs.1 p (List.mem_of_mem_take hp)
    clear hall hra hrs hin hlen HI
    generalize hm : L.length = m at *
    have HM := Lib.hid hm
    clear hm
    go_wp2_with fail
    go_loopw [8, 9, 10] (fun v x i wr => ∃ (k : Nat) (O : List Rn) (z : Int), k ≤ m ∧ i = .int .i64 k ∧ x = .int .i64 z ∧ OwnP 54 wr w1.heap.size v O ∧ GapInv (2 ^ l.toNat) (L.take k) O z ∧ Below w1.heap.size w1 wr) (fun _ _ i _ => m - (intOf i).toNat)
    case atStart => exact ⟨0, [], 0, by omega, rfl, rfl, ownP_nil _ _ _, gap_start _, Below.refl ..⟩
    case round =>
      rename_i wr
      obtain ⟨k, O, z, hk, rfl, rfl, hown, hinv, hb⟩ := hrel
      have hzb := gap_at_bd hinv (htake k) (by omega)
      have INV := Lib.hid hinv
      have hol : O.length ≤ m := by have := hinv.2.2.2.2.2; simp at this; omega
      have OW := Lib.hid hown
      have z2 := hb.size
      obtain ⟨A2, m2, c2, rfl⟩ := own_slice hown
      clear hinv hown
      by_cases hlt : k < m
      · have hk2 : k < L.length := by have := HM.out; omega
        obtain ⟨b, o, rfl, hbl, hcell⟩ := HC.out (by have := HM.out; omega)
        have hcc := hcell k (by have := HM.out; omega)
        have e0 : wr.cell? ⟨b, o + k * 2, none⟩ = some (.int .i64 (L.getD k rz).1) := (hb.cell (p := ⟨b, o + k * 2, none⟩) hbl).trans hcc.1
        have e1 : wr.cell? ⟨b, o + k * 2 + 1, none⟩ = some (.int .i64 (L.getD k rz).2) := (hb.cell (p := ⟨b, o + k * 2 + 1, none⟩) hbl).trans hcc.2
        have htk := Lib.hid (take_atr hk2)
        have hrr := HRS.out.1 _ (getDr_mem hk2)
        have hgp := Lib.hid (gap_at HRS.out.2 hk2)
        clear hcell
        generalize L.getD k rz = r at *
        obtain ⟨rl, rh⟩ := r
        simp only at e0 e1 hrr hcc
        have HRR := Lib.hid hrr
        have HCC := Lib.hid hcc
        obtain ⟨r0, r1, r2⟩ := hrr
        clear hcc
        by_cases hz : z < rl
        · have GS := Lib.hid (gap_yes (r := (rl, rh)) INV.out (htake k) HRR.out hgp.out hz)
          go_wp2_with (at_builtin; refine wpList_append_own _ rfl _ _ 49 rfl w1.heap.size 54 i0 (.agg #[.int .i64 0, .int .i64 0]) 2 16 Try.underlying49 hi hz0 hz1 hz2 rfl (by decide) _ O.length (pairs O) rfl (World.ownsRow.alloc OW.out _) ⟨wr.heap.size, 0, none⟩ 1 1 [.int .i64 z, .int .i64 (rl - 1)] rfl rfl (two_new _ _ _ _ _ rfl) (two_cell _ _) (by unfold maxLen; omega) (by omega) (by simp; omega) ?_)
          intro v' w2 hown2 hgrow _
          have hb2 : Below w1.heap.size w1 w2 := (hb.alloc z2 _).grown hgrow (by simp; omega) (fun g hg => (World.ownsRow.lt OW.out g hg).1)
          have e2 : w2.cell? ⟨b, o + k * 2 + 1, none⟩ = some (.int .i64 rh) := (hb2.cell (p := ⟨b, o + k * 2 + 1, none⟩) hbl).trans HCC.out.2
          have O2 := Lib.hid (ownP_snoc hown2)
          obtain ⟨A3, m3, c3, rfl⟩ := own_slice hown2
          clear hown2 hgrow e0 e1
          go_wp2_with fail
          go_roundw
          case rel => exact ⟨k + 1, O ++ [(z, rl - 1)], _, by omega, by go_num, rfl, O2.out, by rw [htk.out]; exact GS.out, hb2⟩
          case measure => simp [intOf]; omega
        · have GS := Lib.hid (gap_no (r := (rl, rh)) INV.out (htake k) HRR.out hgp.out hz)
          go_wp2_with fail
          go_roundw
          case rel => exact ⟨k + 1, O, _, by omega, by go_num, rfl, OW.out, by rw [htk.out]; exact GS.out, hb⟩
          case measure => simp [intOf]; omega
      · have hd : Hid (L.take k = L) := List.take_of_length_le (by have := HM.out; omega)
        have htL : Hid (∀ p ∈ L, 0 ≤ p.1 ∧ p.1 ≤ p.2 ∧ p.2 < 2 ^ l.toNat) := HRS.out.1
        have INV2 := Lib.hid (show GapInv (2 ^ l.toNat) L O z from by have q := INV.out; rwa [hd] at q)
        by_cases hz : z < 2 ^ l.toNat
        · have GE := Lib.hid (gap_end_yes INV2.out htL (by omega) hz)
          go_wp2_with (first | (go_at_call 28; refine (rpower_any _ _ (by omega) (by omega)).mono ?_; rintro e w1 ⟨rfl, rfl⟩) | (at_builtin; refine wpList_append_own _ rfl _ _ 49 rfl w1.heap.size 54 i0 (.agg #[.int .i64 0, .int .i64 0]) 2 16 Try.underlying49 hi hz0 hz1 hz2 rfl (by decide) _ O.length (pairs O) rfl (World.ownsRow.alloc OW.out _) ⟨wr.heap.size, 0, none⟩ 1 1 [.int .i64 z, .int .i64 (2 ^ l.toNat - 1)] rfl rfl (two_new _ _ _ _ _ rfl) (two_cell _ _) (by unfold maxLen; omega) (by omega) (by simp; omega) ?_))
          intro v' w2 hown2 hgrow _
          have hb2 : Below w1.heap.size w1 w2 := (hb.alloc z2 _).grown hgrow (by simp; omega) (fun g hg => (World.ownsRow.lt OW.out g hg).1)
          have O2 := Lib.hid (ownP_runs (ownP_snoc hown2))
          obtain ⟨A3, c3, rfl⟩ := runs_shape O2.out
          have hol2 : (O ++ [(z, 2 ^ l.toNat - 1)]).length ≤ m + 1 := by simp; omega
          have HLAY := Lib.hid (r5lay_any l A3 _ c3 _ w2 O2.out GE.out.1 (by omega) hl48)
          generalize hq : (O ++ [(z, 2 ^ l.toNat - 1)]).length = q at *
          have z3 := hb2.size
          clear hown2 hgrow hq
          go_wp2_with fail
          refine HLAY.out.mono ?_
          rintro e w3 ⟨A4, c4, T, rfl, hints, hlaid, hb3⟩
          have HI4 := Lib.hid hints
          have HLD := Lib.hid hlaid
          generalize ht : T.length = t at *
          have HT := Lib.hid ht
          clear hints hlaid ht HLAY
          go_wp2_with fail
          go_ret2
          exact .inl ⟨HALL.out, A4, c4, T, by rw [HT.out]; rfl, by rw [HT.out]; exact HI4.out, HLD.out.1, fun x => by rw [HLD.out.2.1, GE.out.2, HIN.out], by have := HLD.out.2.2; have := HLEN.out; have := HM.out; simp at *; omega, hb1.trans ((hb2.trans (hb3.mono z3)).mono z1)⟩
        · have GE := Lib.hid (gap_end_no INV2.out htL (by omega) hz)
          have hz' : 2 ^ l.toNat ≤ z := by omega
          have O2 := Lib.hid (ownP_runs OW.out)
          have hm2 := (runs_cells O2.out).1
          have HM2 := Lib.hid hm2
          have HLAY := Lib.hid (r5lay_any l A2 _ c2 _ wr O2.out GE.out.1 (by omega) hl48)
          clear hz hm2
          go_wp2_with (first | (go_at_call 28; refine (rpower_any _ _ (by omega) (by omega)).mono ?_; rintro e w1 ⟨rfl, rfl⟩))
          refine HLAY.out.mono ?_
          rintro e w3 ⟨A4, c4, T, rfl, hints, hlaid, hb3⟩
          have HI4 := Lib.hid hints
          have HLD := Lib.hid hlaid
          generalize ht : T.length = t at *
          have HT := Lib.hid ht
          clear hints hlaid ht HLAY
          go_wp2_with fail
          go_ret2
          exact .inl ⟨HALL.out, A4, c4, T, by rw [HT.out]; rfl, by rw [HT.out]; exact HI4.out, HLD.out.1, fun x => by rw [HLD.out.2.1, GE.out.2, HIN.out], by have := HLD.out.2.2; have := HLEN.out; have := HM.out; omega, hb1.trans ((hb.trans (hb3.mono z2)).mono z1)⟩
  · have HNO := Lib.hid hno
    clear hno HI
    go_wp2_with fail
    go_ret2
    exact .inr ⟨HNO.out, rfl, hb1⟩

end Go.Proofs.Ytjmglihdndknjaa
