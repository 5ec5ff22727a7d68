/- The walk of the statement FoldKeeps of layer fold: for every input it returns true, and nothing that was there before is changed. -/
import Derived.Test.YtikiflhpicjefaaFoLaw3
namespace Go.Proofs.Ytikiflhpicjefaa
set_option linter.unusedVariables false
set_option maxRecDepth 100000
open Go.RowKit

theorem pair_is {l : Int} {L : List Nd} {id : Int} (h : pairW l L id ≠ 0) : KidC l id := by
  by_cases q : KidC l id
  · exact q
  · exact absurd (if_neg (by rw [(kid_no q).2.2]; decide)) h
/-- what each node weighs behind a fold -/
theorem foldW_sum {l : Int} {L : List Nd} (h : RollC l L) {id : Int} (hk : KidC l id) (i : Int) : sumAt i (foldW l L id) = if i = 2 * id ∨ i = 2 * id + 1 then 0 else sumAt i L + (if i = id then pairW l L id else 0) := by
  have hp := kid_pos hk
  rw [(fold_is h hk).1, addW_sum, rem_sum, rem_sum]
  by_cases h1 : 2 * id + 1 = i
  · rw [if_pos h1, if_neg (by omega), if_pos (by omega)]; omega
  · by_cases h2 : 2 * id = i
    · rw [if_neg h1, if_pos h2, if_neg (by omega), if_pos (by omega)]; omega
    · rw [if_neg h1, if_neg h2, if_neg (show ¬ (i = 2 * id ∨ i = 2 * id + 1) by omega)]
      by_cases h3 : id = i
      · rw [if_pos h3, if_pos h3.symm]
      · rw [if_neg h3, if_neg (fun e => h3 e.symm)]
theorem foldW_tot {l : Int} {L : List Nd} (h : RollC l L) (id : Int) : sumC (foldW l L id) = sumC L := by
  by_cases h0 : pairW l L id = 0
  · rw [pair_zero h h0]
  · have hk := pair_is h0
    have e : pairW l L id = sumAt (2 * id) L + sumAt (2 * id + 1) L := if_pos (kid_yes hk).2.2
    rw [(fold_is h hk).1, addW_tot, rem_tot, rem_tot, rem_sum, if_neg (by omega), e]
    omega
theorem foldW_len {l : Int} {L : List Nd} (h : RollC l L) (id : Int) : (foldW l L id).length ≤ L.length := by
  by_cases h0 : pairW l L id = 0
  · rw [pair_zero h h0]; exact Nat.le_refl _
  · have hk := pair_is h0
    have e : pairW l L id = sumAt (2 * id) L + sumAt (2 * id + 1) L := if_pos (kid_yes hk).2.2
    have g := roll_good h
    have a := addW_len (id := id) (c := pairW l L id) (rem_good (id := 2 * id + 1) (rem_good (id := 2 * id) g)) (mass_bd h id).1.1
    have r1 := rem_len (id := 2 * id) g
    have r2 := rem_len (id := 2 * id + 1) (rem_good (id := 2 * id) g)
    have s1 := rem_sum (2 * id + 1) L (2 * id)
    rw [if_neg (by omega)] at s1
    rw [(fold_is h hk).1]
    split at a <;> split at r1 <;> split at r2 <;> omega
/-- a pair that was folded is not ready -/
theorem foldW_not {l : Int} {L : List Nd} (h : RollC l L) (id most : Int) : readyB l (foldW l L id) id most = false := by
  refine decide_eq_false fun q => ?_
  by_cases hk : KidC l id
  · have e : pairW l (foldW l L id) id = sumAt (2 * id) (foldW l L id) + sumAt (2 * id + 1) (foldW l L id) := if_pos (kid_yes hk).2.2
    rw [foldW_sum h hk, foldW_sum h hk, if_pos (by omega), if_pos (by omega)] at e
    omega
  · have e : pairW l (foldW l L id) id = 0 := if_neg (by rw [(kid_no hk).2.2]; decide)
    omega
/-- the parent has all, its children nothing -/
theorem foldW_all {l : Int} {L : List Nd} (h : RollC l L) {id : Int} (h0 : pairW l L id ≠ 0) : sumAt id (foldW l L id) = allW l L id ∧ sumAt (2 * id) (foldW l L id) = 0 ∧ sumAt (2 * id + 1) (foldW l L id) = 0 := by
  have hk := pair_is h0
  have hp := kid_pos hk
  have e : pairW l L id = sumAt (2 * id) L + sumAt (2 * id + 1) L := if_pos (kid_yes hk).2.2
  have e2 : allW l L id = sumAt (2 * id) L + sumAt (2 * id + 1) L + sumAt id L := if_pos (kid_yes hk).2.2
  rw [foldW_sum h hk, foldW_sum h hk, foldW_sum h hk, if_neg (by omega), if_pos rfl, if_pos (by omega), if_pos (by omega), e, e2]
  exact ⟨by omega, rfl, rfl⟩
set_option maxHeartbeats 6400000 in
theorem walk_foldKeeps (kd l : Int) (A : Option Addr) (n c : Nat) (L : List Nd) (a b x : Int) (K0 : -9223372036854775808 ≤ kd) (K1 : kd ≤ 9223372036854775807) (L0 : -9223372036854775808 ≤ l) (L1 : l ≤ 9223372036854775807) (NB : NBds L) (m1 : n ≤ 9223372036854775807)
    (A0 : -9223372036854775808 ≤ a) (A1 : a ≤ 9223372036854775807) (I0 : -9223372036854775808 ≤ b) (I1 : b ≤ 9223372036854775807) (C0 : -9223372036854775808 ≤ x) (C1 : x ≤ 9223372036854775807) (w : World) (H1 : NodesAt w (.slice A n c) L) :
    Calls Try.prog 5 #[.int .i64 kd, .int .i64 l, .agg #[.slice A n c, .int .i64 a, .int .i64 b, .int .i64 x]] w fun e w' => e = .returned (.bool true) ∧ Below w.heap.size w w' := by
  have HV := Lib.hid H1
  have HNB : Hid (NBds L) := NB
  have HB0 : Hid (Below w.heap.size w (w.alloc (.cells #[.slice A n c, .int .i64 a, .int .i64 b, .int .i64 x] 25))) := (Below.refl _ _).alloc (Nat.le_refl _) _
  have XB0 := Lib.hid (box4 w 25 (.slice A n c) (.int .i64 a) (.int .i64 b) (.int .i64 x))
  obtain ⟨x0, x1, x2, x3⟩ := quad_cells XB0.out
  have IS := Lib.hid (fun w1 (hb : Below w.heap.size w w1) => foIs_any kd l A n c L w1 (H1.below hb) NB L0 L1)
  clear H1 NB
  by_cases hI : IsFo kd l n L
  · rw [show decide (IsFo kd l n L) = true from decide_eq_true hI] at IS
    obtain ⟨hn, hp, _, hr⟩ := hI
    have HP := Lib.hid hp
    have HRL := Lib.hid hr
    have LD := Lib.hid (fun w1 (hb : Below w.heap.size w w1) => poLoad_any kd l A n c L w1 (HV.out.below hb) HNB.out (by omega) L0 L1)
    have hRC : RollC l L := of_decide_eq_true hr
    have HRC := Lib.hid hRC
    have RTT := Lib.hid (fun w1 (hb : Below w.heap.size w w1) => rsTotal_any l A n c L w1 (HV.out.below hb) hRC (by omega))
    have hlen : L.length ≤ 60 := by have := (nodes_cells HV.out).1; omega
    have HNL := Lib.hid (nodes_cells HV.out).1
    clear hp hr hRC
    go_enter Try.func5, Try.ntmps5
    go_wp2_with fail
    generalize w.alloc (.cells #[.slice A n c, .int .i64 a, .int .i64 b, .int .i64 x] 25) = W0 at *
    refine (IS.out _ HB0.out).mono ?_
    rintro e w1 ⟨rfl, hb1⟩
    have B1 := Lib.hid (HB0.out.trans (hb1.mono HB0.out.size))
    have XB1 := Lib.hid (own_below XB0.out hb1)
    have HZ1 : Hid (w.heap.size < w1.heap.size) := (XB1.out.lt _ rfl).2
    obtain ⟨y0, y1, y2, y3⟩ := quad_cells XB1.out
    clear x0 x1 x2 x3 hb1
    go_wp2_with fail
    refine (LD.out _ B1.out).mono ?_
    rintro e w2 ⟨hb2, ⟨hi, _⟩ | ⟨_, hr, _⟩ | ⟨_, _, p, g, h, rfl, hd⟩⟩
    · rw [HP.out] at hi; cases hi
    · rw [HRL.out] at hr; cases hr
    have B2 := Lib.hid (B1.out.trans (hb2.mono B1.out.size))
    have XB2 := Lib.hid (own_below XB1.out hb2)
    obtain ⟨z0, z1, z2, z3⟩ := quad_cells XB2.out
    have D2 := Lib.hid hd
    have HZ12 : Hid (w1.heap.size ≤ w2.heap.size) := hb2.size
    clear y0 y1 y2 y3 hb2 hd
    have PMS := Lib.hid (foMass_any x w2 D2.out (by omega) C0 C1)
    go_wp2_with fail
    refine PMS.out.mono ?_
    rintro e w4 ⟨rfl, hb4⟩
    have B4 := Lib.hid (B2.out.trans (hb4.mono B2.out.size))
    have XB4 := Lib.hid (own_below XB2.out hb4)
    have D4 := Lib.hid (D2.out.below hb4)
    have HZ14 : Hid (w1.heap.size ≤ w4.heap.size) := Nat.le_trans HZ12.out hb4.size
    clear hb4 PMS z0 z1 z2 z3
    have PDO := Lib.hid (foDo_any x w4 D4.out (by omega) C0 C1)
    have m := mass_bd HRC.out x
    have FT := Lib.hid (foldW_tot HRC.out x)
    have FL := Lib.hid (foldW_len HRC.out x)
    have FN := Lib.hid (foldW_not HRC.out x a)
    have FA := Lib.hid (foldW_all HRC.out (id := x))
    have KB := Lib.hid (fun h0 => kid_bd (pair_is (l := l) (L := L) (id := x) h0) C1)
    obtain ⟨M, hM⟩ : ∃ M, M = foldW l L x := ⟨_, rfl⟩
    rw [← hM] at PDO FT FL FN FA
    clear hM
    generalize pairW l L x = pw at *
    generalize allW l L x = aw at *
    go_wp2_with fail
    refine PDO.out.mono ?_
    rintro e w5 ⟨rfl, h5, hd5, hc5, _⟩
    have lt := D4.out.lt
    have hb5 : Below w1.heap.size w4 w5 := hc5.below lt.2.1 lt.2.2.2.1 HZ14.out
    have B5 : Hid (Below w.heap.size w w5) := B4.out.trans (hb5.mono (Nat.le_of_lt HZ1.out))
    have D5 := Lib.hid hd5
    obtain ⟨q0, q1, q2, q3⟩ := quad_cells XB4.out
    have z0 := (hb5.cell (p := ⟨w.heap.size, 0, none⟩) HZ1.out).trans q0
    have z1 := (hb5.cell (p := ⟨w.heap.size, 1, none⟩) HZ1.out).trans q1
    have HZ5 : Hid (w.heap.size < w5.heap.size) := Nat.lt_of_lt_of_le HZ1.out (Nat.le_trans HZ14.out hb5.size)
    have PT := Lib.hid (fun w6 (hb : Below w5.heap.size w5 w6) => read_below (poTotal_any w6 (D5.out.below hb) (by omega)))
    have PL := Lib.hid (fun w6 (hb : Below w5.heap.size w5 w6) => read_below (poLen_any w6 (D5.out.below hb) (by omega)))
    have PR := Lib.hid (fun w6 (hb : Below w5.heap.size w5 w6) => foReady_any x a w6 (D5.out.below hb) (by omega) C0 C1)
    have RT := Lib.hid (fun w6 (hb : Below w5.heap.size w5 w6) => RTT.out w6 (B5.out.trans (hb.mono B5.out.size)))
    have PG := Lib.hid (fun id w6 (hb : Below w5.heap.size w5 w6) h0 h1 => read_below (poGet_any id w6 (D5.out.below hb) (by omega) h0 h1))
    rw [FT.out] at PT
    rw [FN.out] at PR
    have cl : decide (n < M.length) = false := decide_eq_false (by have a := FL.out; have b := HNL.out; omega)
    clear q0 q1 q2 q3 hc5 hb5 hd5 lt RTT LD IS PDO
    go_wp2_with fail
    generalize sumC L = sc at *
    generalize M.length = ml at *
    go_region_held3 (fun w' => w'.cell? ⟨w.heap.size, 0, none⟩ = some (.slice A n c) ∧ w'.cell? ⟨w.heap.size, 1, none⟩ = some (.int .i64 a) ∧ Below w5.heap.size w5 w')
      (first | assumption | (exact keep_two (by assumption) (by assumption) HZ5.out HZ5.out) | (exact ⟨z0, z1, below_drew _⟩))
      (first
        | ((with_reducible refine (PT.out _ (below_of (p := ⟨w.heap.size, 0, none⟩) (x := .slice A n c) (q := ⟨w.heap.size, 1, none⟩) (y := .int .i64 a) (by assumption))).mono ?_); rintro e v1 ⟨rfl, hbv1⟩)
        | ((with_reducible refine (PL.out _ (below_of (p := ⟨w.heap.size, 0, none⟩) (x := .slice A n c) (q := ⟨w.heap.size, 1, none⟩) (y := .int .i64 a) (by assumption))).mono ?_); rintro e v2 ⟨rfl, hbv2⟩)
        | ((with_reducible refine (PR.out _ (below_of (p := ⟨w.heap.size, 0, none⟩) (x := .slice A n c) (q := ⟨w.heap.size, 1, none⟩) (y := .int .i64 a) (by assumption))).mono ?_); rintro e v3 ⟨rfl, hbv3⟩)
        | ((with_reducible refine (RT.out _ (below_of (p := ⟨w.heap.size, 0, none⟩) (x := .slice A n c) (q := ⟨w.heap.size, 1, none⟩) (y := .int .i64 a) (by assumption))).mono ?_); rintro e v4 ⟨rfl, hbv4⟩))
    rename_i hH
    have hbb := hH.2.2
    by_cases h0 : pw = 0
    · have hz : (pw == 0) = true := beq_iff_eq.2 h0
      clear h0
      go_wp2_with (go_at_call 10; refine (foAlive_any _).mono ?_; rintro e u6 ⟨rfl, hbu6⟩)
      go_ret
      exact ⟨rfl, (B5.out.trans (hbb.mono B5.out.size)).trans (hbu6.mono (B5.out.trans (hbb.mono B5.out.size)).size)⟩
    · have hz : (pw == 0) = false := beq_eq_false_iff_ne.2 h0
      obtain ⟨g1, g2, g3⟩ := FA.out h0
      have kb := KB.out h0
      have w2 : IntKind.i64.wrap (2 * x) = 2 * x := wrap_lit rfl (by omega) (by omega)
      have w3 : IntKind.i64.wrap (2 * x + 1) = 2 * x + 1 := wrap_lit rfl (by omega) (by omega)
      have G1 := Lib.hid (fun w6 hb => PG.out x w6 hb C0 C1)
      have G2 := Lib.hid (fun w6 hb => PG.out (2 * x) w6 hb (by omega) (by omega))
      have G3 := Lib.hid (fun w6 hb => PG.out (2 * x + 1) w6 hb (by omega) (by omega))
      rw [g1] at G1
      rw [g2] at G2
      rw [g3] at G3
      have BB := Lib.hid hbb
      clear g1 g2 g3 h0 FA KB PG hbb hH
      go_wp2_with fail
      refine (G1.out _ BB.out).mono ?_
      rintro e w7 ⟨rfl, hb7⟩
      have B7 := Lib.hid (BB.out.trans (hb7.mono BB.out.size))
      clear hb7
      go_wp2_with fail
      refine (G2.out _ B7.out).mono ?_
      rintro e w8 ⟨rfl, hb8⟩
      have B8 := Lib.hid (B7.out.trans (hb8.mono B7.out.size))
      clear hb8
      go_wp2_with fail
      refine (G3.out _ B8.out).mono ?_
      rintro e w9 ⟨rfl, hb9⟩
      have B9 := Lib.hid (B5.out.trans ((B8.out.trans (hb9.mono B8.out.size)).mono B5.out.size))
      clear hb9
      go_wp2_with (go_at_call 10; refine (foAlive_any _).mono ?_; rintro e u6 ⟨rfl, hbu6⟩)
      go_ret
      exact ⟨rfl, B9.out.trans (hbu6.mono B9.out.size)⟩
  · rw [show decide (IsFo kd l n L) = false from decide_eq_false hI] at IS
    clear hI
    go_enter Try.func5, Try.ntmps5
    go_wp2_with fail
    generalize w.alloc (.cells #[.slice A n c, .int .i64 a, .int .i64 b, .int .i64 x] 25) = W0 at *
    refine (IS.out _ HB0.out).mono ?_
    rintro e w1 ⟨rfl, hb1⟩
    have B1 := Lib.hid (HB0.out.trans (hb1.mono HB0.out.size))
    clear x0 x1 x2 x3 hb1
    go_wp2_with (go_at_call 10; refine (foAlive_any _).mono ?_; rintro e u6 ⟨rfl, hbu6⟩)
    go_ret
    exact ⟨rfl, B1.out.trans (hbu6.mono B1.out.size)⟩

end Go.Proofs.Ytikiflhpicjefaa
