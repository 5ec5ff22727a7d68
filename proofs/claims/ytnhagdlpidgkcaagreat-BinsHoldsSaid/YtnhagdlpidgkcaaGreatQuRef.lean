/- The document's answers of package dewpondref17: wrong, ends, At, First, Rank. -/
import Derived.Test.YtnhagdlpidgkcaaGreatDgQ
import Derived.Test.YtnhagdlpidgkcaaGreatRnkRef
import Derived.Test.YtnhagdlpidgkcaaGreatRfQ
import Derived.Deep.Cut
namespace Go.Proofs.YtnhagdlpidgkcaaGreat
set_option linter.unusedVariables false
set_option maxRecDepth 100000
open Go.RowKit
set_option maxHeartbeats 1600000 in
theorem rQuWrong_any (r l k : Int) (A : Option Addr) (n c : Nat) (L : List Nd) (w : World) (h : NodesAt w (.slice A n c) L) (hr : RollC l L) (hn : n ≤ 1000) (R0 : -9223372036854775808 ≤ r) (R1 : r ≤ 9223372036854775807) :
    Calls Tryz.prog 90 #[.agg #[.int .i64 k, .int .i64 l, .slice A n c], .int .i64 r] w fun e w' => e = .returned (.int .i64 (wrE L r)) ∧ Below w.heap.size w w' := by
  have X0 := Lib.hid (tri_nw w 35 (.int .i64 k) (.int .i64 l) (.slice A n c))
  have HB0 : Hid (Below w.heap.size w (w.alloc (.cells #[.int .i64 k, .int .i64 l, .slice A n c] 35))) := (Below.refl _ _).alloc (Nat.le_refl _) _
  have WT := Lib.hid (fun v (hb : Below w.heap.size w v) => rDgWeight_any l k A n c L v (h.below hb) hr hn)
  have WE : Hid (wrE L r = if sumC L = 0 then 7 else if r < 1 ∨ sumC L < r then 2 else 0) := rfl
  have nn := good_nonneg (roll_good hr)
  have s0 : 0 ≤ sumC L := Int.le_trans (sum_le nn 0).1 (sum_le nn 0).2
  have s1 : sumC L ≤ 72057594037927935 := hr.2.2.2.2
  clear h hr nn
  generalize wrE L r = E at *
  generalize sumC L = s at *
  go_enter Tryz.func90, Tryz.ntmps90
  obtain ⟨x0, x1, x2, _, _, _, hz⟩ := tri_all X0.out
  go_wp2_with fail
  generalize w.alloc (.cells #[.int .i64 k, .int .i64 l, .slice A n c] 35) = W at *
  refine (WT.out _ HB0.out).mono ?_
  rintro e w1 ⟨rfl, hb1⟩
  have B1 := Lib.hid (HB0.out.trans (hb1.mono HB0.out.size))
  obtain ⟨y0, y1, y2, _, _, _, hy⟩ := tri_all (own_below X0.out hb1)
  clear hb1 x0 x1 x2 hz
  by_cases z : s = 0
  · have hE : E = 7 := by rw [WE.out, if_pos z]
    subst hE
    have z1 : (s == 0) = true := beq_iff_eq.2 z
    clear z
    go_wp2_with fail
    go_ret
    exact ⟨rfl, B1.out⟩
  · have z1 : (s == 0) = false := beq_eq_false_iff_ne.2 z
    by_cases r1 : r < 1
    · have hE : E = 2 := by rw [WE.out, if_neg z, if_pos (.inl r1)]
      subst hE
      clear z
      go_wp2_with fail
      go_ret
      exact ⟨rfl, B1.out⟩
    · by_cases r2 : s < r
      · have hE : E = 2 := by rw [WE.out, if_neg z, if_pos (.inr r2)]
        subst hE
        clear z
        go_wp2_with (go_at_call 46; refine (WT.out _ B1.out).mono ?_; rintro e w2 ⟨rfl, hb2⟩)
        go_ret
        exact ⟨rfl, B1.out.trans (hb2.mono B1.out.size)⟩
      · have hE : E = 0 := by rw [WE.out, if_neg z, if_neg (by omega)]
        subst hE
        clear z
        go_wp2_with (go_at_call 46; refine (WT.out _ B1.out).mono ?_; rintro e w2 ⟨rfl, hb2⟩)
        go_ret
        exact ⟨rfl, B1.out.trans (hb2.mono B1.out.size)⟩
theorem best_zero (e : Int → Int) (A : List Nd) (r : Int) : bestE e A r (A.take 0) = -1 := rfl
theorem best_bd {l : Int} {L : List Nd} (hr : RollC l L) (r : Int) : ∀ k, k ≤ L.length → (-1 ≤ bestE (hiN l) L r (L.take k) ∧ bestE (hiN l) L r (L.take k) ≤ 281474976710656) ∧ (-1 ≤ bestE (loN l) L r (L.take k) ∧ bestE (loN l) L r (L.take k) ≤ 281474976710656)
  | 0, _ => ⟨⟨by rw [best_zero]; omega, by rw [best_zero]; omega⟩, by rw [best_zero]; omega, by rw [best_zero]; omega⟩
  | k + 1, h => by
    have ih := best_bd hr r k (by omega)
    have u : 1 ≤ l ∧ l ≤ 48 := of_decide_eq_true hr.1
    have p : (2 : Int) ^ l.toNat ≤ 281474976710656 := two_le l.toNat 48 (by omega)
    have ne := node_ends hr (nd_mem (show k < L.length by omega))
    rw [best_take _ _ _ (by omega), best_take _ _ _ (by omega)]
    unfold bestS
    refine ⟨?_, ?_⟩ <;> split <;> omega
set_option maxHeartbeats 3200000 in
theorem rQuEnds_lo {l : Int} (r : Int) (A : Option Addr) (n c : Nat) (L : List Nd) (w : World) (h : NodesAt w (.slice A n c) L) (hr : RollC l L) (hn : n ≤ 1000) (R0 : -9223372036854775808 ≤ r) (R1 : r ≤ 9223372036854775807) :
    Calls Tryz.prog 91 #[.int .i64 l, .slice A n c, .int .i64 r, .bool false] w fun e w' => e = .returned (.int .i64 (bestE (hiN l) L r L)) ∧ Below w.heap.size w w' := by
  have u : 1 ≤ l ∧ l ≤ 48 := of_decide_eq_true hr.1
  have HL := Lib.hid (nodes_cells h).1
  have HA := Lib.hid (nodes_cells h).2.2.2
  have NB := Lib.hid (nbds_roll hr)
  have BB := Lib.hid (best_bd hr r)
  have LB := Lib.hid (low_bd hr)
  have TK := Lib.hid (fun (k : Nat) hk => best_take (hiN l) L r (P := L) (k := k) hk)
  have LO := Lib.hid (fun v y (hb : Below w.heap.size w v) a b => rRnkLow_any (l := l) y A n c L v (h.below hb) hr hn a b)
  have p : (2 : Int) ^ l.toNat ≤ 281474976710656 := two_le l.toNat 48 (by omega)
  have NE := Lib.hid (fun (k : Nat) (hk : k < L.length) => (show 0 ≤ loN l (L.getD k nz).1 ∧ loN l (L.getD k nz).1 ≤ 281474976710656 ∧ 0 ≤ hiN l (L.getD k nz).1 ∧ hiN l (L.getD k nz).1 ≤ 281474976710656 by have := node_ends hr (nd_mem hk); omega))
  clear h hr p
  go_enter Tryz.func91, Tryz.ntmps91
  go_wp2_with fail
  go_loopw [9, 10] (fun x i wr => ∃ m : Nat, m ≤ n ∧ x = .int .i64 (bestE (hiN l) L r (L.take m)) ∧ i = .int .i64 m ∧ Below w.heap.size w wr) (fun _ i _ => n - (intOf i).toNat)
  case atStart => exact ⟨0, by omega, rfl, rfl, Below.refl _ _⟩
  case round =>
    obtain ⟨m, hm, rfl, rfl, hb⟩ := hrel
    have BW := Lib.hid hb
    by_cases hlt : m < n
    · have hk2 : m < L.length := by have := HL.out; omega
      obtain ⟨b, o, rfl, hin⟩ := HA.out (by omega)
      obtain ⟨e0, e1⟩ := (hin.below BW.out hin.1).2 m hk2
      have HQ : Hid (b < wr.heap.size) := Nat.lt_of_lt_of_le hin.1 BW.out.size
      have hx := nbds_at NB.out hk2
      have ne := NE.out m hk2
      have ST := Lib.hid (TK.out m hk2)
      unfold bestS at ST
      rw [← low_wtE] at ST
      have b1 := (BB.out m (by omega)).1
      have b2 := (BB.out (m + 1) (by omega)).1
      clear hin hb
      generalize (L.getD m nz).1 = id at *
      generalize (L.getD m nz).2 = x at *
      have lb := LB.out (hiN l id)
      have LOW := Lib.hid (LO.out wr (hiN l id) BW.out (by omega) (by omega))
      have k0 : (0 : Int) ≤ (m : Int) := Int.natCast_nonneg _
      have k1 : (m : Int) < (n : Int) := by omega
      have EN := Lib.hid (fun w => rends_any l id w (by omega) (by omega) hx.1.1 hx.1.2)
      generalize loN l id = lo at *
      generalize hiN l id = z at *
      generalize lowR l L z = wt at *
      generalize bestE (hiN l) L r (L.take m) = s1 at *
      generalize hs2 : bestE (hiN l) L r (L.take (m + 1)) = s2 at *
      have HS := Lib.hid hs2
      clear hs2
      rcases (show (r ≤ wt ∧ s1 < 0) ∨ (r ≤ wt ∧ ¬ s1 < 0 ∧ z < s1) ∨ (r ≤ wt ∧ ¬ s1 < 0 ∧ ¬ z < s1) ∨ ¬ r ≤ wt by omega) with ⟨q1, q2⟩ | ⟨q1, q2, q3⟩ | ⟨q1, q2, q3⟩ | q1
      · have e : Hid (s2 = z) := by show _ = _; rw [ST.out, if_pos ⟨q1, .inl q2⟩]
        clear ST
        go_wp2_with (first | (go_at_call 79; refine (EN.out _).mono ?_; rintro e w6 ⟨rfl, rfl⟩) | (go_at_call 74; refine LOW.out.mono ?_; rintro e w7 ⟨rfl, hb7⟩))
        go_roundw
        case rel => exact ⟨m + 1, by omega, by rw [HS.out, e.out], by go_num, BW.out.trans (hb7.mono BW.out.size)⟩
        case measure => simp [intOf]; omega
      · have e : Hid (s2 = z) := by show _ = _; rw [ST.out, if_pos ⟨q1, .inr q3⟩]
        clear ST
        go_wp2_with (first | (go_at_call 79; refine (EN.out _).mono ?_; rintro e w6 ⟨rfl, rfl⟩) | (go_at_call 74; refine LOW.out.mono ?_; rintro e w7 ⟨rfl, hb7⟩))
        go_roundw
        case rel => exact ⟨m + 1, by omega, by rw [HS.out, e.out], by go_num, BW.out.trans (hb7.mono BW.out.size)⟩
        case measure => simp [intOf]; omega
      · have e : Hid (s2 = s1) := by show _ = _; rw [ST.out, if_neg (by omega)]
        clear ST
        go_wp2_with (first | (go_at_call 79; refine (EN.out _).mono ?_; rintro e w6 ⟨rfl, rfl⟩) | (go_at_call 74; refine LOW.out.mono ?_; rintro e w7 ⟨rfl, hb7⟩))
        go_roundw
        case rel => exact ⟨m + 1, by omega, by rw [HS.out, e.out], by go_num, BW.out.trans (hb7.mono BW.out.size)⟩
        case measure => simp [intOf]; omega
      · have e : Hid (s2 = s1) := by show _ = _; rw [ST.out, if_neg (by omega)]
        clear ST
        go_wp2_with (first | (go_at_call 79; refine (EN.out _).mono ?_; rintro e w6 ⟨rfl, rfl⟩) | (go_at_call 74; refine LOW.out.mono ?_; rintro e w7 ⟨rfl, hb7⟩))
        go_roundw
        case rel => exact ⟨m + 1, by omega, by rw [HS.out, e.out], by go_num, BW.out.trans (hb7.mono BW.out.size)⟩
        case measure => simp [intOf]; omega
    · obtain rfl : m = n := by omega
      have e : L.take m = L := List.take_of_length_le (by have := HL.out; omega)
      rw [e]
      go_wp2_with fail
      go_ret
      exact ⟨rfl, BW.out⟩
set_option maxHeartbeats 1600000 in
theorem rQuAt_any (r l k : Int) (A : Option Addr) (n c : Nat) (L : List Nd) (w : World) (h : NodesAt w (.slice A n c) L) (hr : RollC l L) (hn : n ≤ 1000) (R0 : -9223372036854775808 ≤ r) (R1 : r ≤ 9223372036854775807) :
    Calls Tryz.prog 48 #[.agg #[.int .i64 k, .int .i64 l, .slice A n c], .int .i64 r] w fun e w' => e = .returned (.tuple #[.int .i64 (qaA l L r), .int .i64 (wrE L r)]) ∧ Below w.heap.size w w' := by
  have X0 := Lib.hid (tri_nw w 35 (.int .i64 k) (.int .i64 l) (.slice A n c))
  have HB0 : Hid (Below w.heap.size w (w.alloc (.cells #[.int .i64 k, .int .i64 l, .slice A n c] 35))) := (Below.refl _ _).alloc (Nat.le_refl _) _
  have WR := Lib.hid (rQuWrong_any r l k A n c L _ (h.below HB0.out) hr hn R0 R1)
  have EN := Lib.hid (fun v (hb : Below w.heap.size w v) => rQuEnds_lo (l := l) r A n c L v (h.below hb) hr hn R0 R1)
  have YES := Lib.hid (fun (z : wrE L r = 0) => qaA_yes (l := l) z)
  have NO := Lib.hid (fun (z : ¬ wrE L r = 0) => qaA_no (l := l) z)
  have bd := wrE_bd L r
  have AT : Hid (bestE (hiN l) L r L = atN l L r) := rfl
  rw [AT.out] at EN
  clear h hr
  generalize wrE L r = E at *
  generalize qaA l L r = q at *
  generalize atN l L r = a at *
  obtain ⟨x0, x1, x2, _, _, _, hz⟩ := tri_all X0.out
  by_cases z : E = 0
  · have hq := YES.out z
    subst hq z
    clear YES NO bd
    go_enter Tryz.func48, Tryz.ntmps48
    go_wp2_with fail
    generalize w.alloc (.cells #[.int .i64 k, .int .i64 l, .slice A n c] 35) = W at *
    refine WR.out.mono ?_
    rintro e w1 ⟨rfl, hb1⟩
    have B1 := Lib.hid (HB0.out.trans (hb1.mono HB0.out.size))
    obtain ⟨y0, y1, y2, _, _, _, hy⟩ := tri_all (own_below X0.out hb1)
    clear hb1 x0 x1 x2 hz
    go_wp2_with (go_at_call 91; refine (EN.out _ B1.out).mono ?_; rintro e w2 ⟨rfl, hb2⟩)
    go_ret2
    exact ⟨rfl, B1.out.trans (hb2.mono B1.out.size)⟩
  · have hq := NO.out z
    subst hq
    have z1 : (E != 0) = true := bne_iff_ne.2 z
    clear YES NO z
    go_enter Tryz.func48, Tryz.ntmps48
    go_wp2_with (go_at_call 90; refine WR.out.mono ?_; rintro e w1 ⟨rfl, hb1⟩)
    go_ret2
    exact ⟨rfl, HB0.out.trans (hb1.mono HB0.out.size)⟩
end Go.Proofs.YtnhagdlpidgkcaaGreat
