/- The document's answers of package dewpondref16: Low, High, Slack. -/
import Derived.Test.YtelekchdbiimiaaGreatDgQ
import Derived.Test.YtelekchdbiimiaaGreatDgR
import Derived.Test.YtelekchdbiimiaaGreatRoQ
namespace Go.Proofs.YtelekchdbiimiaaGreat
set_option linter.unusedVariables false
set_option maxRecDepth 100000
open Go.RowKit
set_option maxHeartbeats 3200000 in
theorem rRnkLow_any {l : Int} (y : Int) (A : Option Addr) (n c : Nat) (L : List Nd) (w : World) (h : NodesAt w (.slice A n c) L) (hr : RollC l L) (hn : n ≤ 1000) (K0 : -9223372036854775808 ≤ y) (K1 : y ≤ 9223372036854775807) :
    Calls Tryz.prog 103 #[.int .i64 l, .slice A n c, .int .i64 y] w fun e w' => e = .returned (.int .i64 (lowR l L y)) ∧ Below w.heap.size w w' := by
  rw [low_is]
  have u : 1 ≤ l ∧ l ≤ 48 := of_decide_eq_true hr.1
  have HL := Lib.hid (nodes_cells h).1
  have HA := Lib.hid (nodes_cells h).2.2.2
  have NB := Lib.hid (nbds_roll hr)
  have TK := Lib.hid (fun (k : Nat) hk => wtF_take (lowP l y) (L := L) (k := k) hk)
  have BD := Lib.hid (fun (k : Nat) => wtF_parts (P := lowP l y) hr k)
  clear h hr
  go_enter Tryz.func103, Tryz.ntmps103
  go_wp2_with fail
  go_loopw [7, 8] (fun x i wr => ∃ m : Nat, m ≤ n ∧ x = .int .i64 (wtF (lowP l y) (L.take m)) ∧ i = .int .i64 m ∧ Below w.heap.size w wr) (fun _ i _ => n - (intOf i).toNat)
  case atStart => exact ⟨0, by omega, rfl, rfl, Below.refl _ _⟩
  case round =>
    obtain ⟨m, hm, rfl, rfl, hb⟩ := hrel
    have BW := Lib.hid hb
    by_cases hlt : m < n
    · have hk2 : m < L.length := by have := HL.out; omega
      obtain ⟨b, o, rfl, hin⟩ := HA.out (by omega)
      obtain ⟨e0, e1⟩ := (hin.below BW.out hin.1).2 m hk2
      have HQ : Hid (b < wr.heap.size) := Nat.lt_of_lt_of_le hin.1 BW.out.size
      have hx := nbds_at NB.out hk2
      have ST := Lib.hid (TK.out m hk2)
      have b1 := BD.out m
      have b2 := BD.out (m + 1)
      clear hin hb
      generalize (L.getD m nz).1 = id at *
      generalize (L.getD m nz).2 = x at *
      generalize wtF (lowP l y) (L.take m) = s1 at *
      generalize hs2 : wtF (lowP l y) (L.take (m + 1)) = s2 at *
      have HS := Lib.hid hs2
      clear hs2
      have EN := Lib.hid (fun w => rends_any l id w (by omega) (by omega) hx.1.1 hx.1.2)
      have k0 : (0 : Int) ≤ (m : Int) := Int.natCast_nonneg _
      have k1 : (m : Int) < (n : Int) := by omega
      unfold lowP at ST
      generalize hiN l id = z at *
      by_cases hq : z ≤ y
      · have g1 : decide (z ≤ y) = true := decide_eq_true hq
        rw [g1] at ST
        have e : s2 = s1 + x := by have := ST.out; simp at this; omega
        have hw2 : IntKind.i64.wrap (s1 + x) = s1 + x := wrap_lit rfl (by omega) (by omega)
        have E := Lib.hid e
        clear hq ST e
        go_wp2_with (go_at_call 69; refine (EN.out _).mono ?_; rintro e w6 ⟨rfl, rfl⟩)
        go_roundw
        case rel => exact ⟨m + 1, by omega, by rw [HS.out, E.out], by go_num, BW.out⟩
        case measure => simp [intOf]; omega
      · have g1 : decide (z ≤ y) = false := decide_eq_false hq
        rw [g1] at ST
        have e : s2 = s1 := by have := ST.out; simp at this; omega
        subst e
        clear hq ST
        go_wp2_with (go_at_call 69; refine (EN.out _).mono ?_; rintro e w6 ⟨rfl, rfl⟩)
        go_roundw
        case rel => exact ⟨m + 1, by omega, by rw [HS.out], by go_num, BW.out⟩
        case measure => simp [intOf]; omega
    · obtain rfl : m = n := by omega
      have e : L.take m = L := List.take_of_length_le (by have := HL.out; omega)
      rw [e]
      go_wp2_with fail
      go_ret
      exact ⟨rfl, BW.out⟩
set_option maxHeartbeats 3200000 in
theorem rRnkHigh_any {l : Int} (y : Int) (A : Option Addr) (n c : Nat) (L : List Nd) (w : World) (h : NodesAt w (.slice A n c) L) (hr : RollC l L) (hn : n ≤ 1000) (K0 : -9223372036854775808 ≤ y) (K1 : y ≤ 9223372036854775807) :
    Calls Tryz.prog 104 #[.int .i64 l, .slice A n c, .int .i64 y] w fun e w' => e = .returned (.int .i64 (highR l L y)) ∧ Below w.heap.size w w' := by
  rw [high_is]
  have u : 1 ≤ l ∧ l ≤ 48 := of_decide_eq_true hr.1
  have HL := Lib.hid (nodes_cells h).1
  have HA := Lib.hid (nodes_cells h).2.2.2
  have NB := Lib.hid (nbds_roll hr)
  have TK := Lib.hid (fun (k : Nat) hk => wtF_take (highP l y) (L := L) (k := k) hk)
  have BD := Lib.hid (fun (k : Nat) => wtF_parts (P := highP l y) hr k)
  clear h hr
  go_enter Tryz.func104, Tryz.ntmps104
  go_wp2_with fail
  go_loopw [7, 8] (fun x i wr => ∃ m : Nat, m ≤ n ∧ x = .int .i64 (wtF (highP l y) (L.take m)) ∧ i = .int .i64 m ∧ Below w.heap.size w wr) (fun _ i _ => n - (intOf i).toNat)
  case atStart => exact ⟨0, by omega, rfl, rfl, Below.refl _ _⟩
  case round =>
    obtain ⟨m, hm, rfl, rfl, hb⟩ := hrel
    have BW := Lib.hid hb
    by_cases hlt : m < n
    · have hk2 : m < L.length := by have := HL.out; omega
      obtain ⟨b, o, rfl, hin⟩ := HA.out (by omega)
      obtain ⟨e0, e1⟩ := (hin.below BW.out hin.1).2 m hk2
      have HQ : Hid (b < wr.heap.size) := Nat.lt_of_lt_of_le hin.1 BW.out.size
      have hx := nbds_at NB.out hk2
      have ST := Lib.hid (TK.out m hk2)
      have b1 := BD.out m
      have b2 := BD.out (m + 1)
      clear hin hb
      generalize (L.getD m nz).1 = id at *
      generalize (L.getD m nz).2 = x at *
      generalize wtF (highP l y) (L.take m) = s1 at *
      generalize hs2 : wtF (highP l y) (L.take (m + 1)) = s2 at *
      have HS := Lib.hid hs2
      clear hs2
      have EN := Lib.hid (fun w => rends_any l id w (by omega) (by omega) hx.1.1 hx.1.2)
      have k0 : (0 : Int) ≤ (m : Int) := Int.natCast_nonneg _
      have k1 : (m : Int) < (n : Int) := by omega
      unfold highP at ST
      generalize loN l id = z at *
      by_cases hq : z ≤ y
      · have g1 : decide (z ≤ y) = true := decide_eq_true hq
        rw [g1] at ST
        have e : s2 = s1 + x := by have := ST.out; simp at this; omega
        have hw2 : IntKind.i64.wrap (s1 + x) = s1 + x := wrap_lit rfl (by omega) (by omega)
        have E := Lib.hid e
        clear hq ST e
        go_wp2_with (go_at_call 69; refine (EN.out _).mono ?_; rintro e w6 ⟨rfl, rfl⟩)
        go_roundw
        case rel => exact ⟨m + 1, by omega, by rw [HS.out, E.out], by go_num, BW.out⟩
        case measure => simp [intOf]; omega
      · have g1 : decide (z ≤ y) = false := decide_eq_false hq
        rw [g1] at ST
        have e : s2 = s1 := by have := ST.out; simp at this; omega
        subst e
        clear hq ST
        go_wp2_with (go_at_call 69; refine (EN.out _).mono ?_; rintro e w6 ⟨rfl, rfl⟩)
        go_roundw
        case rel => exact ⟨m + 1, by omega, by rw [HS.out], by go_num, BW.out⟩
        case measure => simp [intOf]; omega
    · obtain rfl : m = n := by omega
      have e : L.take m = L := List.take_of_length_le (by have := HL.out; omega)
      rw [e]
      go_wp2_with fail
      go_ret
      exact ⟨rfl, BW.out⟩
end Go.Proofs.YtelekchdbiimiaaGreat
