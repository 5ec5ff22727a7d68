/- The document's answers of package dewpondref16: Low, High, Slack. -/
import Derived.Test.YtfmgcabgbnfjlaaRnkNum
import Derived.Test.YtfmgcabgbnfjlaaDgR
import Derived.Test.YtfmgcabgbnfjlaaRrQ
namespace Go.Proofs.Ytfmgcabgbnfjlaa
set_option linter.unusedVariables false
set_option maxRecDepth 100000
open Go.RowKit

set_option maxHeartbeats 3200000 in
theorem rRnkLow_any {l : Int} (y : Int) (A : Option Addr) (n c : Nat) (L : List Nd) (w : World) (h : NodesAt w (.slice A n c) L) (hr : RollC l L) (hn : n ≤ 1000) (K0 : -9223372036854775808 ≤ y) (K1 : y ≤ 9223372036854775807) :
    Calls Try.prog 10 #[.int .i64 l, .slice A n c, .int .i64 y] w fun e w' => e = .returned (.int .i64 (lowR l L y)) ∧ Below w.heap.size w w' := by
  rw [low_is]
  have u : 1 ≤ l ∧ l ≤ 48 := of_decide_eq_true hr.1
  have HL := Lib.hid (nodes_cells h).1
  have HA := Lib.hid (nodes_cells h).2.2.2
  have NB := Lib.hid (nbds_roll hr)
  have TK := Lib.hid (fun (k : Nat) hk => wtF_take (lowP l y) (L := L) (k := k) hk)
  have BD := Lib.hid (fun (k : Nat) => wtF_parts (P := lowP l y) hr k)
  clear h hr
  go_enter Try.func10, Try.ntmps10
  go_wp2_with fail
  go_loopw [7, 8] (fun x i wr => ∃ m : Nat, m ≤ n ∧ x = .int .i64 (wtF (lowP l y) (L.take m)) ∧ i = .int .i64 m ∧ Below w.heap.size w wr) (fun _ i _ => n - (intOf i).toNat)
  case atStart => exact ⟨0, by omega, rfl, rfl, Below.refl _ _⟩
  case round =>
    obtain ⟨m, hm, rfl, rfl, hb⟩ := hrel
    have BW := Lib.hid hb
    by_cases hlt : m < n
    · have hk2 : m < L.length := by have := HL.out; omega
      obtain ⟨b, o, rfl, hin⟩ := HA.out (by omega)
      obtain ⟨e0, e1⟩ := (hin.below BW.out hin.1).2 m hk2
      have HQ : Hid (b < wr.heap.size) := Nat.lt_of_lt_of_le hin.1 BW.out.size
      have hx := nbds_at NB.out hk2
      have ST := Lib.hid (TK.out m hk2)
      have b1 := BD.out m
      have b2 := BD.out (m + 1)
      clear hin hb
      generalize (L.getD m nz).1 = id at *
      generalize (L.getD m nz).2 = x at *
      generalize wtF (lowP l y) (L.take m) = s1 at *
      generalize hs2 : wtF (lowP l y) (L.take (m + 1)) = s2 at *
      have HS := Lib.hid hs2
      clear hs2
      have EN := Lib.hid (fun w => rends_any l id w (by omega) (by omega) hx.1.1 hx.1.2)
      have k0 : (0 : Int) ≤ (m : Int) := Int.natCast_nonneg _
      have k1 : (m : Int) < (n : Int) := by omega
      unfold lowP at ST
      generalize hiN l id = z at *
      by_cases hq : z ≤ y
      · have g1 : decide (z ≤ y) = true := decide_eq_true hq
        rw [g1] at ST
        have e : s2 = s1 + x := by have := ST.out; simp at this; omega
        have hw2 : IntKind.i64.wrap (s1 + x) = s1 + x := wrap_lit rfl (by omega) (by omega)
        have E := Lib.hid e
        clear hq ST e
        go_wp2_with (go_at_call 22; refine (EN.out _).mono ?_; rintro e w6 ⟨rfl, rfl⟩)
        go_roundw
        case rel => exact ⟨m + 1, by omega, by rw [HS.out, E.out], by go_num, BW.out⟩
        case measure => simp [intOf]; omega
      · have g1 : decide (z ≤ y) = false := decide_eq_false hq
        rw [g1] at ST
        have e : s2 = s1 := by have := ST.out; simp at this; omega
        subst e
        clear hq ST
        go_wp2_with (go_at_call 22; refine (EN.out _).mono ?_; rintro e w6 ⟨rfl, rfl⟩)
        go_roundw
        case rel => exact ⟨m + 1, by omega, by rw [HS.out], by go_num, BW.out⟩
        case measure => simp [intOf]; omega
    · obtain rfl : m = n := by omega
      have e : L.take m = L := List.take_of_length_le (by have := HL.out; omega)
      rw [e]
      go_wp2_with fail
      go_ret
      exact ⟨rfl, BW.out⟩
set_option maxHeartbeats 3200000 in
theorem rRnkHigh_any {l : Int} (y : Int) (A : Option Addr) (n c : Nat) (L : List Nd) (w : World) (h : NodesAt w (.slice A n c) L) (hr : RollC l L) (hn : n ≤ 1000) (K0 : -9223372036854775808 ≤ y) (K1 : y ≤ 9223372036854775807) :
    Calls Try.prog 11 #[.int .i64 l, .slice A n c, .int .i64 y] w fun e w' => e = .returned (.int .i64 (highR l L y)) ∧ Below w.heap.size w w' := by
  rw [high_is]
  have u : 1 ≤ l ∧ l ≤ 48 := of_decide_eq_true hr.1
  have HL := Lib.hid (nodes_cells h).1
  have HA := Lib.hid (nodes_cells h).2.2.2
  have NB := Lib.hid (nbds_roll hr)
  have TK := Lib.hid (fun (k : Nat) hk => wtF_take (highP l y) (L := L) (k := k) hk)
  have BD := Lib.hid (fun (k : Nat) => wtF_parts (P := highP l y) hr k)
  clear h hr
  go_enter Try.func11, Try.ntmps11
  go_wp2_with fail
  go_loopw [7, 8] (fun x i wr => ∃ m : Nat, m ≤ n ∧ x = .int .i64 (wtF (highP l y) (L.take m)) ∧ i = .int .i64 m ∧ Below w.heap.size w wr) (fun _ i _ => n - (intOf i).toNat)
  case atStart => exact ⟨0, by omega, rfl, rfl, Below.refl _ _⟩
  case round =>
    obtain ⟨m, hm, rfl, rfl, hb⟩ := hrel
    have BW := Lib.hid hb
    by_cases hlt : m < n
    · have hk2 : m < L.length := by have := HL.out; omega
      obtain ⟨b, o, rfl, hin⟩ := HA.out (by omega)
      obtain ⟨e0, e1⟩ := (hin.below BW.out hin.1).2 m hk2
      have HQ : Hid (b < wr.heap.size) := Nat.lt_of_lt_of_le hin.1 BW.out.size
      have hx := nbds_at NB.out hk2
      have ST := Lib.hid (TK.out m hk2)
      have b1 := BD.out m
      have b2 := BD.out (m + 1)
      clear hin hb
      generalize (L.getD m nz).1 = id at *
      generalize (L.getD m nz).2 = x at *
      generalize wtF (highP l y) (L.take m) = s1 at *
      generalize hs2 : wtF (highP l y) (L.take (m + 1)) = s2 at *
      have HS := Lib.hid hs2
      clear hs2
      have EN := Lib.hid (fun w => rends_any l id w (by omega) (by omega) hx.1.1 hx.1.2)
      have k0 : (0 : Int) ≤ (m : Int) := Int.natCast_nonneg _
      have k1 : (m : Int) < (n : Int) := by omega
      unfold highP at ST
      generalize loN l id = z at *
      by_cases hq : z ≤ y
      · have g1 : decide (z ≤ y) = true := decide_eq_true hq
        rw [g1] at ST
        have e : s2 = s1 + x := by have := ST.out; simp at this; omega
        have hw2 : IntKind.i64.wrap (s1 + x) = s1 + x := wrap_lit rfl (by omega) (by omega)
        have E := Lib.hid e
        clear hq ST e
        go_wp2_with (go_at_call 22; refine (EN.out _).mono ?_; rintro e w6 ⟨rfl, rfl⟩)
        go_roundw
        case rel => exact ⟨m + 1, by omega, by rw [HS.out, E.out], by go_num, BW.out⟩
        case measure => simp [intOf]; omega
      · have g1 : decide (z ≤ y) = false := decide_eq_false hq
        rw [g1] at ST
        have e : s2 = s1 := by have := ST.out; simp at this; omega
        subst e
        clear hq ST
        go_wp2_with (go_at_call 22; refine (EN.out _).mono ?_; rintro e w6 ⟨rfl, rfl⟩)
        go_roundw
        case rel => exact ⟨m + 1, by omega, by rw [HS.out], by go_num, BW.out⟩
        case measure => simp [intOf]; omega
    · obtain rfl : m = n := by omega
      have e : L.take m = L := List.take_of_length_le (by have := HL.out; omega)
      rw [e]
      go_wp2_with fail
      go_ret
      exact ⟨rfl, BW.out⟩
set_option maxHeartbeats 1600000 in
theorem rRnkSlack_any (l k : Int) (A : Option Addr) (n c : Nat) (L : List Nd) (w : World) (h : NodesAt w (.slice A n c) L) (hv : DgV l k L) (hn : n ≤ 1000) :
    Calls Try.prog 12 #[.agg #[.int .i64 k, .int .i64 l, .slice A n c]] w fun e w' => e = .returned (.int .i64 (slackN l k L)) ∧ Below w.heap.size w w' := by
  have HB0 : Hid (Below w.heap.size w (w.alloc (.cells #[.int .i64 k, .int .i64 l, .slice A n c] 33))) := (Below.refl _ _).alloc (Nat.le_refl _) _
  obtain ⟨x0, x1, x2, _, _, _, hz⟩ := tri_all (tri_new w 33 (.int .i64 k) (.int .i64 l) (.slice A n c))
  have u : 1 ≤ l ∧ l ≤ 48 := of_decide_eq_true hv.roll.1
  have sb := slack_bd hv
  have CP := Lib.hid (fun v (hb : Below w.heap.size w v) => rDgCap_any l k A n c L v (h.below hb) hv.roll hn hv.k1 hv.k2)
  have HW : IntKind.i64.wrap (l * (sumC L / k)) = slackN l k L := wrap_lit rfl (by have := sb.2.2; unfold slackN at this; omega) (by have := sb.2.2; unfold slackN at this; omega)
  have HW2 : wrap64 (l * (sumC L / k)) = slackN l k L := IntWalk.wrap64_in _ (by have := sb.2.2; unfold slackN at this; omega)
  generalize sumC L / k = cap at *
  clear h hv
  go_enter Try.func12, Try.ntmps12
  go_wp2_with fail
  generalize w.alloc (.cells #[.int .i64 k, .int .i64 l, .slice A n c] 33) = W at *
  have HZ := Lib.hid hz
  have CPW := Lib.hid (fun v (hb : Below W.heap.size W v) => (CP.out v (HB0.out.trans (hb.mono HB0.out.size))))
  go_region_held3 (fun w' => w'.cell? ⟨w.heap.size, 0, none⟩ = some (.int .i64 k) ∧ w'.cell? ⟨w.heap.size, 1, none⟩ = some (.int .i64 l) ∧ w'.cell? ⟨w.heap.size, 2, none⟩ = some (.slice A n c) ∧ Below W.heap.size W w')
    (first | assumption | (exact keep_three (by assumption) (by assumption) HZ.out HZ.out HZ.out) | (exact ⟨x0, x1, x2, below_drew _⟩))
    (first | (go_at_call 23; (with_reducible refine (CPW.out _ (dgBelow3 (p := ⟨w.heap.size, 0, none⟩) (x := .int .i64 k) (q := ⟨w.heap.size, 1, none⟩) (y := .int .i64 l) (r := ⟨w.heap.size, 2, none⟩) (z := .slice A n c) (by assumption))).mono ?_); rintro e v1 ⟨rfl, hbv1⟩))
  rename_i hH
  have hbb := hH.2.2.2
  go_wp2_with fail
  go_ret
  exact ⟨rfl, HB0.out.trans (hbb.mono HB0.out.size)⟩

end Go.Proofs.Ytfmgcabgbnfjlaa
