/- The document's answer of package dewpondref13: Above. -/
import Derived.Test.YtachfeclgdgbiaaGreatDgN
import Derived.Test.YtachfeclgdgbiaaGreatFoR
namespace Go.Proofs.YtachfeclgdgbiaaGreat
set_option linter.unusedVariables false
set_option maxRecDepth 100000
open Go.RowKit

set_option maxHeartbeats 3200000 in
theorem rDgAbove_any {l : Int} (a : Int) (A : Option Addr) (n c : Nat) (L : List Nd) (w : World) (h : NodesAt w (.slice A n c) L) (hr : RollC l L) (hn : n ≤ 1000) (K0 : -9223372036854775808 ≤ a) (K1 : a ≤ 9223372036854775807) :
    Calls Tryz.prog 56 #[.slice A n c, .int .i64 a] w fun e w' => e = .returned (.int .i64 (wtF (overB a) L)) ∧ Below w.heap.size w w' := by
  have HL := Lib.hid (nodes_cells h).1
  have HA := Lib.hid (nodes_cells h).2.2.2
  have NB := Lib.hid (nbds_roll hr)
  have TK := Lib.hid (fun (k : Nat) hk => wtF_take (overB a) (L := L) (k := k) hk)
  have GD := Lib.hid (good_nonneg (roll_good hr))
  have SC := Lib.hid (show sumC L ≤ 72057594037927935 from hr.2.2.2.2)
  have BD : Hid (∀ k : Nat, 0 ≤ wtF (overB a) (L.take k) ∧ wtF (overB a) (L.take k) ≤ 72057594037927935) := fun k => by
    have nn : NonNeg L := GD.out
    have b := wtF_bd (overB a) (L := L.take k) fun m hm => nn m (List.mem_of_mem_take hm)
    have e : sumC (L.take k) + sumC (L.drop k) = sumC L := by rw [← sumC_app, List.take_append_drop]
    have b2 := wtF_bd (fun _ => true) (L := L.drop k) fun m hm => nn m (List.mem_of_mem_drop hm)
    rw [wtF_all] at b2
    have s := SC.out
    exact ⟨b.1, by omega⟩
  clear h hr
  go_enter Tryz.func56, Tryz.ntmps56
  go_wp2_with fail
  go_loopw [5, 6] (fun x i wr => ∃ m : Nat, m ≤ n ∧ x = .int .i64 (wtF (overB a) (L.take m)) ∧ i = .int .i64 m ∧ Below w.heap.size w wr) (fun _ i _ => n - (intOf i).toNat)
  case atStart => exact ⟨0, by omega, rfl, rfl, Below.refl _ _⟩
  case round =>
    obtain ⟨m, hm, rfl, rfl, hb⟩ := hrel
    have BW := Lib.hid hb
    by_cases hlt : m < n
    · have hk2 : m < L.length := by have := HL.out; omega
      obtain ⟨b, o, rfl, hin⟩ := HA.out (by omega)
      obtain ⟨e0, e1⟩ := (hin.below BW.out hin.1).2 m hk2
      have HQ : Hid (b < wr.heap.size) := Nat.lt_of_lt_of_le hin.1 BW.out.size
      have hx := nbds_at NB.out hk2
      have ST := Lib.hid (TK.out m hk2)
      have b1 := BD.out m
      have b2 := BD.out (m + 1)
      clear hin hb
      generalize (L.getD m nz).1 = x at *
      generalize (L.getD m nz).2 = y at *
      generalize wtF (overB a) (L.take m) = s1 at *
      generalize hs2 : wtF (overB a) (L.take (m + 1)) = s2 at *
      have HS := Lib.hid hs2
      clear hs2
      have AB := Lib.hid (fun w => rabove_any x a w hx.1.1 hx.1.2 K0 K1)
      have k0 : (0 : Int) ≤ (m : Int) := Int.natCast_nonneg _
      have k1 : (m : Int) < (n : Int) := by omega
      unfold overB at ST
      by_cases hxa : x = a
      · have g1 : (x == a) = true := beq_iff_eq.2 hxa
        have g2 : (x != a) = false := by simp [hxa]
        rw [g1] at ST
        have e : s2 = s1 := by have := ST.out; simp at this; omega
        subst e
        clear hxa ST
        go_wp2_with fail
        go_roundw
        case rel => exact ⟨m + 1, by omega, by rw [HS.out], by go_num, BW.out⟩
        case measure => simp [intOf]; omega
      · have g1 : (x == a) = false := beq_eq_false_iff_ne.2 hxa
        have g2 : (x != a) = true := bne_iff_ne.2 hxa
        rw [g1] at ST
        cases hq : aboveB x a
        · rw [hq] at AB ST
          have e : s2 = s1 := by have := ST.out; simp at this; omega
          subst e
          clear hq hxa ST
          go_wp2_with (go_at_call 87; refine (AB.out _).mono ?_; rintro e w6 ⟨rfl, rfl⟩)
          go_roundw
          case rel => exact ⟨m + 1, by omega, by rw [HS.out], by go_num, BW.out⟩
          case measure => simp [intOf]; omega
        · rw [hq] at AB ST
          have e : s2 = s1 + y := by have := ST.out; simp at this; omega
          have hw2 : IntKind.i64.wrap (s1 + y) = s1 + y := wrap_lit rfl (by omega) (by omega)
          have E := Lib.hid e
          clear hq hxa ST e
          go_wp2_with (go_at_call 87; refine (AB.out _).mono ?_; rintro e w6 ⟨rfl, rfl⟩)
          go_roundw
          case rel => exact ⟨m + 1, by omega, by rw [HS.out, E.out], by go_num, BW.out⟩
          case measure => simp [intOf]; omega
    · obtain rfl : m = n := by omega
      have e : L.take m = L := List.take_of_length_le (by have := HL.out; omega)
      rw [e]
      go_wp2_with fail
      go_ret
      exact ⟨rfl, BW.out⟩

end Go.Proofs.YtachfeclgdgbiaaGreat
