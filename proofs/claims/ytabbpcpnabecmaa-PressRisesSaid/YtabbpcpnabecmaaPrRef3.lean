/- The document's answer of package dewpondref12: Below. -/
import Derived.Test.YtabbpcpnabecmaaPrNum4
import Derived.Test.YtabbpcpnabecmaaFoR
namespace Go.Proofs.Ytabbpcpnabecmaa
set_option linter.unusedVariables false
set_option maxRecDepth 100000
open Go.RowKit

set_option maxHeartbeats 3200000 in
theorem rPrBelow_any (l a : Int) (A : Option Addr) (n c : Nat) (L : List Nd) (w : World) (h : NodesAt w (.slice A n c) L) (hr : RollC l L) (hn : n ≤ 1000) (K0 : -9223372036854775808 ≤ a) (K1 : a ≤ 9223372036854775807) :
    Calls Try.prog 17 #[.agg #[.int .i64 l, .slice A n c], .int .i64 a] w fun e w' => e = .returned (.int .i64 (belN a L)) ∧ Below w.heap.size w w' := by
  have HB0 : Hid (Below w.heap.size w (w.alloc (.cells #[.int .i64 l, .slice A n c] 28))) := (Below.refl _ _).alloc (Nat.le_refl _) _
  have XR := Lib.hid (foBx2 w 28 (.int .i64 l) (.slice A n c))
  have HL := Lib.hid (nodes_cells h).1
  have HA := Lib.hid (nodes_cells h).2.2.2
  have NB := Lib.hid (nbds_roll hr)
  have TK := Lib.hid (fun (k : Nat) hk => wtF_take (aboveB a) (L := L) (k := k) hk)
  have GD := Lib.hid (good_nonneg (roll_good hr))
  have SC := Lib.hid (show sumC L ≤ 72057594037927935 from hr.2.2.2.2)
  have BD : Hid (∀ k : Nat, 0 ≤ wtF (aboveB a) (L.take k) ∧ wtF (aboveB a) (L.take k) ≤ 72057594037927935) := fun k => by
    have nn : NonNeg L := GD.out
    have b := wtF_bd (aboveB a) (L := L.take k) fun m hm => nn m (List.mem_of_mem_take hm)
    have e : sumC (L.take k) + sumC (L.drop k) = sumC L := by rw [← sumC_app, List.take_append_drop]
    have b2 := wtF_bd (fun _ => true) (L := L.drop k) fun m hm => nn m (List.mem_of_mem_drop hm)
    rw [wtF_all] at b2
    have s := SC.out
    exact ⟨b.1, by omega⟩
  clear h hr
  go_enter Try.func17, Try.ntmps17
  go_wp2_with fail
  generalize w.alloc (.cells #[.int .i64 l, .slice A n c] 28) = W at *
  go_loopw [5, 6] (fun x i wr => ∃ m : Nat, m ≤ n ∧ x = .int .i64 (wtF (aboveB a) (L.take m)) ∧ i = .int .i64 m ∧ Below W.heap.size W wr) (fun _ i _ => n - (intOf i).toNat)
  case atStart => exact ⟨0, by omega, rfl, rfl, Below.refl _ _⟩
  case round =>
    obtain ⟨m, hm, rfl, rfl, hb⟩ := hrel
    have BB := Lib.hid hb
    have BW := Lib.hid (HB0.out.trans (hb.mono HB0.out.size))
    obtain ⟨x0, x1, _, _, hz⟩ := box_cells (own_below XR.out hb)
    have HZ := Lib.hid hz
    clear hb hz
    by_cases hlt : m < n
    · have hk2 : m < L.length := by have := HL.out; omega
      obtain ⟨b, o, rfl, hin⟩ := HA.out (by omega)
      obtain ⟨e0, e1⟩ := (hin.below BW.out hin.1).2 m hk2
      have HQ : Hid (b < wr.heap.size) := Nat.lt_of_lt_of_le hin.1 BW.out.size
      have hx := nbds_at NB.out hk2
      have ST := Lib.hid (TK.out m hk2)
      have b1 := BD.out m
      have b2 := BD.out (m + 1)
      have hw := TK.out m hk2
      clear hin
      generalize (L.getD m nz).1 = x at *
      generalize (L.getD m nz).2 = y at *
      generalize wtF (aboveB a) (L.take m) = s1 at *
      generalize hs2 : wtF (aboveB a) (L.take (m + 1)) = s2 at *
      have HS := Lib.hid hs2
      clear hs2
      have AB := Lib.hid (fun w => rabove_any a x w K0 K1 hx.1.1 hx.1.2)
      have k0 : (0 : Int) ≤ (m : Int) := Int.natCast_nonneg _
      have k1 : (m : Int) < (n : Int) := by omega
      cases hq : aboveB a x
      · rw [hq] at AB ST
        have e : s2 = s1 := by have := ST.out; simp at this; omega
        subst e
        clear hq hw ST
        go_wp2_with (go_at_call 39; refine (AB.out _).mono ?_; rintro e w6 ⟨rfl, rfl⟩)
        go_roundw
        case rel => exact ⟨m + 1, by omega, by rw [HS.out], by go_num, BB.out⟩
        case measure => simp [intOf]; omega
      · rw [hq] at AB ST
        have e : s2 = s1 + y := by have := ST.out; simp at this; omega
        have hw2 : IntKind.i64.wrap (s1 + y) = s1 + y := wrap_lit rfl (by omega) (by omega)
        have E := Lib.hid e
        clear hq hw ST e
        go_wp2_with (go_at_call 39; refine (AB.out _).mono ?_; rintro e w6 ⟨rfl, rfl⟩)
        go_roundw
        case rel => exact ⟨m + 1, by omega, by rw [HS.out, E.out], by go_num, BB.out⟩
        case measure => simp [intOf]; omega
    · obtain rfl : m = n := by omega
      have e : L.take m = L := List.take_of_length_le (by have := HL.out; omega)
      rw [e]
      go_wp2_with fail
      go_ret
      exact ⟨rfl, BW.out⟩

end Go.Proofs.Ytabbpcpnabecmaa
