/- The document's answers of package dewpondref20: Worst. -/
import Derived.Test.YtkoefclkpdpdpaaGreatBoRef
import Derived.Test.YtkoefclkpdpdpaaGreatRnkRef
import Derived.BigQuiet
namespace Go.Proofs.YtkoefclkpdpdpaaGreat
set_option linter.unusedVariables false
set_option maxRecDepth 100000
open Go.RowKit

theorem gw_bd {l : Int} {L : List Nd} (h : RollC l L) (y : Int) : 0 ≤ gW l L y ∧ gW l L y ≤ 144115188075855870 := by
  have a := low_high h y
  have b := high_bd h y
  have c := low_bd h y
  unfold gW
  omega
set_option maxHeartbeats 6400000 in
theorem rBoWorst_any {l : Int} (k : Int) (A : Option Addr) (n c : Nat) (L : List Nd) (w : World) (h : NodesAt w (.slice A n c) L) (hr : RollC l L) (hn : n ≤ 1000) :
    Calls Tryz.prog 23 #[.agg #[.int .i64 k, .int .i64 l, .slice A n c]] w fun e w' => e = .returned (.tuple #[.int .i64 (woF l L L).1, .int .i64 (woF l L L).2]) ∧ Below w.heap.size w w' := by
  have HB0 : Hid (Below w.heap.size w (w.alloc (.cells #[.int .i64 k, .int .i64 l, .slice A n c] 31))) := (Below.refl _ _).alloc (Nat.le_refl _) _
  obtain ⟨x0, x1, x2, _, _, _, hz⟩ := tri_all (tri_new w 31 (.int .i64 k) (.int .i64 l) (.slice A n c))
  have u : 1 ≤ l ∧ l ≤ 48 := of_decide_eq_true hr.1
  have HL := Lib.hid (nodes_cells h).1
  have HA := Lib.hid (nodes_cells h).2.2.2
  have NB := Lib.hid (nbds_roll hr)
  have TK := Lib.hid (fun (k : Nat) hk => woF_take l L (P := L) (k := k) hk)
  have LW := Lib.hid (fun y v (hb : Below w.heap.size w v) y0 y1 => rRnkLow_any (l := l) y A n c L v (h.below hb) hr hn y0 y1)
  have HW := Lib.hid (fun y v (hb : Below w.heap.size w v) y0 y1 => rRnkHigh_any (l := l) y A n c L v (h.below hb) hr hn y0 y1)
  have GB := Lib.hid (fun y => gw_bd hr y)
  have EB := Lib.hid (fun (m : Nat) (hm : m < L.length) => node_ends hr (n := L.getD m nz) (by rw [show L.getD m nz = L[m] by simp [List.getD_eq_getElem?_getD, hm]]; exact List.getElem_mem hm))
  have W0 : Hid (woF l L (L.take 0) = (0, gW l L 0)) := rfl
  clear h hr
  go_enter Tryz.func23, Tryz.ntmps23
  go_wp2_with fail
  generalize w.alloc (.cells #[.int .i64 k, .int .i64 l, .slice A n c] 31) = D at *
  go_quiet (fail)
  generalize hwq : World.drewN D _ = Wq
  have B0 : Hid (Below w.heap.size w Wq) := by rw [← hwq]; exact below_drewN HB0.out _
  clear hwq HB0 x0 x1 x2 hz
  have g00 := GB.out 0
  have e00 : IntKind.i64.wrap (highR l L 0 - lowR l L 0) = gW l L 0 := by unfold gW at g00 ⊢; exact wrap_lit rfl (by omega) (by omega)
  go_wp2_with fail
  refine (HW.out 0 _ B0.out (by omega) (by omega)).mono ?_
  rintro e w1 ⟨rfl, hb1⟩
  have B1 := Lib.hid (B0.out.trans (hb1.mono B0.out.size))
  clear hb1 B0
  go_wp2_with fail
  refine (LW.out 0 _ B1.out (by omega) (by omega)).mono ?_
  rintro e w2 ⟨rfl, hb2⟩
  have B2 := Lib.hid (B1.out.trans (hb2.mono B1.out.size))
  clear hb2 B1 g00
  go_wp2_with fail
  clear e00
  go_loopw [6, 7, 8] (fun x g i wr => ∃ m : Nat, m ≤ n ∧ x = .int .i64 (woF l L (L.take m)).1 ∧ g = .int .i64 (woF l L (L.take m)).2 ∧ i = .int .i64 m ∧ Hid (Below w.heap.size w wr)) (fun _ _ i _ => n - (intOf i).toNat)
  case atStart => exact ⟨0, by omega, rfl, rfl, rfl, B2⟩
  case round =>
    obtain ⟨m, hm, rfl, rfl, rfl, BW⟩ := hrel
    by_cases hlt : m < n
    · have hk2 : m < L.length := by have := HL.out; omega
      obtain ⟨b, o, rfl, hin⟩ := HA.out (by omega)
      obtain ⟨e0, e1⟩ := (hin.below BW.out hin.1).2 m hk2
      have HQ : Hid (b < wr.heap.size) := Nat.lt_of_lt_of_le hin.1 BW.out.size
      have hx := nbds_at NB.out hk2
      have ST := Lib.hid (TK.out m hk2)
      have ee := EB.out m hk2
      have p48 : (2 : Int) ^ l.toNat ≤ 281474976710656 := two_le l.toNat 48 (by omega)
      unfold woS at ST
      clear hin TK EB NB HA
      generalize (L.getD m nz).1 = id at *
      generalize (L.getD m nz).2 = xx at *
      generalize woF l L (L.take m) = s at *
      obtain ⟨sx, sg⟩ := s
      dsimp only at ST ⊢
      generalize hs2 : woF l L (L.take (m + 1)) = s2 at *
      have HS := Lib.hid hs2
      clear hs2
      have EN := Lib.hid (fun w => rends_any l id w (by omega) (by omega) hx.1.1 hx.1.2)
      have k0 : (0 : Int) ≤ (m : Int) := Int.natCast_nonneg _
      have k1 : (m : Int) < (n : Int) := by omega
      have z0 : -9223372036854775808 ≤ loN l id ∧ loN l id ≤ 9223372036854775807 := by omega
      generalize loN l id = z at *
      generalize hiN l id = y at *
      have gz := GB.out z
      have ez : IntKind.i64.wrap (highR l L z - lowR l L z) = gW l L z := by unfold gW at gz ⊢; exact wrap_lit rfl (by omega) (by omega)
      go_wp2_with (go_at_call 41; refine (EN.out _).mono ?_; rintro e w6 ⟨rfl, rfl⟩)
      refine (HW.out z _ BW.out z0.1 z0.2).mono ?_
      rintro e w3 ⟨rfl, hb3⟩
      have B3 := Lib.hid (BW.out.trans (hb3.mono BW.out.size))
      clear hb3 BW HQ e0 e1
      go_wp2_with fail
      refine (LW.out z _ B3.out z0.1 z0.2).mono ?_
      rintro e w4 ⟨rfl, hb4⟩
      have B4 := Lib.hid (B3.out.trans (hb4.mono B3.out.size))
      clear hb4 B3 HW LW EN
      by_cases c1 : sg < gW l L z
      · have HE : Hid (s2 = (z, gW l L z)) := by have := ST.out; rw [if_pos (.inl c1)] at this; exact this
        clear ST
        generalize gW l L z = gg at *
        go_wp2_with fail
        go_roundw
        case rel => exact ⟨m + 1, by omega, by rw [HS.out, HE.out], by rw [HS.out, HE.out], by go_num, B4⟩
        case measure => simp [intOf]; omega
      · by_cases c2 : gW l L z = sg
        · have c2' : (gW l L z == sg) = true := by simp [c2]
          by_cases c3 : z < sx
          · have HE : Hid (s2 = (z, gW l L z)) := by have := ST.out; rw [if_pos (.inr ⟨c2, c3⟩)] at this; exact this
            clear ST c2
            generalize gW l L z = gg at *
            go_wp2_with fail
            go_roundw
            case rel => exact ⟨m + 1, by omega, by rw [HS.out, HE.out], by rw [HS.out, HE.out], by go_num, B4⟩
            case measure => simp [intOf]; omega
          · have HE : Hid (s2 = (sx, sg)) := by have := ST.out; rw [if_neg (by omega)] at this; exact this
            clear ST c2
            generalize gW l L z = gg at *
            go_wp2_with fail
            go_roundw
            case rel => exact ⟨m + 1, by omega, by rw [HS.out, HE.out], by rw [HS.out, HE.out], by go_num, B4⟩
            case measure => simp [intOf]; omega
        · have c2' : (gW l L z == sg) = false := by simp [c2]
          have HE : Hid (s2 = (sx, sg)) := by have := ST.out; rw [if_neg (by omega)] at this; exact this
          clear ST
          generalize gW l L z = gg at *
          go_wp2_with fail
          go_roundw
          case rel => exact ⟨m + 1, by omega, by rw [HS.out, HE.out], by rw [HS.out, HE.out], by go_num, B4⟩
          case measure => simp [intOf]; omega
    · obtain rfl : m = n := by omega
      have e : L.take m = L := List.take_of_length_le (by have := HL.out; omega)
      rw [e]
      go_wp2_with fail
      go_ret2
      exact ⟨rfl, BW.out⟩

end Go.Proofs.YtkoefclkpdpdpaaGreat
