/- The walk of the statement DigestStands of layer digest: for every input it returns true, and nothing that was there before is changed. -/
import Derived.Test.YtfilmblpikcpnaaGreatDgLaw7
import Derived.Test.YtfilmblpikcpnaaGreatDgRef7
import Derived.Test.YtfilmblpikcpnaaGreatPrR
import Derived.Deep.Cut
namespace Go.Proofs.YtfilmblpikcpnaaGreat
set_option linter.unusedVariables false
set_option maxRecDepth 100000
open Go.RowKit

set_option maxHeartbeats 3200000 in
theorem dgMade_no (l k kd : Int) (A : Option Addr) (n c : Nat) (w : World) (hc : ¬ (kIs k = true ∧ isP kd l = true)) (L0 : -9223372036854775808 ≤ l) (L1 : l ≤ 9223372036854775807) :
    Calls Tryz.prog 26 #[.agg #[.int .i64 l, .int .i64 k, .int .i64 kd], .slice A n c] w fun e w' => e = .returned (.tuple #[.pointer none, .agg #[.int .i64 0, .slice none 0 0]]) ∧ Below w.heap.size w w' := by
  have e1 : (w.alloc (.cells #[.int .i64 l, .int .i64 k, .int .i64 kd] 23)).heap.size = w.heap.size + 1 := by simp
  have X0 := Lib.hid ((tri_nw w 23 (.int .i64 l) (.int .i64 k) (.int .i64 kd)).alloc (.cells #[.int .i64 0, .slice none 0 0] 55))
  have Y0 : Hid (((w.alloc (.cells #[.int .i64 l, .int .i64 k, .int .i64 kd] 23)).alloc (.cells #[.int .i64 0, .slice none 0 0] 55)).ownsRow w.heap.size 55 2 (.slice (some ⟨w.heap.size + 1, 0, none⟩) 1 1) 1 [.int .i64 0, .slice none 0 0]) := by
    have z := box2 (w.alloc (.cells #[.int .i64 l, .int .i64 k, .int .i64 kd] 23)) 55 (.int .i64 0) (.slice none 0 0)
    rw [e1] at z
    exact own_low z (Nat.le_succ _)
  have HB0 : Hid (Below w.heap.size w ((w.alloc (.cells #[.int .i64 l, .int .i64 k, .int .i64 kd] 23)).alloc (.cells #[.int .i64 0, .slice none 0 0] 55))) := ((Below.refl _ _).alloc (Nat.le_refl _) _).alloc (by simp) _
  obtain ⟨x0, x1, x2, _, _, _, hz⟩ := tri_all X0.out
  have NW := Lib.hid (fun w => dgNew_no kd l k w hc L0 L1)
  clear hc e1
  go_enter Tryz.func26, Tryz.ntmps26
  go_wp2_with fail
  generalize (w.alloc (.cells #[.int .i64 l, .int .i64 k, .int .i64 kd] 23)).alloc (.cells #[.int .i64 0, .slice none 0 0] 55) = W at *
  refine (NW.out _).mono ?_
  rintro e w1 ⟨rfl, hb1⟩
  have Y1 := Lib.hid (own_below Y0.out hb1)
  have B1 := Lib.hid (HB0.out.trans (hb1.mono HB0.out.size))
  have ST := Lib.hid (box_set Y1.out (.int .i64 0) (.slice none 0 0)).2.2.1
  obtain ⟨y0, y1, y2, y3, hy⟩ := box_cells Y1.out
  obtain ⟨q0, q1⟩ := set_two y0 y1
  clear hb1 NW x0 x1 x2
  go_wp2_with fail
  exact bodyPost_ret (v := .tuple #[.pointer none, .agg #[.int .i64 0, .slice none 0 0]]) (by simp [results, Tryz.results26, go_sem, q0, q1]) rfl ⟨rfl, B1.out.trans ST.out⟩
set_option maxHeartbeats 12800000 in
theorem walk_digestStands (l k kd : Int) (A : Option Addr) (n c : Nat) (O : List Pl) (id : Int) (L0 : -9223372036854775808 ≤ l) (L1 : l ≤ 9223372036854775807) (K0 : -9223372036854775808 ≤ k) (K1 : k ≤ 9223372036854775807) (D0 : -9223372036854775808 ≤ kd) (D1 : kd ≤ 9223372036854775807) (OB : OBds O) (m1 : n ≤ 9223372036854775807)
    (I0 : -9223372036854775808 ≤ id) (I1 : id ≤ 9223372036854775807) (w : World) (H1 : PlacedAt w (.slice A n c) O) :
    Calls Tryz.prog 6 #[.agg #[.int .i64 l, .int .i64 k, .int .i64 kd], .slice A n c, .int .i64 id] w fun e w' => e = .returned (.bool true) ∧ Below w.heap.size w w' := by
  have HB0 : Hid (Below w.heap.size w (w.alloc (.cells #[.int .i64 l, .int .i64 k, .int .i64 kd] 23))) := (Below.refl _ _).alloc (Nat.le_refl _) _
  have X0 := Lib.hid (tri_nw w 23 (.int .i64 l) (.int .i64 k) (.int .i64 kd))
  obtain ⟨x0, x1, x2, _, _, _, hz⟩ := tri_all X0.out
  have HP := Lib.hid (H1.below HB0.out)
  have HOB : Hid (OBds O) := OB
  clear H1 OB K0 K1 D0 D1
  by_cases hn : n ≤ 100
  · have g0 : decide (100 < (n : Int)) = false := decide_eq_false (by omega)
    by_cases hkl : kd = 1 ∧ 10 < l
    · have g1 : (kd == 1) = true := beq_iff_eq.2 hkl.1
      have g2 : decide (10 < l) = true := decide_eq_true hkl.2
      clear hkl hn
      go_enter Tryz.func6, Tryz.ntmps6
      go_wp2_with (go_at_call 11; refine (dgAlive_any _).mono ?_; rintro e v7 ⟨rfl, hbv7⟩)
      go_ret
      exact ⟨rfl, HB0.out.trans (hbv7.mono HB0.out.size)⟩
    · have HKL := Lib.hid hkl
      have EN := Lib.hid (fun w => rends_any l id w L0 L1 I0 I1)
      clear hkl
      go_enter Tryz.func6, Tryz.ntmps6
      go_upto_region 1 with fail
      go_cut [27] (fun s27 wx => s27 = .bool false ∧ wx = w.alloc (.cells #[.int .i64 l, .int .i64 k, .int .i64 kd] 23))
      case first =>
        by_cases hk1 : kd = 1
        · have g1 : (kd == 1) = true := beq_iff_eq.2 hk1
          have g2 : decide (10 < l) = false := decide_eq_false fun z => HKL.out ⟨hk1, z⟩
          clear hk1
          go_wp2_with fail
          go_meet
          case rel => exact ⟨rfl, rfl⟩
        · have g1 : (kd == 1) = false := beq_eq_false_iff_ne.2 hk1
          clear hk1
          go_wp2_with fail
          go_meet
          case rel => exact ⟨rfl, rfl⟩
      case rest =>
        obtain ⟨rfl, rfl⟩ := hcut
        clear g0
        by_cases hc : kIs k = true ∧ isP kd l = true
        · have MD := Lib.hid (dgMade_any l k kd A n c O _ HP.out HOB.out hn hc)
          clear hc L0 L1
          go_wp2_with fail
          generalize w.alloc (.cells #[.int .i64 l, .int .i64 k, .int .i64 kd] 23) = W at *
          refine MD.out.mono ?_
          rintro e w1 ⟨q, p, g, h, L, T, A2, m2, c2, rfl, hd, hv, hlen, hs, hb1⟩
          have hba : Below w1.heap.size w1 (w1.alloc (.cells #[.int .i64 l, .slice A2 m2 c2] 55)) := (Below.refl _ _).alloc (Nat.le_refl _) _
          have X2 := Lib.hid (own_below (own_below X0.out hb1) hba)
          have B1 := Lib.hid (HB0.out.trans (hb1.mono HB0.out.size))
          have B2 := Lib.hid (B1.out.trans (hba.mono B1.out.size))
          have D2 := Lib.hid (hd.below hba)
          have V2 := Lib.hid (hv.below hba)
          have BX := Lib.hid (box2 w1 55 (.int .i64 l) (.slice A2 m2 c2))
          have DS := Lib.hid hs
          have TL : Hid (T.length ≤ 100) := by show _ ≤ _; omega
          have ML := Lib.hid (nodes_cells hv).1
          have RT := Lib.hid (fun v (hb : Below _ _ v) => rgTotal_any l A2 m2 c2 T v (V2.out.below hb) (good_nonneg DS.out.bag.good) DS.out.bag.tot (by have a := ML.out; have b := TL.out; omega))
          rw [← hs.std.tot] at RT
          obtain ⟨x0, x1, x2, _, _, _, hz⟩ := tri_all X2.out
          clear hb1 hba MD hd hv hlen hs
          by_cases hr : RightC l id
          · have EE := end_yes hr
            rw [EE.2.2] at EN
            have SH := std_held DS.out.std D2.out.po.roll DS.out.bag hr I1
            have BT := Lib.hid (fun v (hb : Below _ _ v) => rgBetween_any l (loN l id) (hiN l id) A2 m2 c2 T v (V2.out.below hb) (good_nonneg DS.out.bag.good) DS.out.bag.tot (by have a := ML.out; have b := TL.out; omega))
            have BW := Lib.hid (fun (v : World) (A3 : Option Addr) (m3 c3 : Nat) (ho : NodesAt v (.slice A3 m3 c3) L) => rPrBelow_any l id A3 m3 c3 L v ho D2.out.po.roll (by have a := (nodes_cells ho).1; have b := D2.out.po.len; omega) I0 I1)
            have AW := Lib.hid (fun (v : World) (A3 : Option Addr) (m3 c3 : Nat) (ho : NodesAt v (.slice A3 m3 c3) L) => rDgAbove_any (l := l) id A3 m3 c3 L v ho D2.out.po.roll (by have a := (nodes_cells ho).1; have b := D2.out.po.len; omega) I0 I1)
            have ND := Lib.hid (dgNodes_any _ D2.out.box D2.out.po (by omega))
            have NN := Lib.hid (fun v (hb : Below _ _ v) => dgN_any v (D2.out.below hb).box (D2.out.below hb).po (by omega))
            have nn := good_nonneg (roll_good D2.out.po.roll)
            have f1 := wtF_bd (aboveB id) nn
            have f2 := wtF_bd (overB id) nn
            have f3 := D2.out.po.roll.2.2.2.2
            have f4 := wtF_bd (fun _ => true) nn
            rw [wtF_all] at f4
            unfold belN at BW
            have h1 : decide (wtF (aboveB id) L ≤ betN T (loN l id) (hiN l id)) = true := decide_eq_true SH.1
            have h2 : decide (betN T (loN l id) (hiN l id) ≤ wtF (aboveB id) L + wtF (overB id) L) = true := decide_eq_true SH.2
            clear hr EE SH nn
            generalize wtF (aboveB id) L = low at *
            generalize wtF (overB id) L = ab at *
            generalize betN T (loN l id) (hiN l id) = held at *
            generalize loN l id = lo at *
            generalize hiN l id = hi at *
            generalize sumC L = s at *
            have hw : IntKind.i64.wrap (low + ab) = low + ab := wrap_lit rfl (by omega) (by omega)
            clear f1 f2 f3 f4
            go_wp2_with fail
            generalize w1.alloc (.cells #[.int .i64 l, .slice A2 m2 c2] 55) = W2 at *
            refine (EN.out _).mono ?_
            rintro e w3 ⟨rfl, rfl⟩
            go_wp2_with fail
            refine ND.out.mono ?_
            rintro e w4 ⟨A3, m3, c3, rfl, ho4, hb4⟩
            have R4 := Lib.hid hb4
            have O4 := Lib.hid (ownNd_nodes ho4)
            obtain ⟨s0, s1, s2, s3, hs⟩ := box_cells (own_below BX.out hb4)
            clear ho4 hb4 ND x0 x1 x2 hz
            go_wp2_with fail
            refine (BT.out _ R4.out).mono ?_
            rintro e w5 ⟨rfl, hb5⟩
            have R5 := Lib.hid (R4.out.trans (hb5.mono R4.out.size))
            have O5 := Lib.hid (O4.out.below hb5)
            obtain ⟨s0, s1, s2, s3, hs⟩ := box_cells (own_below BX.out R5.out)
            obtain ⟨x0, x1, x2, _, _, _, hz⟩ := tri_all (own_below X2.out R5.out)
            clear hb5 BT O4 R4
            go_wp2_with fail
            refine (BW.out w5 A3 m3 c3 O5.out).mono ?_
            rintro e w6 ⟨rfl, hb6⟩
            have R6 := Lib.hid (R5.out.trans (hb6.mono R5.out.size))
            have O6 := Lib.hid (O5.out.below hb6)
            obtain ⟨s0, s1, s2, s3, hs⟩ := box_cells (own_below BX.out R6.out)
            have HS := Lib.hid hs
            have AA := Lib.hid (fun v (hb : Below w6.heap.size w6 v) => AW.out v A3 m3 c3 (O6.out.below hb))
            have NA := Lib.hid (fun v (hb : Below w6.heap.size w6 v) => NN.out v (R6.out.trans (hb.mono R6.out.size)))
            have TA := Lib.hid (fun v (hb : Below w6.heap.size w6 v) => RT.out v (R6.out.trans (hb.mono R6.out.size)))
            clear hb6 BW O5 R5 AW NN RT x0 x1 x2 hz hs
            have BB6 := Lib.hid (B2.out.trans (R6.out.mono B2.out.size))
            go_wp2_with fail
            go_region_held3 (fun w' => w'.cell? ⟨w1.heap.size, 0, none⟩ = some (.int .i64 l) ∧ w'.cell? ⟨w1.heap.size, 1, none⟩ = some (.slice A2 m2 c2) ∧ Below w6.heap.size w6 w')
              (first | assumption | (exact keep_two (by assumption) (by assumption) HS.out HS.out) | (exact ⟨s0, s1, below_drew _⟩))
              (first
                | (go_at_call 30; refine (AA.out _ (below_of (p := ⟨w1.heap.size, 0, none⟩) (q := ⟨w1.heap.size, 1, none⟩) (x := .int .i64 l) (y := .slice A2 m2 c2) (by assumption))).mono ?_; rintro e v1 ⟨rfl, hbv1⟩)
                | (go_at_call 21; refine (NA.out _ (below_of (p := ⟨w1.heap.size, 0, none⟩) (q := ⟨w1.heap.size, 1, none⟩) (x := .int .i64 l) (y := .slice A2 m2 c2) (by assumption))).mono ?_; rintro e v2 ⟨rfl, hbv2⟩)
                | (go_at_call 31; refine (TA.out _ (below_of (p := ⟨w1.heap.size, 0, none⟩) (q := ⟨w1.heap.size, 1, none⟩) (x := .int .i64 l) (y := .slice A2 m2 c2) (by assumption))).mono ?_; rintro e v3 ⟨rfl, hbv3⟩)
                | (go_at_call 11; refine (dgAlive_any _).mono ?_; rintro e v4 ⟨rfl, hbv4⟩))
            rename_i hH
            have hbb := hH.2.2
            go_wp2_with fail
            go_ret
            exact ⟨rfl, BB6.out.trans (hbb.mono BB6.out.size)⟩
          · rw [(end_no hr).2.2] at EN
            generalize loN l id = lo at *
            generalize hiN l id = hi at *
            clear hr
            go_wp2_with (first
              | (go_at_call 27; refine (EN.out _).mono ?_; rintro e w3 ⟨rfl, rfl⟩)
              | (go_at_call 11; refine (dgAlive_any _).mono ?_; rintro e v7 ⟨rfl, hbv7⟩))
            go_ret
            exact ⟨rfl, B2.out.trans (hbv7.mono B2.out.size)⟩
        · have MD := Lib.hid (fun w => dgMade_no l k kd A n c w hc L0 L1)
          clear hc
          generalize loN l id = lo at *
          generalize hiN l id = hi at *
          generalize endB l id = en at *
          go_wp2_with fail
          generalize w.alloc (.cells #[.int .i64 l, .int .i64 k, .int .i64 kd] 23) = W at *
          refine (MD.out _).mono ?_
          rintro e w1 ⟨rfl, hb1⟩
          have hba : Below w1.heap.size w1 (w1.alloc (.cells #[.int .i64 0, .slice none 0 0] 55)) := (Below.refl _ _).alloc (Nat.le_refl _) _
          have X2 := Lib.hid (own_below (own_below X0.out hb1) hba)
          have B1 := Lib.hid (HB0.out.trans (hb1.mono HB0.out.size))
          have B2 := Lib.hid (B1.out.trans (hba.mono B1.out.size))
          obtain ⟨x0, x1, x2, _, _, _, hz⟩ := tri_all X2.out
          clear hb1 hba MD
          go_wp2_with (first
            | (go_at_call 27; refine (EN.out _).mono ?_; rintro e w3 ⟨rfl, rfl⟩)
            | (go_at_call 11; refine (dgAlive_any _).mono ?_; rintro e v7 ⟨rfl, hbv7⟩))
          go_ret
          exact ⟨rfl, B2.out.trans (hbv7.mono B2.out.size)⟩
  · have g0 : decide (100 < (n : Int)) = true := decide_eq_true (by omega)
    clear hn
    go_enter Tryz.func6, Tryz.ntmps6
    go_wp2_with (go_at_call 11; refine (dgAlive_any _).mono ?_; rintro e v7 ⟨rfl, hbv7⟩)
    go_ret
    exact ⟨rfl, HB0.out.trans (hbv7.mono HB0.out.size)⟩

end Go.Proofs.YtfilmblpikcpnaaGreat
