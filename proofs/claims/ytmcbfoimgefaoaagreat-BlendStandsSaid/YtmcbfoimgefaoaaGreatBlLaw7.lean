/- The walk of the statement BlendStands of layer blend: for every input it returns true, and nothing that was there before is changed. -/
import Derived.Test.YtmcbfoimgefaoaaGreatBlAlive
import Derived.Test.YtmcbfoimgefaoaaGreatBlLaw2
import Derived.Test.YtmcbfoimgefaoaaGreatBlStd
import Derived.Test.YtmcbfoimgefaoaaGreatDgLaw9
import Derived.Test.YtmcbfoimgefaoaaGreatOpen10
import Derived.Deep.Cut
namespace Go.Proofs.YtmcbfoimgefaoaaGreat
set_option linter.unusedVariables false
set_option maxRecDepth 100000
open Go.RowKit

theorem blS_keep2 {W a b : World} {p q r s : Addr} {x y z u : Value} (h : a.cell? p = some x ∧ a.cell? q = some y ∧ a.cell? r = some z ∧ a.cell? s = some u ∧ Below W.heap.size W a) (hb : Below a.heap.size a b)
    (hp : p.block < W.heap.size) (hq : q.block < W.heap.size) (hr : r.block < W.heap.size) (hs : s.block < W.heap.size) : b.cell? p = some x ∧ b.cell? q = some y ∧ b.cell? r = some z ∧ b.cell? s = some u ∧ Below W.heap.size W b := by
  obtain ⟨h1, h2, h3, h4, h5⟩ := h
  have hz := h5.size
  exact ⟨(hb.cell (by omega)).trans h1, (hb.cell (by omega)).trans h2, (hb.cell (by omega)).trans h3, (hb.cell (by omega)).trans h4, h5.trans (hb.mono hz)⟩
theorem blS_below4 {W a : World} {p q r s : Addr} {x y z u : Value} (h : a.cell? p = some x ∧ a.cell? q = some y ∧ a.cell? r = some z ∧ a.cell? s = some u ∧ Below W.heap.size W a) : Below W.heap.size W a := h.2.2.2.2
theorem blMade_weak (l k kd : Int) (A : Option Addr) (n c : Nat) (O : List Pl) (w : World) (H1 : PlacedAt w (.slice A n c) O) (OB : OBds O) (hn : n ≤ 100) (L0 : -9223372036854775808 ≤ l) (L1 : l ≤ 9223372036854775807) :
    Calls Tryz.prog 19 #[.agg #[.int .i64 l, .int .i64 k, .int .i64 kd], .slice A n c] w fun e w' => ∃ pa l' A' m c', e = .returned (.tuple #[.pointer pa, .agg #[.int .i64 l', .slice A' m c']]) ∧ Below w.heap.size w w' := by
  by_cases hc : kIs k = true ∧ isP kd l = true
  · exact (dgMade_any l k kd A n c O w H1 OB hn hc).mono fun e w' ⟨q, p, g, h, T, A2, m, c2, a, _, _, _, _, b⟩ => ⟨_, _, _, _, _, a, b⟩
  · exact (dgMade_no l k kd A n c w hc L0 L1).mono fun e w' ⟨a, b⟩ => ⟨_, _, _, _, _, a, b⟩
set_option maxHeartbeats 51200000 in
theorem walk_blendStands (s t : SideX) (id : Int) (I0 : -9223372036854775808 ≤ id) (I1 : id ≤ 9223372036854775807) (w : World) (hs : SideG w s) (ht : SideG w t) :
    Calls Tryz.prog 6 #[.agg #[.int .i64 s.l, .int .i64 s.k, .int .i64 s.kd, .slice s.A s.n s.c], .agg #[.int .i64 t.l, .int .i64 t.k, .int .i64 t.kd, .slice t.A t.n t.c], .int .i64 id] w fun e w' => e = .returned (.bool true) ∧ Below w.heap.size w w' := by
  obtain ⟨l, k, kd, A, n, c, O⟩ := s
  obtain ⟨l', k', kd', A', n', c', O'⟩ := t
  obtain ⟨⟨L0, L1⟩, _, _, hp, hob, _⟩ := hs
  obtain ⟨⟨L0', L1'⟩, _, _, hp', hob', _⟩ := ht
  simp only at hp hob hp' hob' L0 L1 L0' L1' ⊢
  have e1 : (w.alloc (.cells #[.int .i64 l, .int .i64 k, .int .i64 kd, .slice A n c] 26)).heap.size = w.heap.size + 1 := by simp
  have HB0 : Hid (Below w.heap.size w ((w.alloc (.cells #[.int .i64 l, .int .i64 k, .int .i64 kd, .slice A n c] 26)).alloc (.cells #[.int .i64 l', .int .i64 k', .int .i64 kd', .slice A' n' c'] 26))) := ((Below.refl _ _).alloc (Nat.le_refl _) _).alloc (by rw [e1]; omega) _
  have X0 := Lib.hid ((quad_new w 26 (.int .i64 l) (.int .i64 k) (.int .i64 kd) (.slice A n c)).alloc (.cells #[.int .i64 l', .int .i64 k', .int .i64 kd', .slice A' n' c'] 26))
  have Y0 := quad_new (w.alloc (.cells #[.int .i64 l, .int .i64 k, .int .i64 kd, .slice A n c] 26)) 26 (.int .i64 l') (.int .i64 k') (.int .i64 kd') (.slice A' n' c')
  rw [e1] at Y0
  have Y0 := Lib.hid Y0
  have P0 := Lib.hid (hp.below HB0.out)
  have P0' := Lib.hid (hp'.below HB0.out)
  have OB := Lib.hid hob
  have OB' := Lib.hid hob'
  have EN := Lib.hid (fun w => rends_any l id w L0 L1 I0 I1)
  obtain ⟨x0, x1, x2, x3, _, _, _, _, hz⟩ := quad_all X0.out
  clear hp hob hp' hob' e1
  go_enter Tryz.func6, Tryz.ntmps6
  go_wp2_with fail
  generalize (w.alloc (.cells #[.int .i64 l, .int .i64 k, .int .i64 kd, .slice A n c] 26)).alloc (.cells #[.int .i64 l', .int .i64 k', .int .i64 kd', .slice A' n' c'] 26) = W at *
  refine (blSome_any l k kd A n c _).mono ?_
  rintro e w1 ⟨b, rfl, hbn, hb1⟩
  have B1 := Lib.hid hb1
  have FW := Lib.hid hbn
  clear hb1 hbn x0 x1 x2 x3 hz
  cases b
  · go_wp2_with (go_at_call 10; refine (blAlive_any _).mono ?_; rintro e v7 ⟨rfl, hbv7⟩)
    go_ret
    exact ⟨rfl, HB0.out.trans ((B1.out.trans (hbv7.mono B1.out.size)).mono HB0.out.size)⟩
  obtain ⟨y0, y1, y2, y3, _, _, _, _, hy⟩ := quad_all (own_below Y0.out B1.out)
  go_wp2_with fail
  refine (blSome_any l' k' kd' A' n' c' _).mono ?_
  rintro e w2 ⟨b, rfl, hbn, hb2⟩
  have B2 := Lib.hid (B1.out.trans (hb2.mono B1.out.size))
  have FW' := Lib.hid hbn
  clear hb2 hbn y0 y1 y2 y3 hy
  cases b
  · go_wp2_with (go_at_call 10; refine (blAlive_any _).mono ?_; rintro e v7 ⟨rfl, hbv7⟩)
    go_ret
    exact ⟨rfl, HB0.out.trans ((B2.out.trans (hbv7.mono B2.out.size)).mono HB0.out.size)⟩
  have HN := Lib.hid (FW.out (by simp))
  have HN' := Lib.hid (FW'.out (by simp))
  have MW' := Lib.hid (fun v (hb : Below _ _ v) => blMade_weak l' k' kd' A' n' c' O' v (P0'.out.below hb) OB'.out HN'.out L0' L1')
  obtain ⟨x0, x1, x2, x3, _, _, _, _, hz⟩ := quad_all (own_below X0.out B2.out)
  clear FW FW' B1
  by_cases hc : kIs k = true ∧ isP kd l = true
  · have MD := Lib.hid (dgMade_any l k kd A n c O w2 (P0.out.below B2.out) OB.out HN.out hc)
    clear hc
    go_wp2_with fail
    refine MD.out.mono ?_
    rintro e w3 ⟨q, p, g, h, T, A3, m3, c3, rfl, hd, hv, hlen, hds, hb3⟩
    generalize dgOf l k O = L at *
    have hba := (Below.refl w3.heap.size w3).alloc (Nat.le_refl _) (.cells #[.int .i64 l, .slice A3 m3 c3] 55)
    have R4 := Lib.hid ((B2.out.trans (hb3.mono B2.out.size)).trans (hba.mono (B2.out.trans (hb3.mono B2.out.size)).size))
    have D4 := Lib.hid (hd.below hba)
    have V4 := Lib.hid (hv.below hba)
    have T4 := Lib.hid (box2 w3 55 (.int .i64 l) (.slice A3 m3 c3))
    have DS := Lib.hid hds
    have ML := Lib.hid (show m3 ≤ 100 by have a := (nodes_cells hv).1; have c := HN.out; omega)
    have PN : ∀ w, (binOp .eql 27 (.pointer (some ⟨q, 0, none⟩)) (.pointer none)).run Tryz.prog w = .ok (.bool false) w := fun _ => by kernel_rfl
    obtain ⟨y0, y1, y2, y3, _, _, _, _, hy⟩ := quad_all (own_below Y0.out R4.out)
    clear hd hv hlen hds hb3 hba MD x0 x1 x2 x3 hz
    by_cases hc' : kIs k' = true ∧ isP kd' l' = true
    · have MD' := Lib.hid (fun v (hb : Below _ _ v) => dgMade_any l' k' kd' A' n' c' O' v (P0'.out.below hb) OB'.out HN'.out hc')
      clear hc'
      go_wp2_with fail
      generalize w3.alloc (.cells #[.int .i64 l, .slice A3 m3 c3] 55) = W4 at *
      refine (MD'.out _ R4.out).mono ?_
      rintro e w5 ⟨q', p', g', h', U, A5, m5, c5, rfl, hd, hv, hlen, hds, hb5⟩
      generalize dgOf l' k' O' = M at *
      have hba := (Below.refl w5.heap.size w5).alloc (Nat.le_refl _) (.cells #[.int .i64 l', .slice A5 m5 c5] 55)
      have hb6 := hb5.trans (hba.mono hb5.size)
      have R6 := Lib.hid (R4.out.trans (hb6.mono R4.out.size))
      have D6 := Lib.hid (D4.out.below hb6)
      have V6 := Lib.hid (V4.out.below hb6)
      have T6 := Lib.hid (own_below T4.out hb6)
      have D6' := Lib.hid (hd.below hba)
      have V6' := Lib.hid (hv.below hba)
      have T6' := Lib.hid (box2 w5 55 (.int .i64 l') (.slice A5 m5 c5))
      have DS' := Lib.hid hds
      have ML' := Lib.hid (show m5 ≤ 100 by have a := (nodes_cells hv).1; have c := HN'.out; omega)
      have PN' : ∀ w, (binOp .eql 27 (.pointer (some ⟨q', 0, none⟩)) (.pointer none)).run Tryz.prog w = .ok (.bool false) w := fun _ => by kernel_rfl
      have X6 := Lib.hid (own_below X0.out R6.out)
      have Y6 := Lib.hid (own_below Y0.out R6.out)
      have LL := Lib.hid (show L.length + M.length ≤ 200 by have a := D6.out.po.len; have b := hd.po.len; have c := HN.out; have d := HN'.out; omega)
      have NL := Lib.hid (show n ≤ 400 by have c := HN.out; omega)
      have NL' := Lib.hid (show n' ≤ 400 by have c := HN'.out; omega)
      clear hd hv hlen hds hb5 hb6 hba MD' y0 y1 y2 y3 hy D4 V4 T4 R4 X0 Y0
      obtain ⟨x0, x1, x2, x3, _, _, _, _, hz⟩ := quad_all X6.out
      by_cases hr : RightC l id
      · rw [(end_yes hr).2.2] at EN
        have HR := Lib.hid hr
        clear hr
        have MG := Lib.hid (blMerge_any _ D6.out D6'.out NL.out NL'.out (by have := LL.out; omega))
        have NA := Lib.hid (fun v (hb : Below _ _ v) => dgN_any v (D6.out.below hb).box (D6.out.below hb).po (by have := NL.out; omega))
        have NB := Lib.hid (fun v (hb : Below _ _ v) => dgN_any v (D6'.out.below hb).box (D6'.out.below hb).po (by have := NL'.out; omega))
        have nnL := good_nonneg (roll_good D6.out.po.roll)
        have nnM := good_nonneg (roll_good D6'.out.po.roll)
        have S1 := Lib.hid (And.intro (show 0 ≤ sumC L from Int.le_trans (sum_le nnL 0).1 (sum_le nnL 0).2) D6.out.po.roll.2.2.2.2)
        have S2 := Lib.hid (And.intro (show 0 ≤ sumC M from Int.le_trans (sum_le nnM 0).1 (sum_le nnM 0).2) D6'.out.po.roll.2.2.2.2)
        clear nnL nnM
        go_wp2_with fail
        generalize w5.alloc (.cells #[.int .i64 l', .slice A5 m5 c5] 55) = W6 at *
        refine (EN.out _).mono ?_
        rintro e w7 ⟨rfl, rfl⟩
        by_cases hE : bmgE l l' L M = 0
        · obtain rfl : l = l' := by
            by_cases z : l = l'
            · exact z
            · rw [bmgE_shape z] at hE; omega
          have hsum : ¬ 72057594037927935 < sumC L + sumC M := fun z => by rw [bmgE_full z] at hE; omega
          have MY := Lib.hid (MG.out.mono (R' := fun e w' => (∃ q p g h, e = .returned (.tuple #[.pointer (some ⟨q, 0, none⟩), .int .i64 0]) ∧ DgA w' W6.heap.size q p g h kd l (bmgK k k') (bmgL l (bmgK k k') L M).length (bmgL l (bmgK k k') L M)) ∧ Below W6.heap.size W6 w') fun e w' z => by
            rcases z with ⟨z, _⟩ | ⟨_, _, z⟩
            · exact absurd hE z
            · exact ⟨z.2, z.1⟩)
          have MR := Lib.hid (fun v (hb : Below _ _ v) => (blMerge_any v (D6'.out.below hb) (D6.out.below hb) NL'.out NL.out (by have := LL.out; omega)).mono (R' := fun e w' => (∃ q p g h, e = .returned (.tuple #[.pointer (some ⟨q, 0, none⟩), .int .i64 0]) ∧ DgA w' v.heap.size q p g h kd' l (bmgK k k') (bmgL l (bmgK k k') L M).length (bmgL l (bmgK k k') L M)) ∧ Below v.heap.size v w') fun e w' z => by
            rcases z with ⟨z, _⟩ | ⟨_, _, z⟩
            · exact absurd (bmgE_ok (by omega)) z
            · rw [bmgL_comm D6.out.v D6'.out.v, bmgK_comm k k'] at z
              exact ⟨z.2, z.1⟩)
          have VM := Lib.hid (dgV_bmg D6.out.v D6'.out.v hsum)
          have ST := Lib.hid (bl_stand D6.out.v D6'.out.v DS.out DS'.out HR.out I1 hsum)
          have hmin : min k k' = bmgK k k' := by unfold bmgK; split <;> omega
          have BT := Lib.hid (fun v (hb : Below _ _ v) => rgBetween_any l (loN l id) (hiN l id) A3 m3 c3 T v (V6.out.below hb) (good_nonneg DS.out.bag.good) DS.out.bag.tot (by have := ML.out; omega))
          have BU := Lib.hid (fun v (hb : Below _ _ v) => rgBetween_any l (loN l id) (hiN l id) A5 m5 c5 U v (V6'.out.below hb) (good_nonneg DS'.out.bag.good) DS'.out.bag.tot (by have := ML'.out; omega))
          have bT := bet_bd (good_nonneg DS.out.bag.good) (loN l id) (hiN l id)
          have bU := bet_bd (good_nonneg DS'.out.bag.good) (loN l id) (hiN l id)
          have HS : Hid (sumC T = sumC L ∧ sumC U = sumC M) := ⟨DS.out.std.tot.symm, DS'.out.std.tot.symm⟩
          generalize hkk : bmgK k k' = k0 at *
          have HKK := Lib.hid hkk
          generalize bmgL l k0 L M = F at *
          generalize betN T (loN l id) (hiN l id) = hT at *
          generalize betN U (loN l id) (hiN l id) = hU at *
          generalize loN l id = lo at *
          generalize hiN l id = hi at *
          clear hkk MG hE
          have FL := Lib.hid (show F.length ≤ 200 by have a := VM.out.2.2.1; have b := LL.out; omega)
          have nnF := good_nonneg (roll_good VM.out.1.roll)
          have bA := wtF_bd (aboveB id) nnF
          have bO := wtF_bd (overB id) nnF
          have RF := Lib.hid VM.out.1.roll
          have BW := Lib.hid (fun (v : World) (A7 : Option Addr) (m7 c7 : Nat) (ho : NodesAt v (.slice A7 m7 c7) F) => rPrBelow_any l id A7 m7 c7 F v ho RF.out (by have a := (nodes_cells ho).1; have b := FL.out; omega) I0 I1)
          have AW := Lib.hid (fun (v : World) (A7 : Option Addr) (m7 c7 : Nat) (ho : NodesAt v (.slice A7 m7 c7) F) => rDgAbove_any (l := l) id A7 m7 c7 F v ho RF.out (by have a := (nodes_cells ho).1; have b := FL.out; omega) I0 I1)
          have LW := Lib.hid (fun (v : World) (A7 : Option Addr) (m7 c7 : Nat) (ho : NodesAt v (.slice A7 m7 c7) F) => rPrLight_any l k0 A7 m7 c7 F v ho RF.out (by have a := (nodes_cells ho).1; have b := FL.out; omega) (by have := VM.out.1.k1; omega) (by have := VM.out.1.k2; omega))
          rw [light_v VM.out.1] at LW
          unfold belN at BW
          have h1 : decide (hT + hU < wtF (aboveB id) F) = false := decide_eq_false (by have := ST.out.1; omega)
          have h2 : decide (wtF (aboveB id) F + wtF (overB id) F < hT + hU) = false := decide_eq_false (by have := ST.out.2; omega)
          have rf := RF.out.2.2.2.2
          have w1' : IntKind.i64.wrap (hT + hU) = hT + hU := wrap_lit rfl (by have := HS.out; omega) (by have a := HS.out; have b := S1.out; have c := S2.out; omega)
          have w2' : IntKind.i64.wrap (wtF (aboveB id) F + wtF (overB id) F) = wtF (aboveB id) F + wtF (overB id) F := wrap_lit rfl (by omega) (by omega)
          have w3' : IntKind.i64.wrap (sumC L + sumC M) = sumC L + sumC M := wrap_lit rfl (by have a := S1.out; have b := S2.out; omega) (by have a := S1.out; have b := S2.out; omega)
          have kk := And.intro VM.out.1.k1 VM.out.1.k2
          have w4' : IntKind.i64.wrap (8 * k0) = 8 * k0 := wrap_lit rfl (by omega) (by omega)
          have w5' : IntKind.i64.wrap (8 * k0 - 2) = 8 * k0 - 2 := wrap_lit rfl (by omega) (by omega)
          have SF := VM.out.2.1
          have n1 : (sumC F != sumC L + sumC M) = false := by rw [VM.out.2.1]; simp
          have n2 : (k0 != k0) = false := by simp
          have h3 := Lib.hid (fun m7 (hm : m7 = F.length) => (decide_eq_false (by have := VM.out.2.2.2; omega) : decide (8 * k0 - 2 < (m7 : Int)) = false))
          clear bT bU bA bO rf kk hsum nnF
          have NDc := Lib.hid (fun (v : World) (q p g h B : Nat) (kx : Int) (dd : DgA v B q p g h kx l k0 F.length F) => (dgNodes_any v dd.box dd.po (by have := FL.out; omega)).mono (R' := fun e w' => ∃ A9 m9 c9, e = .returned (.slice A9 m9 c9) ∧ OwnNd 79 w' 0 (.slice A9 m9 c9) F ∧ m9 ≤ 200 ∧ Below v.heap.size v w') fun e w' ⟨A9, m9, c9, a, b, hb⟩ => ⟨A9, m9, c9, a, own_low b (Nat.zero_le _), by have x := (nodes_cells (ownNd_nodes b)).1; have y := FL.out; omega, hb⟩)
          go_wp2_with fail
          refine MY.out.mono ?_
          rintro e w8 ⟨⟨q8, p8, g8, h8, rfl, hd8⟩, hb8⟩
          have R8 := Lib.hid hb8
          have D8 := Lib.hid hd8
          have PN8 : ∀ w, (binOp .eql 27 (.pointer (some ⟨q8, 0, none⟩)) (.pointer none)).run Tryz.prog w = .ok (.bool false) w := fun _ => by kernel_rfl
          have X8 := Lib.hid (own_below X6.out R8.out)
          clear hb8 hd8 x0 x1 x2 x3 hz MY
          obtain ⟨x0, x1, x2, x3, _, _, _, _, hz⟩ := quad_all X8.out
          go_upto_region 11 with fail
          go_cut [16] (fun s16 wx => ∃ qs A9 m9 c9, s16 = .pointer (some ⟨qs, 0, none⟩) ∧ wx.ownsRow w8.heap.size 35 2 (.slice (some ⟨qs, 0, none⟩) 1 1) 1 [.int .i64 l, .slice A9 m9 c9] ∧ OwnNd 79 wx 0 (.slice A9 m9 c9) F ∧ m9 ≤ 200 ∧ Below w8.heap.size w8 wx)
          case first =>
            go_region_with (go_at_call 22; refine (NDc.out _ q8 p8 g8 h8 W6.heap.size kd (D8.out.below (by first | (exact below_drew _) | (exact (below_drew _).alloc (Nat.le_refl _) _)))).mono ?_; rintro e w9 ⟨A9, m9, c9, rfl, ho9, hm9, hb9⟩; have hw9 : Below w8.heap.size w8 w9 := Below.trans (by first | (exact below_drew _) | (exact (below_drew _).alloc (Nat.le_refl _) _)) (Below.mono hb9 (by simp)); obtain ⟨xx9, _, _, _, _, _, _, _, hz9⟩ := quad_all (own_below X8.out hw9); first | (have du : Hid (w9.ownsRow w8.heap.size 35 2 (.slice (some ⟨w8.heap.size, 0, none⟩) 1 1) 1 [.int .i64 0, .slice none 0 0]) := own_below (box2 w8.drew _ _ _) hb9; obtain ⟨v0, v1, v2, v3, _⟩ := box_cells du.out) | skip)
            all_goals go_wp2_with fail
            all_goals go_meet
            all_goals first
              | (exact ⟨w8.heap.size, A9, m9, c9, rfl, (box_set du.out _ _).1, (box_set du.out _ _).2.1 _ _ _ _ _ _ (by decide) ho9, hm9, hw9.trans (box_set du.out _ _).2.2.1⟩)
              | (exact ⟨w9.heap.size, A9, m9, c9, rfl, own_low (box2 ..) hw9.size, own_below ho9 ((Below.refl _ _).alloc (Nat.le_refl _) _), hm9, hw9.alloc hw9.size _⟩)
          case rest =>
            obtain ⟨qs, A9, m9, c9, rfl, hq, ho, hm9, hbc⟩ := hcut
            have RC := Lib.hid (R8.out.trans (hbc.mono R8.out.size))
            have QC := Lib.hid hq
            have OC := Lib.hid (ownNd_nodes ho)
            have MC := Lib.hid hm9
            have DC := Lib.hid (D8.out.below hbc)
            have FL9 := Lib.hid (nodes_cells (ownNd_nodes ho)).1
            clear hq ho hm9 hbc x0 x1 x2 x3 hz X8
            obtain ⟨x0, x1, x2, x3, _, _, _, _, hz⟩ := quad_all (own_below X6.out RC.out)
            obtain ⟨y0, y1, y2, y3, _, _, _, _, hy⟩ := quad_all (own_below Y6.out RC.out)
            go_upto_region 13 with fail
            clear x0 x1 x2 x3 hz y0 y1 y2 y3 hy
            obtain ⟨a0, a1, _, _, ha⟩ := box_cells (own_below T6.out RC.out)
            obtain ⟨b0, b1, _, _, hbz⟩ := box_cells (own_below T6'.out RC.out)
            have HA := Lib.hid ha
            have HBZ := Lib.hid hbz
            have BT2 := Lib.hid (fun v (hb : Below wc.heap.size wc v) => BT.out v (RC.out.trans (hb.mono RC.out.size)))
            have BU2 := Lib.hid (fun v (hb : Below wc.heap.size wc v) => BU.out v (RC.out.trans (hb.mono RC.out.size)))
            go_region_held3 (fun w' => w'.cell? ⟨w3.heap.size, 0, none⟩ = some (.int .i64 l) ∧ w'.cell? ⟨w3.heap.size, 1, none⟩ = some (.slice A3 m3 c3) ∧ w'.cell? ⟨w5.heap.size, 0, none⟩ = some (.int .i64 l) ∧ w'.cell? ⟨w5.heap.size, 1, none⟩ = some (.slice A5 m5 c5) ∧ Below wc.heap.size wc w')
              (first | assumption | (exact blS_keep2 (by assumption) (by assumption) HA.out HA.out HBZ.out HBZ.out) | (exact ⟨a0, a1, b0, b1, below_drew _⟩))
              (first
                | (go_at_call 23; (with_reducible refine (BT2.out _ (blS_below4 (p := ⟨w3.heap.size, 0, none⟩) (q := ⟨w3.heap.size, 1, none⟩) (r := ⟨w5.heap.size, 0, none⟩) (s := ⟨w5.heap.size, 1, none⟩) (x := .int .i64 l) (y := .slice A3 m3 c3) (z := .int .i64 l) (u := .slice A5 m5 c5) (by assumption))).mono ?_); rintro e v1 ⟨rfl, hbv1⟩)
                | (go_at_call 23; (with_reducible refine (BU2.out _ (blS_below4 (p := ⟨w3.heap.size, 0, none⟩) (q := ⟨w3.heap.size, 1, none⟩) (r := ⟨w5.heap.size, 0, none⟩) (s := ⟨w5.heap.size, 1, none⟩) (x := .int .i64 l) (y := .slice A3 m3 c3) (z := .int .i64 l) (u := .slice A5 m5 c5) (by assumption))).mono ?_); rintro e v2 ⟨rfl, hbv2⟩))
            rename_i hH
            have Q13 := Lib.hid hH.2.2.2.2
            clear hH a0 a1 b0 b1 ha hbz BT2 BU2 BT BU
            obtain ⟨s0, s1, _, _, hs⟩ := box_cells (own_below QC.out Q13.out)
            go_wp2_with fail
            refine (BW.out _ A9 m9 c9 (OC.out.below Q13.out)).mono ?_
            rintro e w14 ⟨rfl, hb14⟩
            have Q14 := Lib.hid (Q13.out.trans (hb14.mono Q13.out.size))
            clear hb14 s0 s1 hs BW
            obtain ⟨s0, s1, _, _, hs⟩ := box_cells (own_below QC.out Q14.out)
            have h3' := h3.out m9 FL9.out
            generalize wtF (aboveB id) F = low at *
            generalize wtF (overB id) F = ab at *
            go_wp2_with fail
            refine (AW.out _ A9 m9 c9 (OC.out.below Q14.out)).mono ?_
            rintro e w15 ⟨rfl, hb15⟩
            have Q15 := Lib.hid (Q14.out.trans (hb15.mono Q14.out.size))
            clear hb15 s0 s1 hs AW
            go_wp2_with fail
            refine (dgN_any _ (DC.out.below Q15.out).box (DC.out.below Q15.out).po (by have := FL.out; omega)).mono ?_
            rintro e w16 ⟨rfl, hb16⟩
            have Q16 := Lib.hid (Q15.out.trans (hb16.mono Q15.out.size))
            clear hb16
            go_wp2_with fail
            refine (NA.out _ (RC.out.trans (Q16.out.mono RC.out.size))).mono ?_
            rintro e w17 ⟨rfl, hb17⟩
            have Q17 := Lib.hid (Q16.out.trans (hb17.mono Q16.out.size))
            clear hb17
            go_wp2_with fail
            refine (NB.out _ (RC.out.trans (Q17.out.mono RC.out.size))).mono ?_
            rintro e w18 ⟨rfl, hb18⟩
            have Q18 := Lib.hid (Q17.out.trans (hb18.mono Q17.out.size))
            clear hb18
            obtain ⟨s0, s1, _, _, hs⟩ := box_cells (own_below QC.out Q18.out)
            go_wp2_with fail
            refine (LW.out _ A9 m9 c9 (OC.out.below Q18.out)).mono ?_
            rintro e w19 ⟨rfl, hb19⟩
            have Q19 := Lib.hid (Q18.out.trans (hb19.mono Q18.out.size))
            have FD : ∀ w, (Instr.field 23 (.agg #[.int .i64 l, .int .i64 k0, .int .i64 kd]) 1).run Tryz.prog w = .ok (.int .i64 k0) w := fun _ => by kernel_rfl
            clear hb19 s0 s1 hs LW
            go_wp2_with fail
            refine (dgConf_any _ (DC.out.below Q19.out).box).mono ?_
            rintro e w20 ⟨rfl, hb20⟩
            have Q20 := Lib.hid (Q19.out.trans (hb20.mono Q19.out.size))
            clear hb20
            go_wp2_with fail
            refine (MR.out _ (RC.out.trans (Q20.out.mono RC.out.size))).mono ?_
            rintro e w21 ⟨⟨q21, p21, g21, h21, rfl, hd21⟩, hb21⟩
            have Q21 := Lib.hid (Q20.out.trans (hb21.mono Q20.out.size))
            have D21 := Lib.hid hd21
            have PN21 : ∀ w, (binOp .neq 27 (.pointer (some ⟨q21, 0, none⟩)) (.pointer none)).run Tryz.prog w = .ok (.bool true) w := fun _ => by kernel_rfl
            clear hb21 hd21 MR
            obtain ⟨s0, s1, _, _, hs⟩ := box_cells (own_below QC.out Q21.out)
            have HQ := Lib.hid hs
            have O21 := Lib.hid (OC.out.below Q21.out)
            have N21 := Lib.hid (fun v (hb : Below w21.heap.size w21 v) => NDc.out v q21 p21 g21 h21 _ kd' (D21.out.below hb))
            have SM := Lib.hid (fun (v : World) (A10 : Option Addr) (m10 c10 : Nat) (hb : Below w21.heap.size w21 v) (o : OwnNd 79 v 0 (.slice A10 m10 c10) F) (hm : m10 ≤ 200) => dgSame_below (rSame_any A10 A9 m10 c10 m9 c9 F F v (ownNd_nodes o) (O21.out.below hb) (by omega) (by have := MC.out; omega)))
            rw [same_self] at SM
            go_upto_region 18 with fail
            go_region_held3 (fun w' => w'.cell? ⟨qs, 0, none⟩ = some (.int .i64 l) ∧ w'.cell? ⟨qs, 1, none⟩ = some (.slice A9 m9 c9) ∧ Below w21.heap.size w21 w')
              (first | assumption | (exact bl_keep2 (by assumption) (by assumption) HQ.out HQ.out) | (exact ⟨s0, s1, below_drew _⟩))
              (first
                | (go_at_call 22; refine (N21.out _ (bl_below2 (p := ⟨qs, 0, none⟩) (q := ⟨qs, 1, none⟩) (x := .int .i64 l) (y := .slice A9 m9 c9) (by assumption))).mono ?_; rintro e v8 ⟨A10, m10, c10, rfl, ho10, hm10, hb10⟩)
                | (go_at_call 28; refine (SM.out _ A10 m10 c10 (bl_below2 (p := ⟨qs, 0, none⟩) (q := ⟨qs, 1, none⟩) (x := .int .i64 l) (y := .slice A9 m9 c9) (by assumption)) (by exact ho10) (by exact hm10)).mono ?_; rintro e v9 ⟨rfl, hb11⟩)
                | (go_at_call 10; refine (blAlive_any _).mono ?_; rintro e v7 ⟨rfl, hbv7⟩))
            rename_i hH
            go_wp2_with fail
            go_ret
            have z1 := Q21.out.trans (Below.mono hH.2.2 Q21.out.size)
            have z2 := RC.out.trans (z1.mono RC.out.size)
            have z3 := R6.out.trans (z2.mono R6.out.size)
            exact ⟨rfl, HB0.out.trans (z3.mono HB0.out.size)⟩
        · have MN := Lib.hid (MG.out.mono (R' := fun e w' => e = .returned (.tuple #[.pointer none, .int .i64 (bmgE l l' L M)]) ∧ Below W6.heap.size W6 w') fun e w' z => by
            rcases z with ⟨_, z⟩ | ⟨z, _⟩
            · exact z
            · exact absurd z hE)
          have c1 : (bmgE l l' L M != 0) = true := bne_iff_ne.2 hE
          generalize loN l id = lo at *
          generalize hiN l id = hi at *
          by_cases hl : l = l'
          · subst hl
            have ht : 72057594037927935 < sumC L + sumC M := Classical.byContradiction fun z => hE (bmgE_ok z)
            have g1 : (l != l) = false := by simp
            have hw : IntKind.i64.wrap (72057594037927935 - sumC M) = 72057594037927935 - sumC M := wrap_lit rfl (by have := S2.out; omega) (by have := S2.out; omega)
            have g2 : decide (72057594037927935 - sumC M < sumC L) = true := decide_eq_true (by omega)
            clear hE ht
            generalize bmgE l l L M = ee at *
            go_wp2_with fail
            refine MN.out.mono ?_
            rintro e w8 ⟨rfl, hb8⟩
            have R8 := Lib.hid hb8
            clear hb8 x0 x1 x2 x3 hz
            obtain ⟨x0, x1, x2, x3, _, _, _, _, hz⟩ := quad_all (own_below X6.out R8.out)
            obtain ⟨y0, y1, y2, y3, _, _, _, _, hy⟩ := quad_all (own_below Y6.out R8.out)
            go_wp2_with fail
            refine (NA.out _ R8.out).mono ?_
            rintro e w9 ⟨rfl, hb9⟩
            have R9 := Lib.hid (R8.out.trans (hb9.mono R8.out.size))
            clear hb9 x0 x1 x2 x3 hz y0 y1 y2 y3 hy
            go_wp2_with fail
            refine (NB.out _ R9.out).mono ?_
            rintro e w10 ⟨rfl, hb10⟩
            have R10 := Lib.hid (R9.out.trans (hb10.mono R9.out.size))
            clear hb10
            go_wp2_with (go_at_call 10; refine (blAlive_any _).mono ?_; rintro e v7 ⟨rfl, hbv7⟩)
            go_ret
            have z1 := R10.out.trans (hbv7.mono R10.out.size)
            have z2 := R6.out.trans (z1.mono R6.out.size)
            exact ⟨rfl, HB0.out.trans (z2.mono HB0.out.size)⟩
          · have g1 : (l != l') = true := bne_iff_ne.2 hl
            clear hE hl
            generalize bmgE l l' L M = ee at *
            go_wp2_with fail
            refine MN.out.mono ?_
            rintro e w8 ⟨rfl, hb8⟩
            have R8 := Lib.hid hb8
            clear hb8 x0 x1 x2 x3 hz
            obtain ⟨x0, x1, x2, x3, _, _, _, _, hz⟩ := quad_all (own_below X6.out R8.out)
            obtain ⟨y0, y1, y2, y3, _, _, _, _, hy⟩ := quad_all (own_below Y6.out R8.out)
            go_wp2_with (go_at_call 10; refine (blAlive_any _).mono ?_; rintro e v7 ⟨rfl, hbv7⟩)
            go_ret
            have z1 := R8.out.trans (hbv7.mono R8.out.size)
            have z2 := R6.out.trans (z1.mono R6.out.size)
            exact ⟨rfl, HB0.out.trans (z2.mono HB0.out.size)⟩
      · rw [(end_no hr).2.2] at EN
        generalize loN l id = lo at *
        generalize hiN l id = hi at *
        clear hr
        go_wp2_with (first
          | (go_at_call 20; refine (EN.out _).mono ?_; rintro e w7 ⟨rfl, rfl⟩)
          | (go_at_call 10; refine (blAlive_any _).mono ?_; rintro e v7 ⟨rfl, hbv7⟩))
        go_ret
        exact ⟨rfl, HB0.out.trans ((R6.out.trans (hbv7.mono R6.out.size)).mono HB0.out.size)⟩
    · have MD' := Lib.hid (fun v => dgMade_no l' k' kd' A' n' c' v hc' L0' L1')
      clear hc'
      go_wp2_with fail
      generalize w3.alloc (.cells #[.int .i64 l, .slice A3 m3 c3] 55) = W4 at *
      refine (MD'.out _).mono ?_
      rintro e w5 ⟨rfl, hb5⟩
      have R5 := Lib.hid (R4.out.trans (hb5.mono R4.out.size))
      have R6 := Lib.hid (R5.out.alloc R5.out.size (.cells #[.int .i64 0, .slice none 0 0] 55))
      clear hb5 y0 y1 y2 y3 hy
      obtain ⟨x0, x1, x2, x3, _, _, _, _, hz⟩ := quad_all (own_below X0.out R6.out)
      generalize loN l id = lo at *
      generalize hiN l id = hi at *
      generalize endB l id = en at *
      go_wp2_with (first
        | (go_at_call 20; refine (EN.out _).mono ?_; rintro e w7 ⟨rfl, rfl⟩)
        | (go_at_call 10; refine (blAlive_any _).mono ?_; rintro e v7 ⟨rfl, hbv7⟩))
      go_ret
      exact ⟨rfl, HB0.out.trans ((R6.out.trans (hbv7.mono R6.out.size)).mono HB0.out.size)⟩
  · have MD := Lib.hid (dgMade_no l k kd A n c w2 hc L0 L1)
    clear hc
    go_wp2_with fail
    refine MD.out.mono ?_
    rintro e w3 ⟨rfl, hb3⟩
    have R3 := Lib.hid (B2.out.trans (hb3.mono B2.out.size))
    have R4 := Lib.hid (R3.out.alloc R3.out.size (.cells #[.int .i64 0, .slice none 0 0] 55))
    clear hb3 MD x0 x1 x2 x3 hz
    obtain ⟨y0, y1, y2, y3, _, _, _, _, hy⟩ := quad_all (own_below Y0.out R4.out)
    go_wp2_with fail
    generalize w3.alloc (.cells #[.int .i64 0, .slice none 0 0] 55) = W4 at *
    refine (MW'.out _ R4.out).mono ?_
    rintro e w5 ⟨pa, la, A5, m5, c5, rfl, hb5⟩
    have R5 := Lib.hid (R4.out.trans (hb5.mono R4.out.size))
    have R6 := Lib.hid (R5.out.alloc R5.out.size (.cells #[.int .i64 la, .slice A5 m5 c5] 55))
    clear hb5 y0 y1 y2 y3 hy
    obtain ⟨x0, x1, x2, x3, _, _, _, _, hz⟩ := quad_all (own_below X0.out R6.out)
    generalize loN l id = lo at *
    generalize hiN l id = hi at *
    generalize endB l id = en at *
    go_wp2_with (first
      | (go_at_call 20; refine (EN.out _).mono ?_; rintro e w7 ⟨rfl, rfl⟩)
      | (go_at_call 10; refine (blAlive_any _).mono ?_; rintro e v7 ⟨rfl, hbv7⟩))
    go_ret
    exact ⟨rfl, HB0.out.trans ((R6.out.trans (hbv7.mono R6.out.size)).mono HB0.out.size)⟩

end Go.Proofs.YtmcbfoimgefaoaaGreat
