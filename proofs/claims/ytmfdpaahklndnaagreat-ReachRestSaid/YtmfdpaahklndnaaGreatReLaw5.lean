/- The walk of the statement ReachRest of layer reach, over the project's contracts: for every input it returns true, and nothing that was there before is changed. -/
import Derived.Test.YtmfdpaahklndnaaGreatReLaw
import Derived.Test.YtmfdpaahklndnaaGreatTi7
import Derived.Test.YtmfdpaahklndnaaGreatTiQ
import Derived.Deep.Cut
import Derived.Deep.DeepCutAuto
namespace Go.Proofs.YtmfdpaahklndnaaGreat
set_option linter.unusedVariables false
set_option maxRecDepth 100000
open Go.RowKit

theorem good_all {l : Int} {S : List Int} (h : uniB l = true) (hS : TiGood l S) : IsAll l S := ⟨h, fun t ht => (end_yes (hS.1 t ht).1).2.2⟩
theorem rr_keep6 {W a b : World} {p1 p2 p3 p4 p5 p6 : Addr} {x1 x2 x3 x4 x5 x6 : Value} (h : a.cell? p1 = some x1 ∧ a.cell? p2 = some x2 ∧ a.cell? p3 = some x3 ∧ a.cell? p4 = some x4 ∧ a.cell? p5 = some x5 ∧ a.cell? p6 = some x6 ∧ Below W.heap.size W a) (hb : Below a.heap.size a b)
    (h1 : p1.block < W.heap.size) (h2 : p2.block < W.heap.size) (h3 : p3.block < W.heap.size) (h4 : p4.block < W.heap.size) (h5 : p5.block < W.heap.size) (h6 : p6.block < W.heap.size) : b.cell? p1 = some x1 ∧ b.cell? p2 = some x2 ∧ b.cell? p3 = some x3 ∧ b.cell? p4 = some x4 ∧ b.cell? p5 = some x5 ∧ b.cell? p6 = some x6 ∧ Below W.heap.size W b := by
  obtain ⟨a1, a2, a3, a4, a5, a6, a7⟩ := h
  have hz := a7.size
  exact ⟨(hb.cell (by omega)).trans a1, (hb.cell (by omega)).trans a2, (hb.cell (by omega)).trans a3, (hb.cell (by omega)).trans a4, (hb.cell (by omega)).trans a5, (hb.cell (by omega)).trans a6, a7.trans (hb.mono hz)⟩
theorem rr_below6 {W a : World} {p1 p2 p3 p4 p5 p6 : Addr} {x1 x2 x3 x4 x5 x6 : Value} (h : a.cell? p1 = some x1 ∧ a.cell? p2 = some x2 ∧ a.cell? p3 = some x3 ∧ a.cell? p4 = some x4 ∧ a.cell? p5 = some x5 ∧ a.cell? p6 = some x6 ∧ Below W.heap.size W a) : Below W.heap.size W a := h.2.2.2.2.2.2
theorem rr_keep2 {W a b : World} {p1 p2 : Addr} {x1 x2 : Value} (h : a.cell? p1 = some x1 ∧ a.cell? p2 = some x2 ∧ Below W.heap.size W a) (hb : Below a.heap.size a b)
    (h1 : p1.block < W.heap.size) (h2 : p2.block < W.heap.size) : b.cell? p1 = some x1 ∧ b.cell? p2 = some x2 ∧ Below W.heap.size W b := by
  obtain ⟨a1, a2, a7⟩ := h
  have hz := a7.size
  exact ⟨(hb.cell (by omega)).trans a1, (hb.cell (by omega)).trans a2, a7.trans (hb.mono hz)⟩
theorem rr_below2 {W a : World} {p1 p2 : Addr} {x1 x2 : Value} (h : a.cell? p1 = some x1 ∧ a.cell? p2 = some x2 ∧ Below W.heap.size W a) : Below W.heap.size W a := h.2.2
set_option maxHeartbeats 25600000 in
theorem walk_reachRestK (KB : ReB) (KO : ReO) (KF : ReF) (RL : RnkLH) (l k kd : Int) (A : Option Addr) (n c : Nat) (L : List Nd) (A1 : Option Addr) (n1 c1 : Nat) (U : List Int) (a b : Int) (L0 : -9223372036854775808 ≤ l) (L1 : l ≤ 9223372036854775807) (K0 : -9223372036854775808 ≤ k) (K1 : k ≤ 9223372036854775807) (D0 : -9223372036854775808 ≤ kd) (D1 : kd ≤ 9223372036854775807) (NB : NBds L) (m1 : n ≤ 9223372036854775807)
    (UB : Bds U) (m2 : n1 ≤ 9223372036854775807) (P0 : -9223372036854775808 ≤ a) (P1 : a ≤ 9223372036854775807) (Q0 : -9223372036854775808 ≤ b) (Q1 : b ≤ 9223372036854775807) (w : World) (hv : NodesAt w (.slice A n c) L) (hu : IntsAt w (.slice A1 n1 c1) U) :
    Calls Tryz.prog 6 #[.agg #[.int .i64 l, .int .i64 k, .int .i64 kd, .slice A n c], .slice A1 n1 c1, .agg #[.int .i64 a, .int .i64 b]] w fun e w' => e = .returned (.bool true) ∧ Below w.heap.size w w' := by
  have hb00 := below_one w (.cells #[.int .i64 l, .int .i64 k, .int .i64 kd, .slice A n c] 26)
  have hb01 := below_one (w.alloc (.cells #[.int .i64 l, .int .i64 k, .int .i64 kd, .slice A n c] 26)) (.cells #[.int .i64 a, .int .i64 b] 61)
  have X0 := Lib.hid (own_below (quad_new w 26 (.int .i64 l) (.int .i64 k) (.int .i64 kd) (.slice A n c)) hb01)
  have hsz : (w.alloc (.cells #[.int .i64 l, .int .i64 k, .int .i64 kd, .slice A n c] 26)).heap.size = w.heap.size + 1 := by simp
  have ha0 := box2 (w.alloc (.cells #[.int .i64 l, .int .i64 k, .int .i64 kd, .slice A n c] 26)) 61 (.int .i64 a) (.int .i64 b)
  rw [hsz] at ha0
  have AK0 := Lib.hid ha0
  have HB0 := Lib.hid (hb00.trans (hb01.mono hb00.size))
  have PB := Lib.hid KB
  have PO := Lib.hid KO
  have PF := Lib.hid KF
  have PR := Lib.hid RL
  have HV := Lib.hid (hv.below HB0.out)
  have HU := Lib.hid (hu.below HB0.out)
  have HUB := Lib.hid UB
  have HNB : Hid (NBds L) := NB
  have LL := Lib.hid (And.intro L0 L1)
  have PA := Lib.hid (And.intro P0 P1)
  have QA := Lib.hid (And.intro Q0 Q1)
  have AL := Lib.hid (fun v => reAlive_any KB v)
  clear KB KO KF RL K0 K1 D0 D1 m1 hv hu NB L0 L1 UB hb00 hb01 ha0 hsz P0 P1 Q0 Q1
  go_enter Tryz.func6, Tryz.ntmps6
  go_upto_region 1 with fail
  generalize (w.alloc (.cells #[.int .i64 l, .int .i64 k, .int .i64 kd, .slice A n c] 26)).alloc (.cells #[.int .i64 a, .int .i64 b] 61) = W at *
  obtain ⟨x0, x1, x2, x3, _, _, _, _, hz⟩ := quad_all X0.out
  cases hld : rnkLdB kd l k n L
  · have LD := Lib.hid (rnkLoad_no l k kd A n c L W HV.out HNB.out LL.out.1 LL.out.2 hld)
    clear hld
    go_wp2_with fail
    refine LD.out.mono ?_
    rintro e w7 ⟨rfl, hb7⟩
    have Q1 := Lib.hid (HB0.out.trans (hb7.mono HB0.out.size))
    have Q2 := Lib.hid (Q1.out.alloc Q1.out.size (.cells #[.int .i64 0, .int .i64 0, .slice none 0 0] 38))
    clear hb7 LD x0 x1 x2 x3 hz
    go_wp2_with (go_at_call 10; refine (AL.out _).mono ?_; rintro e v7 ⟨rfl, hbv7⟩)
    go_ret
    exact ⟨rfl, Q2.out.trans (hbv7.mono Q2.out.size)⟩
  · have LD := Lib.hid (rnkLoad_yes l k kd A n c L W HV.out HNB.out LL.out.1 LL.out.2 hld)
    have NL : Hid (¬ 150 < n) := (of_decide_eq_true hld).1
    clear hld
    go_wp2_with fail
    refine LD.out.mono ?_
    rintro e w7 ⟨q, p, g, h, rfl, hd7, hb7⟩
    have hba := (Below.refl w7.heap.size w7).alloc (Nat.le_refl _) (.cells #[.int .i64 k, .int .i64 l, .slice A n c] 38)
    have Z8 := Lib.hid (hb7.trans (hba.mono hb7.size))
    have D8 := Lib.hid (hd7.below hba)
    have PN : ∀ w, (binOp .eql 34 (.pointer (some ⟨q, 0, none⟩)) (.pointer none)).run Tryz.prog w = .ok (.bool false) w := fun _ => by kernel_rfl
    clear hd7 hb7 hba LD x0 x1 x2 x3 hz
    go_upto_region 2 with fail
    generalize w7.alloc (.cells #[.int .i64 k, .int .i64 l, .slice A n c] 38) = W8 at *
    have R8 := Lib.hid (HB0.out.trans (Z8.out.mono HB0.out.size))
    have I8 := Lib.hid (HU.out.below Z8.out)
    have X8 := Lib.hid (own_below X0.out Z8.out)
    have AK8 := Lib.hid (own_below AK0.out Z8.out)
    clear X0 AK0 HU HV
    by_cases h30 : 30 < n1
    · have h30' : (30 : Int) < (n1 : Int) := by omega
      go_wp2_with (go_at_call 10; refine (AL.out _).mono ?_; rintro e v7 ⟨rfl, hbv7⟩)
      go_ret
      exact ⟨rfl, R8.out.trans (hbv7.mono R8.out.size)⟩
    have h30' : ¬ (30 : Int) < (n1 : Int) := by omega
    have rl := D8.out.v.roll
    have RO := Lib.hid rl
    have H30 := Lib.hid h30
    have DN := Lib.hid (fun v hb => dgN_any v (D8.out.box.below hb) (D8.out.po.below hb) (by have := NL.out; omega))
    obtain ⟨E, S1, S2, F1, F2, bo, PT, PP, RS, hE, SM, BS1, BS2, BF1, BF2⟩ : ∃ (E S1 S2 F1 F2 : Int) (bo : Bool),
        Hid (∀ v, Below W8.heap.size W8 v → Calls Tryz.prog 13 #[.pointer (some ⟨q, 0, none⟩), .slice A1 n1 c1] v fun e w' => e = .returned (.tuple #[.agg #[.int .i64 S1, .int .i64 S2], .int .i64 E]) ∧ Below v.heap.size v w')
        ∧ Hid (∀ v, Below W8.heap.size W8 v → Calls Tryz.prog 14 #[.pointer (some ⟨q, 0, none⟩), .slice A1 n1 c1] v fun e w' => e = .returned (.tuple #[.agg #[.int .i64 F1, .int .i64 F2], .int .i64 E]) ∧ Below v.heap.size v w')
        ∧ Hid (∀ v, Below W8.heap.size W8 v → Calls Tryz.prog 19 #[.int .i64 l, .slice A1 n1 c1] v fun e w' => (∃ A9 n9 c9, e = .returned (.tuple #[.slice A9 n9 c9, .bool bo]) ∧ (bo = true → Hid (∀ u, Below w'.heap.size w' u → Calls Tryz.prog 13 #[.pointer (some ⟨q, 0, none⟩), .slice A9 n9 c9] u fun e u' => e = .returned (.tuple #[.agg #[.int .i64 F1, .int .i64 F2], .int .i64 0]) ∧ Below u.heap.size u u'))) ∧ Below v.heap.size v w')
        ∧ (E == 0) = bo
        ∧ (bo = true → Hid (S1 + F2 = sumC L ∧ S2 + F1 = sumC L)) ∧ (0 ≤ S1 ∧ S1 ≤ 72057594037927935) ∧ (0 ≤ S2 ∧ S2 ≤ 72057594037927935) ∧ (0 ≤ F1 ∧ F1 ≤ 72057594037927935) ∧ 0 ≤ F2 ∧ F2 ≤ 72057594037927935 := by
      rcases all_or l U with ha | ha
      · have oo := on_off (J := U) rl
        have bd := on_bd (J := U) rl
        refine ⟨0, onL l U L, onH l U L, ofL l U L, ofH l U L, true,
          Lib.hid (fun v hb => PO.out.on_yes v (D8.out.below hb) (by have := NL.out; omega) (I8.out.below hb) HUB.out (by have := H30.out; omega) ha),
          Lib.hid (fun v hb => PF.out.off_yes v (D8.out.below hb) (by have := NL.out; omega) (I8.out.below hb) HUB.out (by have := H30.out; omega) ha),
          Lib.hid (fun v hb => ?_), rfl, fun _ => Lib.hid ⟨oo.1, oo.2⟩, bd.1, bd.2.1, bd.2.2.1, bd.2.2.2⟩
        · refine (rest_any l A1 n1 c1 U v (I8.out.below hb) HUB.out (by have := H30.out; omega) LL.out.1 LL.out.2).mono ?_
          rintro e w' (⟨_, A9, c9, T, rfl, hi, hg, hh, hl, _, hbw⟩ | ⟨hx, _⟩)
          · have el := (ints_cells (I8.out)).1
            have or := on_rest (J := U) (K := T) rl hh
            refine ⟨⟨A9, T.length, c9, rfl, fun _ => Lib.hid (fun u hu => ?_)⟩, hbw⟩
            have q := PO.out.on_yes u (D8.out.below (hb.trans ((hbw.trans (hu.mono hbw.size)).mono hb.size))) (by have := NL.out; omega) (hi.below hu) (bds_nodes hg.1) (by have := H30.out; omega) (good_all ha.1 hg)
            rw [or.1, or.2] at q
            exact q
          · exfalso
            rcases hx with hx | ⟨t, ht, hx⟩
            · rw [ha.1] at hx; cases hx
            · rw [ha.2 t ht] at hx; cases hx
      · refine ⟨2, 0, 0, 0, 0, false,
          Lib.hid (fun v hb => PO.out.on_no v (D8.out.below hb) (by have := NL.out; omega) (I8.out.below hb) HUB.out (by have := H30.out; omega) ha),
          Lib.hid (fun v hb => PF.out.off_no v (D8.out.below hb) (by have := NL.out; omega) (I8.out.below hb) HUB.out (by have := H30.out; omega) ha),
          Lib.hid (fun v hb => ?_), rfl, (fun h => by cases h), by omega, by omega, by omega, by omega, by omega⟩
        refine (rest_any l A1 n1 c1 U v (I8.out.below hb) HUB.out (by have := H30.out; omega) LL.out.1 LL.out.2).mono ?_
        rintro e w' (⟨hx, _⟩ | ⟨_, rfl, hbw⟩)
        · exfalso
          rcases ha with g | ⟨t, ht, g⟩
          · rw [hx.1] at g; cases g
          · rw [hx.2 t ht] at g; cases g
        · exact ⟨⟨_, _, _, rfl, fun h => by cases h⟩, hbw⟩
    clear rl h30
    have c1' : (E != E) = false := by simp
    have c2' : (bo != bo) = false := by simp
    have q1 := both_same F1 F2
    have q2 := both_not F1 F2
    go_wp2_with fail
    refine (PT.out _ (Below.refl _ _)).mono ?_
    rintro e u3 ⟨rfl, hu3⟩
    have E3 := Lib.hid (box2 u3 29 (.int .i64 S1) (.int .i64 S2))
    have G3 := Lib.hid (hu3.alloc hu3.size (.cells #[.int .i64 S1, .int .i64 S2] 29))
    clear hu3 PT
    go_upto_region 5 with fail
    generalize u3.alloc (.cells #[.int .i64 S1, .int .i64 S2] 29) = U3 at *
    go_wp2_with fail
    refine (PP.out _ G3.out).mono ?_
    rintro e u4 ⟨rfl, hu4⟩
    have hv4 := hu4.alloc hu4.size (.cells #[.int .i64 F1, .int .i64 F2] 29)
    have E4 := Lib.hid (box2 u4 29 (.int .i64 F1) (.int .i64 F2))
    have E34 := Lib.hid (own_below E3.out hv4)
    have G4 := Lib.hid (re_next G3.out hv4)
    clear hu4 hv4 PP E3
    go_upto_region 6 with fail
    generalize u4.alloc (.cells #[.int .i64 F1, .int .i64 F2] 29) = U4 at *
    obtain ⟨x0, x1, x2, x3, _, _, _, _, hz⟩ := quad_all (own_below X8.out G4.out)
    go_wp2_with fail
    refine (RS.out _ G4.out).mono ?_
    rintro e u5 ⟨⟨A9, n9, c9, rfl, hon⟩, hu5⟩
    have ON := Lib.hid hon
    have E35 := Lib.hid (own_below E34.out hu5)
    have E45 := Lib.hid (own_below E4.out hu5)
    have G5 := Lib.hid (re_next G4.out hu5)
    clear hu5 hon RS E34 E4 x0 x1 x2 x3 hz
    have G5' := Lib.hid (R8.out.trans (G5.out.mono R8.out.size))
    have DN5 := Lib.hid (fun v (hb : Below u5.heap.size u5 v) => DN.out v (re_next G5.out hb))
    have ON5 := Lib.hid (fun hb => (ON.out hb).out)
    clear DN ON
    obtain ⟨s, hs⟩ : ∃ s, s = sumC L := ⟨_, rfl⟩
    rw [← hs] at SM DN5
    clear hs
    go_upto_if 69 with fail
    go_cut [] (fun wx => Below u5.heap.size u5 wx)
    case first =>
      cases bo
      · go_wp2_with fail
        go_meet
        case rel => exact Below.refl _ _
      · obtain ⟨z1, z2⟩ := (SM rfl).out
        have w1 : IntKind.i64.wrap (S1 + F2) = s := by rw [IntKind.wrap_i64]; omega
        have w2 : IntKind.i64.wrap (S2 + F1) = s := by rw [IntKind.wrap_i64]; omega
        have t1 : (s != s) = false := by simp
        clear z1 z2 SM
        go_wp2_with fail
        refine (ON5.out (by simp) _ (Below.refl _ _)).mono ?_
        rintro e u6 ⟨rfl, hu6⟩
        have hv6 := hu6.alloc hu6.size (.cells #[.int .i64 F1, .int .i64 F2] 29)
        have E6 := Lib.hid (box2 u6 29 (.int .i64 F1) (.int .i64 F2))
        have E36 := Lib.hid (own_below E35.out hv6)
        have E46 := Lib.hid (own_below E45.out hv6)
        have G6 := Lib.hid hv6
        clear hu6 hv6
        go_upto_region 11 with fail
        generalize u6.alloc (.cells #[.int .i64 F1, .int .i64 F2] 29) = U6 at *
        obtain ⟨i0, i1, _, _, hi⟩ := box_cells E36.out
        obtain ⟨j0, j1, _, _, hj⟩ := box_cells E46.out
        obtain ⟨k0, k1, _, _, hk⟩ := box_cells E6.out
        have HI := Lib.hid hi
        have HJ := Lib.hid hj
        have HK := Lib.hid hk
        have DN6 := Lib.hid (fun v (hb : Below U6.heap.size U6 v) => DN5.out v (re_next G6.out hb))
        clear DN5
        go_region_held3 (fun w' => w'.cell? ⟨u3.heap.size, 0, none⟩ = some (.int .i64 S1) ∧ w'.cell? ⟨u3.heap.size, 1, none⟩ = some (.int .i64 S2) ∧ w'.cell? ⟨u4.heap.size, 0, none⟩ = some (.int .i64 F1) ∧ w'.cell? ⟨u4.heap.size, 1, none⟩ = some (.int .i64 F2) ∧ w'.cell? ⟨u6.heap.size, 0, none⟩ = some (.int .i64 F1) ∧ w'.cell? ⟨u6.heap.size, 1, none⟩ = some (.int .i64 F2) ∧ Below U6.heap.size U6 w')
          (first | assumption | (exact rr_keep6 (by assumption) (by assumption) HI.out HI.out HJ.out HJ.out HK.out HK.out) | (exact ⟨i0, i1, j0, j1, k0, k1, below_drew _⟩))
          (first
            | (go_at_call 20; (with_reducible refine (DN6.out _ (rr_below6 (p1 := ⟨u3.heap.size, 0, none⟩) (p2 := ⟨u3.heap.size, 1, none⟩) (p3 := ⟨u4.heap.size, 0, none⟩) (p4 := ⟨u4.heap.size, 1, none⟩) (p5 := ⟨u6.heap.size, 0, none⟩) (p6 := ⟨u6.heap.size, 1, none⟩) (x1 := .int .i64 S1) (x2 := .int .i64 S2) (x3 := .int .i64 F1) (x4 := .int .i64 F2) (x5 := .int .i64 F1) (x6 := .int .i64 F2) (by assumption))).mono ?_); rintro e v1 ⟨rfl, hbv1⟩))
        rename_i hH
        have B6 := Lib.hid (G6.out.trans (Below.mono hH.2.2.2.2.2.2 G6.out.size))
        clear hH
        go_wp2_with fail
        go_meet
        case rel => exact B6.out
    case rest =>
      have HC := Lib.hid hcut
      clear hcut SM DN5 ON5
      obtain ⟨wm, hm⟩ : ∃ wm : World, wm = wc := ⟨_, rfl⟩
      subst hm
      have GM := Lib.hid (G5.out.trans (HC.out.mono G5.out.size))
      have GW := Lib.hid (R8.out.trans (GM.out.mono R8.out.size))
      have XM := Lib.hid (own_below X8.out GM.out)
      have AKM := Lib.hid (own_below AK8.out GM.out)
      have DM := Lib.hid (D8.out.below GM.out)
      clear E35 E45 G5 G5' HC X8 AK8 D8 R8 Z8 GM I8 HUB
      obtain ⟨y0, y1, _, _, hy⟩ := box_cells AKM.out
      obtain ⟨mm, hmm⟩ : ∃ mm, mm = max a (-1) := ⟨_, rfl⟩
      have hmx : max a (-1) = mm := hmm.symm
      have mb : -1 ≤ mm ∧ mm ≤ 9223372036854775807 := by have := PA.out; omega
      have br := btw_rank RO.out mm
      have by1 := be_yes (l := l) (L := L) mb.1
      have lb := low_bd RO.out mm
      have hb' := high_bd RO.out mm
      have BT := Lib.hid (fun v (hb : Below wm.heap.size wm v) => PB.out.bet (-1) mm v (DM.out.below hb) (by have := NL.out; omega) (by omega) (by omega) (by omega) (by omega))
      rw [by1.1, by1.2.1, by1.2.2, br.1, br.2] at BT
      have LO := Lib.hid (fun v (hb : Below wm.heap.size wm v) => PR.out.low mm v (DM.out.below hb) (by have := NL.out; omega) (by omega) (by omega))
      have HI := Lib.hid (fun v (hb : Below wm.heap.size wm v) => PR.out.high mm v (DM.out.below hb) (by have := NL.out; omega) (by omega) (by omega))
      clear br by1 hmm
      generalize lowR l L mm = lo at *
      generalize highR l L mm = hi at *
      have q3 := both_not lo hi
      go_upto_region 13 with fail
      go_quiet (fail)
      go_wp2_with fail
      refine (BT.out _ (by exact below_drewN (Below.refl _ _) _)).mono ?_
      rintro e u7 ⟨rfl, hu7⟩
      have E7 := Lib.hid (box2 u7 29 (.int .i64 lo) (.int .i64 hi))
      have hv7 := hu7.alloc hu7.size (.cells #[.int .i64 lo, .int .i64 hi] 29)
      have G7 := Lib.hid (show Below wm.heap.size wm _ from (below_drewN (Below.refl _ wm) _).trans (hv7.mono (Nat.le_refl _)))
      clear hu7 hv7 BT
      go_upto_region 15 with fail
      generalize u7.alloc (.cells #[.int .i64 lo, .int .i64 hi] 29) = U7 at *
      obtain ⟨k0, k1, _, _, hk⟩ := box_cells E7.out
      have HK := Lib.hid hk
      have LO7 := Lib.hid (fun v (hb : Below U7.heap.size U7 v) => LO.out v (re_next G7.out hb))
      have HI7 := Lib.hid (fun v (hb : Below U7.heap.size U7 v) => HI.out v (re_next G7.out hb))
      clear LO HI
      go_region_held3 (fun w' => w'.cell? ⟨u7.heap.size, 0, none⟩ = some (.int .i64 lo) ∧ w'.cell? ⟨u7.heap.size, 1, none⟩ = some (.int .i64 hi) ∧ Below U7.heap.size U7 w')
        (first | assumption | (exact rr_keep2 (by assumption) (by assumption) HK.out HK.out) | (exact ⟨k0, k1, below_drew _⟩))
        (first
          | (go_at_call 21; (with_reducible refine (LO7.out _ (rr_below2 (p1 := ⟨u7.heap.size, 0, none⟩) (p2 := ⟨u7.heap.size, 1, none⟩) (x1 := .int .i64 lo) (x2 := .int .i64 hi) (by assumption))).mono ?_); rintro e v1 ⟨rfl, hbv1⟩)
          | (go_at_call 22; (with_reducible refine (HI7.out _ (rr_below2 (p1 := ⟨u7.heap.size, 0, none⟩) (p2 := ⟨u7.heap.size, 1, none⟩) (x1 := .int .i64 lo) (x2 := .int .i64 hi) (by assumption))).mono ?_); rintro e v2 ⟨rfl, hbv2⟩))
      all_goals
        rename_i hH
        have G8 := Lib.hid (re_next G7.out hH.2.2)
        clear hH LO7 HI7 k0 k1 hk HK E7 G7
        obtain ⟨x0, x1, x2, x3, _, _, _, _, hz⟩ := quad_all (own_below XM.out G8.out)
        by_cases hof : OfC l a b
        · have hab : a ≤ b := hof.2.2
          have by2 := be_yes (l := l) (L := L) hab
          have BT2 := Lib.hid (fun v (hb : Below wm.heap.size wm v) => PB.out.bet a b v (DM.out.below hb) (by have := NL.out; omega) PA.out.1 PA.out.2 QA.out.1 QA.out.2)
          rw [by2.1, by2.2.1, by2.2.2] at BT2
          have TO := Lib.hid (fun v => of_yes l a b v hof)
          have UN : uniB l = true := by
            have := hof.1
            obtain ⟨v1, v2, _⟩ := this
            unfold uniB; simp; omega
          have HUN := Lib.hid UN
          have u2 : 1 ≤ l ∧ l ≤ 48 := by have := hof.1; obtain ⟨v1, v2, _⟩ := this; omega
          have HAB := Lib.hid hab
          clear hof by2 UN hab
          go_wp2_with fail
          refine (TO.out _).mono ?_
          rintro e u9 ⟨A9', c9', T, rfl, hi9, hg9, hh9, hl9, hu9⟩
          have G9 := Lib.hid (re_next G8.out hu9)
          have I9 := Lib.hid hi9
          have on := on_run HAB.out RO.out hh9
          have ON9 := Lib.hid (fun v (hb : Below u9.heap.size u9 v) => PO.out.on_yes v (DM.out.below (re_next G9.out hb)) (by have := NL.out; omega) (I9.out.below hb) (bds_nodes hg9.1) (by omega) (good_all HUN.out hg9))
          rw [on.1, on.2] at ON9
          clear hi9 hg9 hh9 hl9 hu9 on TO G8 x0 x1 x2 x3 hz
          generalize btwL l L a b = p1 at *
          generalize btwH l L a b = p2 at *
          have q4 := both_same p1 p2
          go_wp2_with fail
          refine (BT2.out _ G9.out).mono ?_
          rintro e u10 ⟨rfl, hu10⟩
          have E10 := Lib.hid (box2 u10 29 (.int .i64 p1) (.int .i64 p2))
          have G10 := Lib.hid (hu10.alloc hu10.size (.cells #[.int .i64 p1, .int .i64 p2] 29))
          clear hu10 BT2
          go_upto_region 21 with fail
          generalize u10.alloc (.cells #[.int .i64 p1, .int .i64 p2] 29) = U10 at *
          go_wp2_with fail
          refine (ON9.out _ G10.out).mono ?_
          rintro e u11 ⟨rfl, hu11⟩
          have hv11 := hu11.alloc hu11.size (.cells #[.int .i64 p1, .int .i64 p2] 29)
          have E11 := Lib.hid (box2 u11 29 (.int .i64 p1) (.int .i64 p2))
          have E10' := Lib.hid (own_below E10.out hv11)
          have G11 := Lib.hid (GW.out.trans ((re_next G9.out (re_next G10.out hv11)).mono GW.out.size))
          clear hu11 hv11 ON9 E10
          go_upto_region 22 with fail
          generalize u11.alloc (.cells #[.int .i64 p1, .int .i64 p2] 29) = U11 at *
          obtain ⟨k0, k1, _, _, _⟩ := box_cells E10'.out
          obtain ⟨n0, n1', _, _, _⟩ := box_cells E11.out
          go_wp2_with (go_at_call 10; refine (AL.out _).mono ?_; rintro e v7 ⟨rfl, hbv7⟩)
          go_ret
          exact ⟨rfl, G11.out.trans (hbv7.mono G11.out.size)⟩
        · have TO := Lib.hid (fun v => of_no l a b v hof LL.out.1 LL.out.2 PA.out.1 PA.out.2 QA.out.1 QA.out.2)
          clear hof
          go_wp2_with fail
          refine (TO.out _).mono ?_
          rintro e u9 ⟨rfl, hu9⟩
          have G9 := Lib.hid (GW.out.trans ((re_next G8.out hu9).mono GW.out.size))
          clear hu9 TO x0 x1 x2 x3 hz
          go_wp2_with (go_at_call 10; refine (AL.out _).mono ?_; rintro e v7 ⟨rfl, hbv7⟩)
          go_ret
          exact ⟨rfl, G9.out.trans (hbv7.mono G9.out.size)⟩

end Go.Proofs.YtmfdpaahklndnaaGreat
