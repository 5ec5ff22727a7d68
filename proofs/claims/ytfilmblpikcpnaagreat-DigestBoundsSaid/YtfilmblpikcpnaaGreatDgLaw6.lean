/- The walk of the statement DigestBounds of layer digest: for every input it returns true, and nothing that was there before is changed. -/
import Derived.Test.YtfilmblpikcpnaaGreatDgLaw
import Derived.Test.YtfilmblpikcpnaaGreatPrR
import Derived.Test.YtfilmblpikcpnaaGreatDrQ
import Derived.Deep.LoopGhost
import Derived.Deep.CutRange
import Derived.Deep.Cut
import Derived.Deep.CutBlock
import Derived.Deep.DeepCutAuto
import Derived.Deep.RegionHeld3
import Derived.Deep.RegionWith
namespace Go.Proofs.YtfilmblpikcpnaaGreat
set_option linter.unusedVariables false
set_option maxRecDepth 100000
open Go.RowKit

theorem keep_threeD {W a b : World} {p q r : Addr} {x y z : Value} (h : a.cell? p = some x ∧ a.cell? q = some y ∧ a.cell? r = some z ∧ Below W.heap.size W a) (hb : Below a.heap.size a b) (hp : p.block < W.heap.size) (hq : q.block < W.heap.size) (hr : r.block < W.heap.size) : b.cell? p = some x ∧ b.cell? q = some y ∧ b.cell? r = some z ∧ Below W.heap.size W b := by
  obtain ⟨h1, h2, h3, h4⟩ := h
  have hz := h4.size
  exact ⟨(hb.cell (by omega)).trans h1, (hb.cell (by omega)).trans h2, (hb.cell (by omega)).trans h3, h4.trans (hb.mono hz)⟩
theorem below_threeD {W a : World} {p q r : Addr} {x y z : Value} (h : a.cell? p = some x ∧ a.cell? q = some y ∧ a.cell? r = some z ∧ Below W.heap.size W a) : Below W.heap.size W a := h.2.2.2
theorem dgDo_sum {l k : Int} {L : List Nd} (v : DgV l k L) (kd x c : Int) : (kd = 2 → sumC (dgDo l k L kd x c) = 0) ∧ (kd = 1 → sumC (dgDo l k L kd x c) = sumC L) ∧
    (¬ kd = 1 → ¬ kd = 2 → dgTell l k L kd x c = 0 → sumC (dgDo l k L kd x c) = sumC L + c) ∧ (¬ kd = 1 → ¬ kd = 2 → ¬ dgTell l k L kd x c = 0 → sumC (dgDo l k L kd x c) = sumC L) := by
  refine ⟨fun h => ?_, fun h => ?_, fun h1 h2 h3 => ?_, fun h1 h2 h3 => ?_⟩
  · subst h; rfl
  · subst h; exact (dgV_press v).2.2.2
  · have t := (dgIns_tot v x c).1
    unfold dgDo dgTell at *
    rw [if_neg h1, if_neg h2] at h3 ⊢
    rw [t, if_pos h3]
  · have t := (dgIns_tot v x c).1
    unfold dgDo dgTell at *
    rw [if_neg h1, if_neg h2] at h3 ⊢
    rw [t, if_neg h3]; omega
theorem dgV_sum {l k : Int} {L : List Nd} (v : DgV l k L) : 0 ≤ sumC L ∧ sumC L ≤ 72057594037927935 := by
  have nn := good_nonneg (roll_good v.roll)
  exact ⟨Int.le_trans (sum_le nn 0).1 (sum_le nn 0).2, v.roll.2.2.2.2⟩
theorem dgV_lightB {l k : Int} {L : List Nd} (v : DgV l k L) : lightB l L k = true := by
  have hk : kIs k = true := decide_eq_true ⟨v.k1, v.k2⟩
  unfold lightB
  rw [hk]
  have z : LightC l (capW L k) L := v.light
  simp [z]
set_option maxHeartbeats 12800000 in
theorem walk_digestBounds (l k kd : Int) (A : Option Addr) (n c : Nat) (O : List Pl) (L0 : -9223372036854775808 ≤ l) (L1 : l ≤ 9223372036854775807) (K0 : -9223372036854775808 ≤ k) (K1 : k ≤ 9223372036854775807) (D0 : -9223372036854775808 ≤ kd) (D1 : kd ≤ 9223372036854775807) (OB : OBds O) (m1 : n ≤ 9223372036854775807)
    (w : World) (H1 : PlacedAt w (.slice A n c) O) :
    Calls Tryz.prog 5 #[.agg #[.int .i64 l, .int .i64 k, .int .i64 kd], .slice A n c] w fun e w' => e = .returned (.bool true) ∧ Below w.heap.size w w' := by
  have HB0 : Hid (Below w.heap.size w (w.alloc (.cells #[.int .i64 l, .int .i64 k, .int .i64 kd] 23))) := (Below.refl _ _).alloc (Nat.le_refl _) _
  have X0 := Lib.hid (tri_nw w 23 (.int .i64 l) (.int .i64 k) (.int .i64 kd))
  obtain ⟨x0, x1, x2, _, _, _, hz⟩ := tri_all X0.out
  have HL := Lib.hid (placed_cells H1).1
  have HA := Lib.hid (placed_cells H1).2.2.2
  have HB := Lib.hid OB
  have Z0 : Hid ((w.alloc (.cells #[.int .i64 l, .int .i64 k, .int .i64 kd] 23)).heap.size = w.heap.size + 1) := by show _ = _; simp
  clear H1 OB K0 K1 D0 D1
  by_cases hn : n ≤ 200
  · have g0 : decide (200 < (n : Int)) = false := decide_eq_false (by omega)
    by_cases hkl : kd = 1 ∧ 10 < l
    · have g1 : (kd == 1) = true := beq_iff_eq.2 hkl.1
      have g2 : decide (10 < l) = true := decide_eq_true hkl.2
      clear hkl hn
      go_enter Tryz.func5, Tryz.ntmps5
      go_wp2_with (go_at_call 11; refine (dgAlive_any _).mono ?_; rintro e v7 ⟨rfl, hbv7⟩)
      go_ret
      exact ⟨rfl, HB0.out.trans (hbv7.mono HB0.out.size)⟩
    · have HKL := Lib.hid hkl
      clear hkl
      go_enter Tryz.func5, Tryz.ntmps5
      go_upto_region 1 with fail
      go_cut [24] (fun s24 wx => s24 = .bool false ∧ wx = w.alloc (.cells #[.int .i64 l, .int .i64 k, .int .i64 kd] 23))
      case first =>
        by_cases hk1 : kd = 1
        · have g1 : (kd == 1) = true := beq_iff_eq.2 hk1
          have g2 : decide (10 < l) = false := decide_eq_false fun z => HKL.out ⟨hk1, z⟩
          clear hk1
          go_wp2_with fail
          go_meet
          case rel => exact ⟨rfl, rfl⟩
        · have g1 : (kd == 1) = false := beq_eq_false_iff_ne.2 hk1
          clear hk1
          go_wp2_with fail
          go_meet
          case rel => exact ⟨rfl, rfl⟩
      case rest =>
        obtain ⟨rfl, rfl⟩ := hcut
        clear g0
        by_cases hc : kIs k = true ∧ isP kd l = true
        · have NW := Lib.hid (fun w => dgNew_ok kd l k w hc.1 hc.2)
          have kb : 1 ≤ k ∧ k ≤ 1048576 := of_decide_eq_true hc.1
          have hw8 : IntKind.i64.wrap (8 * k) = 8 * k := wrap_lit rfl (by omega) (by omega)
          have hw4 : IntKind.i64.wrap (4 * k) = 4 * k := wrap_lit rfl (by omega) (by omega)
          have hw41 : IntKind.i64.wrap (4 * k - 1) = 4 * k - 1 := wrap_lit rfl (by omega) (by omega)
          clear hc L0 L1
          go_wp2_with fail
          generalize w.alloc (.cells #[.int .i64 l, .int .i64 k, .int .i64 kd] 23) = W at *
          refine (NW.out _).mono ?_
          rintro e w1 ⟨hb1, q, p, g, h, rfl, hd⟩
          have X1 := Lib.hid (own_below X0.out hb1)
          have D1 : Hid (DgA w1 (w.heap.size + 1) q p g h kd l k 0 []) := hd.low (by have := Z0.out; omega)
          have B1 := Lib.hid (HB0.out.trans (hb1.mono HB0.out.size))
          clear hb1 hd NW x0 x1 x2
          go_wp2_with fail
          go_loopg [7, 40] n (fun gk s i wr => ∃ (j : Nat) (L : List Nd) (p g h : Nat), j ≤ n ∧ s = .int .i64 (sumC L) ∧ i = .int .i64 j ∧ DgA wr (w.heap.size + 1) q p g h kd l k j L ∧
            wr.ownsRow w.heap.size 23 3 (.slice (some ⟨w.heap.size, 0, none⟩) 1 1) 1 [.int .i64 l, .int .i64 k, .int .i64 kd] ∧ Below w.heap.size w wr ∧ n - j ≤ gk)
          case atStart => exact ⟨0, [], p, g, h, by omega, rfl, rfl, D1.out, X1.out, B1.out, by omega⟩
          case round =>
            obtain ⟨j, L, p, g, h, hj, rfl, rfl, hd, hcb, hb, hgk⟩ := hrel
            have DD := Lib.hid hd
            have CB := Lib.hid hcb
            have BB := Lib.hid hb
            have HG := Lib.hid hgk
            have hzr := hb.size
            clear hd hcb hgk
            by_cases hlt : j < n
            · have hk2 : j < O.length := by have := HL.out; omega
              obtain ⟨bq, o, rfl, hin⟩ := HA.out (by have := HL.out; omega)
              obtain ⟨e0, e1, e2⟩ := (hin.below hb hin.1).2 j hk2
              have hbd := obds_at HB.out hk2
              obtain ⟨_, ⟨b2, b3⟩, b4, b5⟩ := hbd
              have hbl := hin.1
              clear hin hb
              generalize O.getD j plz = r at *
              obtain ⟨⟨kq, id⟩, cc⟩ := r
              simp only at e0 e1 e2 b2 b3 b4 b5
              have hba : Below wr.heap.size wr (wr.alloc (.cells #[.int .i64 kq, .int .i64 id, .int .i64 cc] 39)) := (Below.refl _ _).alloc (Nat.le_refl _) _
              have TR := Lib.hid (tri_nw wr 39 (.int .i64 kq) (.int .i64 id) (.int .i64 cc))
              have DD1 := Lib.hid (DD.out.below hba)
              have CB1 := Lib.hid (own_below CB.out hba)
              have BB1 := Lib.hid (BB.out.trans (hba.mono hzr))
              have NA : Hid (∀ i, dgF q p g h i → i ≠ wr.heap.size) := fun i f => by have := (DD.out.lt i f).2; omega
              have SUM := Lib.hid (dgDo_sum DD.out.v kq id cc)
              have PA : Hid (kq = 1 → ((dgDo l k L kq id cc).length : Int) ≤ 4 * k - 1 ∧ pressN l k (dgDo l k L kq id cc) = 0) := fun z => by
                subst z
                exact ⟨(dgV_press DD.out.v).2.1, press_again DD.out.v.roll⟩
              have SB := Lib.hid (dgV_sum DD.out.v)
              clear hba
              go_wp2_with fail
              generalize wr.alloc (.cells #[.int .i64 kq, .int .i64 id, .int .i64 cc] 39) = W1 at *
              refine (dgLdo_any kq id cc W1 DD1.out (by omega) b2 b3 b4 b5).mono ?_
              rintro e w5 ⟨rfl, p', g', h', hd5, hk5, hn5⟩
              have DD5 := Lib.hid hd5
              have CB5 := Lib.hid (own_kp CB1.out hk5 fun i e f => by
                simp only [Value.ownBlock, Option.some.injEq] at e
                have := (DD1.out.lt i f).1
                omega)
              have TR5 := Lib.hid (own_kp TR.out hk5 fun i e f => by
                simp only [Value.ownBlock, Option.some.injEq] at e
                exact NA.out i f e.symm)
              have BB5 : Hid (Below w.heap.size w w5) := BB1.out.trans (hk5.below (fun i _ f => by have := (DD1.out.lt i f).1; omega) BB1.out.size)
              have SB5 := Lib.hid (dgV_sum DD5.out.v)
              have LB5 := Lib.hid (dgV_lightB DD5.out.v)
              have LEN5 := Lib.hid DD5.out.v.len
              obtain ⟨x0, x1, x2, _, _, _, hx⟩ := tri_all CB5.out
              obtain ⟨t0, t1, t2, _, _, _, ht⟩ := tri_all TR5.out
              obtain ⟨L', hL'⟩ : ∃ x, x = dgDo l k L kq id cc := ⟨_, rfl⟩
              rw [← hL'] at DD5 SB5 LB5 LEN5 SUM PA
              clear hL' hd5 hk5 hn5 e0 e1 e2
              generalize dgTell l k L kq id cc = tt at *
              go_upto_block 2 with fail
              go_cut [7] (fun s7 wx => s7 = .int .i64 (sumC L') ∧ wx = w5)
              case first =>
                by_cases q2 : kq = 2
                · have a1 : (kq == 2) = true := beq_iff_eq.2 q2
                  have a2 := SUM.out.1 q2
                  clear q2
                  go_wp2_with fail
                  go_meet
                  case rel => exact ⟨by rw [a2], rfl⟩
                · have a1 : (kq == 2) = false := beq_eq_false_iff_ne.2 q2
                  by_cases q1 : kq = 1
                  · have a2 : (kq == 1) = true := beq_iff_eq.2 q1
                    have a3 : (kq != 1) = false := by simp [q1]
                    have a4 := SUM.out.2.1 q1
                    clear q1 q2
                    go_wp2_with fail
                    go_meet
                    case rel => exact ⟨by rw [a4], rfl⟩
                  · have a2 : (kq == 1) = false := beq_eq_false_iff_ne.2 q1
                    have a3 : (kq != 1) = true := bne_iff_ne.2 q1
                    by_cases q3 : tt = 0
                    · have a4 : (tt == 0) = true := beq_iff_eq.2 q3
                      have a5 := SUM.out.2.2.1 q1 q2 q3
                      have a6 := SB5.out
                      have a7 : IntKind.i64.wrap (sumC L + cc) = sumC L + cc := wrap_lit rfl (by omega) (by omega)
                      clear q1 q2 q3
                      go_wp2_with fail
                      go_meet
                      case rel => exact ⟨by rw [a5], rfl⟩
                    · have a4 : (tt == 0) = false := beq_eq_false_iff_ne.2 q3
                      have a5 := SUM.out.2.2.2 q1 q2 q3
                      clear q1 q2 q3
                      go_wp2_with fail
                      go_meet
                      case rel => exact ⟨by rw [a5], rfl⟩
              case rest =>
                obtain ⟨rfl, rfl⟩ := hcut
                obtain ⟨wm, hm⟩ : ∃ wm : World, wm = wc := ⟨_, rfl⟩
                subst hm
                have ND := Lib.hid (fun v (hb : Below wm.heap.size wm v) => dgNodes_any v (DD5.out.below hb).box (DD5.out.below hb).po (by omega))
                have HX := Lib.hid hx
                go_upto_region 15 with fail
                go_cut [11] (fun s11 wx => ∃ (A3 : Option Addr) (m3 c3 qs : Nat), s11 = .pointer (some ⟨qs, 0, none⟩) ∧ wx.ownsRow wm.heap.size 34 2 (.slice (some ⟨qs, 0, none⟩) 1 1) 1 [.int .i64 l, .slice A3 m3 c3] ∧ NodesAt wx (.slice A3 m3 c3) L' ∧ Below wm.heap.size wm wx)
                case first =>
                  have KW : Hid (∀ v, Below wm.heap.size wm v → v.cell? ⟨w.heap.size, 0, none⟩ = some (.int .i64 l)) := fun v hb => (hb.cell (p := ⟨w.heap.size, 0, none⟩) HX.out).trans x0
                  go_region_with (go_at_call 19; refine (ND.out _ (by first | (exact below_drew _) | (exact (below_drew _).alloc (Nat.le_refl _) _))).mono ?_; rintro e w6 ⟨A3, m3, c3, rfl, ho3, hb3⟩; have hw6 : Below wm.heap.size wm w6 := Below.trans (by first | (exact below_drew _) | (exact (below_drew _).alloc (Nat.le_refl _) _)) (Below.mono hb3 (by simp)); have k0 := KW.out w6 hw6; have k1 : w.heap.size < w6.heap.size := Nat.lt_of_lt_of_le HX.out hw6.size; first | (have du : Hid (w6.ownsRow wm.heap.size 34 2 (.slice (some ⟨wm.heap.size, 0, none⟩) 1 1) 1 [.int .i64 0, .slice none 0 0]) := own_below (box2 wm.drew _ _ _) hb3; obtain ⟨v0, v1, v2, v3, _⟩ := box_cells du.out) | skip)
                  all_goals go_wp2_with fail
                  all_goals go_meet
                  all_goals first
                    | (exact ⟨A3, m3, c3, wm.heap.size, rfl, (box_set du.out _ _).1, ownNd_nodes ((box_set du.out _ _).2.1 _ _ _ _ _ _ (by decide) ho3), (hw6.setCell (p := ⟨wm.heap.size, 0, none⟩) (Nat.le_refl _) _).setCell (p := ⟨wm.heap.size, 1, none⟩) (Nat.le_refl _) _⟩)
                    | (exact ⟨A3, m3, c3, w6.heap.size, rfl, own_low (box2 _ _ _ _) hw6.size, (ownNd_nodes ho3).below ((Below.refl _ _).alloc (Nat.le_refl _) _), hw6.alloc hw6.size _⟩)
                case rest =>
                  obtain ⟨A3, m3, c3, qs, rfl, hs, hv, hbc⟩ := hcut
                  have DD6 := Lib.hid (DD5.out.below hbc)
                  have CB6 := Lib.hid (own_below CB5.out hbc)
                  have TR6 := Lib.hid (own_below TR5.out hbc)
                  have BB6 := Lib.hid (BB5.out.trans (hbc.mono BB5.out.size))
                  have HV := Lib.hid hv
                  have hm3 := (nodes_cells hv).1
                  have hm4 : m3 ≤ 400 := by have := DD6.out.po.len; omega
                  have LN := Lib.hid (fun v (hb : Below wc.heap.size wc v) => dgLen_any v (DD6.out.below hb).box (DD6.out.below hb).po (by omega))
                  rw [← hm3] at LN
                  have NN := Lib.hid (fun v (hb : Below wc.heap.size wc v) => dgN_any v (DD6.out.below hb).box (DD6.out.below hb).po (by omega))
                  have RT := Lib.hid (fun v (hb : Below wc.heap.size wc v) => rsTotal_any l A3 m3 c3 L' v (HV.out.below hb) DD6.out.po.roll (by omega))
                  have LT := Lib.hid (fun v (hb : Below wc.heap.size wc v) => rPrLight_any l k A3 m3 c3 L' v (HV.out.below hb) DD6.out.po.roll (by omega) (by omega) (by omega))
                  rw [LB5.out] at LT
                  have CL := Lib.hid (fun v (hb : Below wc.heap.size wc v) => (dgClone_any v (DD6.out.below hb) (by omega)).mono (R' := fun e w' => ∃ q2 p2 g2 h2, e = .returned (.pointer (some ⟨q2, 0, none⟩)) ∧ DgA w' wc.heap.size q2 p2 g2 h2 kd l k (j + 1) L' ∧ Below wc.heap.size wc w') fun e w' ⟨q2, p2, g2, h2, a, b, c⟩ => ⟨q2, p2, g2, h2, a, b.low hb.size, hb.trans (c.mono hb.size)⟩)
                  have CC : Hid (kq = 1 → ∀ (v : World) (q2 p2 g2 h2 : Nat) (d : DgA v wc.heap.size q2 p2 g2 h2 kd l k (j + 1) L') (hb : Below wc.heap.size wc v), Calls Tryz.prog 25 #[.pointer (some ⟨q2, 0, none⟩)] v fun e w' => e = .returned (.int .i64 0) ∧ Below wc.heap.size wc w') := fun z v q2 p2 g2 h2 d hb =>
                    (dgCompress_any v d (by omega)).mono fun e w' ⟨a, _, _, _, _, b, _⟩ => ⟨by rw [a, (PA.out z).2]; rfl, hb.trans (b.below (fun i _ f => (d.lt i f).1) hb.size)⟩
                  have z1 : decide (8 * k < (m3 : Int)) = false := decide_eq_false (by have := LEN5.out; omega)
                  have PL : Hid (kq = 1 → (m3 : Int) ≤ 4 * k - 1) := fun z => by have := (PA.out z).1; omega
                  obtain ⟨x0, x1, x2, _, _, _, hx⟩ := tri_all CB6.out
                  obtain ⟨t0, t1, t2, _, _, _, ht⟩ := tri_all TR6.out
                  obtain ⟨s0, s1, _, _, hsz⟩ := box_cells hs
                  have HZ := Lib.hid hx
                  have HTZ := Lib.hid ht
                  have HS := Lib.hid hsz
                  have KC : Hid (∀ v, Below wc.heap.size wc v → v.cell? ⟨wr.heap.size, 0, none⟩ = some (.int .i64 kq) ∧ v.cell? ⟨w.heap.size, 1, none⟩ = some (.int .i64 k) ∧ Below wc.heap.size wc v) := fun v hb => ⟨(hb.cell (p := ⟨wr.heap.size, 0, none⟩) HTZ.out).trans t0, (hb.cell (p := ⟨w.heap.size, 1, none⟩) HZ.out).trans x1, hb⟩
                  have SM : Hid (∃ s, s = sumC L') := ⟨_, rfl⟩
                  clear hs hv hbc hm3 ND LB5 LEN5 PA SUM
                  obtain ⟨s, hsm⟩ := SM.out
                  rw [← hsm] at NN RT ⊢
                  have SE := Lib.hid hsm
                  clear hsm SM
                  have hne : (s != s) = false := by simp
                  have hne2 : ((m3 : Int) != (m3 : Int)) = false := by simp
                  go_wp2_with fail
                  go_region_held3 (fun w' => w'.cell? ⟨w.heap.size, 1, none⟩ = some (.int .i64 k) ∧ w'.cell? ⟨qs, 0, none⟩ = some (.int .i64 l) ∧ w'.cell? ⟨qs, 1, none⟩ = some (.slice A3 m3 c3) ∧ Below wc.heap.size wc w')
                    (first | assumption | (exact keep_threeD (by assumption) (by assumption) HZ.out HS.out HS.out) | (exact ⟨x1, s0, s1, below_drew _⟩))
                    (first
                      | (go_at_call 20; refine (LN.out _ (below_threeD (p := ⟨w.heap.size, 1, none⟩) (q := ⟨qs, 0, none⟩) (r := ⟨qs, 1, none⟩) (x := .int .i64 k) (y := .int .i64 l) (z := .slice A3 m3 c3) (by assumption))).mono ?_; rintro e v1 ⟨rfl, hbv1⟩)
                      | (go_at_call 21; refine (NN.out _ (below_threeD (p := ⟨w.heap.size, 1, none⟩) (q := ⟨qs, 0, none⟩) (r := ⟨qs, 1, none⟩) (x := .int .i64 k) (y := .int .i64 l) (z := .slice A3 m3 c3) (by assumption))).mono ?_; rintro e v2 ⟨rfl, hbv2⟩)
                      | (go_at_call 22; refine (RT.out _ (below_threeD (p := ⟨w.heap.size, 1, none⟩) (q := ⟨qs, 0, none⟩) (r := ⟨qs, 1, none⟩) (x := .int .i64 k) (y := .int .i64 l) (z := .slice A3 m3 c3) (by assumption))).mono ?_; rintro e v3 ⟨rfl, hbv3⟩)
                      | (go_at_call 23; refine (LT.out _ (below_threeD (p := ⟨w.heap.size, 1, none⟩) (q := ⟨qs, 0, none⟩) (r := ⟨qs, 1, none⟩) (x := .int .i64 k) (y := .int .i64 l) (z := .slice A3 m3 c3) (by assumption))).mono ?_; rintro e v4 ⟨rfl, hbv4⟩))
                  rename_i hH
                  have hbb := hH.2.2.2
                  have KB := KC.out _ hbb
                  have D8 := Lib.hid (DD6.out.below hbb)
                  have C8 := Lib.hid (own_below CB6.out hbb)
                  have B8 := Lib.hid (BB6.out.trans (hbb.mono BB6.out.size))
                  have H8 := Lib.hid hbb
                  obtain ⟨y0, y1, _⟩ := KB
                  clear hH hbb x0 x1 x2 t0 t1 t2 s0 s1 NN RT LT
                  go_wp2_with fail
                  by_cases h1 : kq = 1
                  · have a1 : (kq == 1) = true := beq_iff_eq.2 h1
                    have CC1 := Lib.hid (CC.out h1)
                    have z2 : decide (4 * k - 1 < (m3 : Int)) = false := decide_eq_false (by have := PL.out h1; omega)
                    clear h1 CC PL
                    go_region_held3 (fun w' => w'.cell? ⟨wr.heap.size, 0, none⟩ = some (.int .i64 kq) ∧ w'.cell? ⟨w.heap.size, 1, none⟩ = some (.int .i64 k) ∧ Below wc.heap.size wc w')
                      (first | assumption | (exact KC.out _ hc3) | (exact KC.out _ hc2) | (exact keep_two (by assumption) (by assumption) HTZ.out HZ.out) | (exact KC.out _ (H8.out.trans ((below_drew _).mono H8.out.size))))
                      (first
                        | (go_at_call 20; refine (LN.out _ (below_of (p := ⟨wr.heap.size, 0, none⟩) (q := ⟨w.heap.size, 1, none⟩) (x := .int .i64 kq) (y := .int .i64 k) (by assumption))).mono ?_; rintro e v1 ⟨rfl, hbv1⟩)
                        | (go_at_call 24; refine (CL.out _ (below_of (p := ⟨wr.heap.size, 0, none⟩) (q := ⟨w.heap.size, 1, none⟩) (x := .int .i64 kq) (y := .int .i64 k) (by assumption))).mono ?_; rintro e v2 ⟨q2, p2, g2, h2, rfl, hd2, hc2⟩)
                        | (go_at_call 25; refine (CC1.out _ q2 p2 g2 h2 hd2 hc2).mono ?_; rintro e v3 ⟨rfl, hc3⟩))
                    rename_i hH2
                    have hb9 := hH2.2.2
                    have D9 := Lib.hid (DD6.out.below hb9)
                    have C9 := Lib.hid (own_below CB6.out hb9)
                    have B9 := Lib.hid (BB6.out.trans (hb9.mono BB6.out.size))
                    clear hH2 hb9 y0 y1
                    go_wp2_with fail
                    go_roundg (n - (j + 1))
                    case rel => exact ⟨j + 1, L', p', g', h', by omega, by rw [SE.out], by go_num, D9.out, C9.out, B9.out, by omega⟩
                    case measure => have := HG.out; omega
                  · have a1 : (kq == 1) = false := beq_eq_false_iff_ne.2 h1
                    clear h1 CC PL
                    go_quiet (fail)
                    have D9 := Lib.hid (D8.out.below (drewN_below (Below.refl _ _) nq))
                    have C9 := Lib.hid (own_below C8.out (drewN_below (Below.refl _ _) nq))
                    have B9 := Lib.hid (drewN_below B8.out nq)
                    clear y0 y1
                    go_wp2_with fail
                    go_roundg (n - (j + 1))
                    case rel => exact ⟨j + 1, L', p', g', h', by omega, by rw [SE.out], by go_num, D9.out, C9.out, B9.out, by omega⟩
                    case measure => have := HG.out; omega
            · go_wp2_with (go_at_call 11; refine (dgAlive_any _).mono ?_; rintro e w9 ⟨rfl, hb9⟩)
              go_ret
              exact ⟨rfl, BB.out.trans (hb9.mono BB.out.size)⟩
        · have NW := Lib.hid (fun w => dgNew_no kd l k w hc L0 L1)
          clear hc
          go_wp2_with fail
          generalize w.alloc (.cells #[.int .i64 l, .int .i64 k, .int .i64 kd] 23) = W at *
          refine (NW.out _).mono ?_
          rintro e w1 ⟨rfl, hb1⟩
          have B1 := Lib.hid (HB0.out.trans (hb1.mono HB0.out.size))
          clear hb1 NW
          go_wp2_with (go_at_call 11; refine (dgAlive_any _).mono ?_; rintro e v7 ⟨rfl, hbv7⟩)
          go_ret
          exact ⟨rfl, B1.out.trans (hbv7.mono B1.out.size)⟩
  · have g0 : decide (200 < (n : Int)) = true := decide_eq_true (by omega)
    clear hn
    go_enter Tryz.func5, Tryz.ntmps5
    go_wp2_with (go_at_call 11; refine (dgAlive_any _).mono ?_; rintro e v7 ⟨rfl, hbv7⟩)
    go_ret
    exact ⟨rfl, HB0.out.trans (hbv7.mono HB0.out.size)⟩

end Go.Proofs.YtfilmblpikcpnaaGreat
