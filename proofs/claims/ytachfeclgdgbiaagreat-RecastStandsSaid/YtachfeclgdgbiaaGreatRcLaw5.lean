/- The walk of the statement RecastStands of layer recast, over the project's contracts: for every input it returns true, and nothing that was there before is changed. -/
import Derived.Test.YtachfeclgdgbiaaGreatRcP
import Derived.Test.YtachfeclgdgbiaaGreatRcStands
import Derived.Test.YtachfeclgdgbiaaGreatDgLaw9
import Derived.Test.YtachfeclgdgbiaaGreatBgS
import Derived.Test.YtachfeclgdgbiaaGreatOpQ
import Derived.Deep.Cut
import Derived.Deep.DeepCutAuto
namespace Go.Proofs.YtachfeclgdgbiaaGreat
set_option linter.unusedVariables false
set_option maxRecDepth 100000
open Go.RowKit

set_option maxHeartbeats 25600000 in
theorem walk_recastStandsK (K : RcK) (s : SideX) (a b id : Int) (K0 : -9223372036854775808 ≤ a) (K1 : a ≤ 9223372036854775807) (J0 : -9223372036854775808 ≤ b) (J1 : b ≤ 9223372036854775807) (I0 : -9223372036854775808 ≤ id) (I1 : id ≤ 9223372036854775807) (w : World) (hs : SideG w s) :
    Calls Tryz.prog 6 #[.agg #[.int .i64 s.l, .int .i64 s.k, .int .i64 s.kd, .slice s.A s.n s.c], .agg #[.int .i64 a, .int .i64 b, .int .i64 id]] w fun e w' => e = .returned (.bool true) ∧ Below w.heap.size w w' := by
  obtain ⟨l, k, kd, A, n, c, O⟩ := s
  obtain ⟨⟨L0, L1⟩, _, _, hp, hob, _⟩ := hs
  simp only at hp hob L0 L1 ⊢
  have e1 : (w.alloc (.cells #[.int .i64 l, .int .i64 k, .int .i64 kd, .slice A n c] 26)).heap.size = w.heap.size + 1 := by simp
  have HB0 : Hid (Below w.heap.size w ((w.alloc (.cells #[.int .i64 l, .int .i64 k, .int .i64 kd, .slice A n c] 26)).alloc (.cells #[.int .i64 a, .int .i64 b, .int .i64 id] 53))) := ((Below.refl _ _).alloc (Nat.le_refl _) _).alloc (by rw [e1]; omega) _
  have X0 := Lib.hid ((quad_new w 26 (.int .i64 l) (.int .i64 k) (.int .i64 kd) (.slice A n c)).alloc (.cells #[.int .i64 a, .int .i64 b, .int .i64 id] 53))
  have Y0 := tri_nw (w.alloc (.cells #[.int .i64 l, .int .i64 k, .int .i64 kd, .slice A n c] 26)) 53 (.int .i64 a) (.int .i64 b) (.int .i64 id)
  rw [e1] at Y0
  have Y0 := Lib.hid Y0
  have P0 := Lib.hid (hp.below HB0.out)
  have OB := Lib.hid hob
  have KK := Lib.hid K
  have LB := Lib.hid (And.intro L0 L1)
  have AB := Lib.hid (And.intro K0 K1)
  have IB := Lib.hid (And.intro I0 I1)
  obtain ⟨x0, x1, x2, x3, _, _, _, _, hz⟩ := quad_all X0.out
  obtain ⟨y0, y1, y2, _, _, _, hy⟩ := tri_all Y0.out
  clear hp hob K K0 K1 J0 J1 L0 L1 I0 I1 e1
  go_enter Tryz.func6, Tryz.ntmps6
  go_upto_region 1 with fail
  generalize (w.alloc (.cells #[.int .i64 l, .int .i64 k, .int .i64 kd, .slice A n c] 26)).alloc (.cells #[.int .i64 a, .int .i64 b, .int .i64 id] 53) = W at *
  go_cut [35] (fun s35 wx => ∃ bb, s35 = .bool bb ∧ (bb = false → n ≤ 100 ∧ a ≤ 48) ∧ Below W.heap.size W wx)
  case first =>
    by_cases q1 : 100 < n
    · have g1 : decide (100 < (n : Int)) = true := decide_eq_true (by omega)
      clear q1
      go_wp2_with fail
      go_meet
      exact ⟨true, rfl, fun z => by simp at z, Below.refl _ _⟩
    have g1 : decide (100 < (n : Int)) = false := decide_eq_false (by omega)
    have Q1 := Lib.hid q1
    by_cases q2 : kd = 1 ∧ 10 < l
    · have g2 : (kd == 1) = true := beq_iff_eq.2 q2.1
      have g3 : decide (10 < l) = true := decide_eq_true q2.2
      clear q2 q1
      go_wp2_with fail
      go_meet
      exact ⟨true, rfl, fun z => by simp at z, Below.refl _ _⟩
    have hk : ((kd == 1) = true ∧ decide (10 < l) = false) ∨ (kd == 1) = false := by
      by_cases z : kd = 1
      · exact .inl ⟨beq_iff_eq.2 z, decide_eq_false fun y => q2 ⟨z, y⟩⟩
      · exact .inr (beq_eq_false_iff_ne.2 z)
    clear q1 q2
    rcases hk with ⟨g2, g3⟩ | g2
    all_goals
      by_cases q4 : 48 < a
      · have g4 : decide (48 < a) = true := decide_eq_true q4
        clear q4
        go_wp2_with fail
        go_meet
        exact ⟨true, rfl, fun z => by simp at z, Below.refl _ _⟩
      have g4 : decide (48 < a) = false := decide_eq_false q4
      have QQ := Lib.hid (show a ≤ 48 by omega)
      clear q4
      go_wp2_with fail
      go_meet
      exact ⟨false, rfl, fun _ => ⟨by have := Q1.out; omega, QQ.out⟩, Below.refl _ _⟩
  case rest =>
    obtain ⟨bb, rfl, hcd, hbc⟩ := hcut
    have BC := Lib.hid hbc
    have CD := Lib.hid hcd
    clear hbc hcd x0 x1 x2 x3 hz y0 y1 y2 hy
    cases bb
    case true =>
      go_wp2_with (go_at_call 10; refine (KK.out.alive _).mono ?_; rintro e v7 ⟨rfl, hbv7⟩)
      go_ret
      exact ⟨rfl, HB0.out.trans ((BC.out.trans (hbv7.mono BC.out.size)).mono HB0.out.size)⟩
    obtain ⟨x0, x1, x2, x3, _, _, _, _, hz⟩ := quad_all (own_below X0.out BC.out)
    have cd := CD.out rfl
    have HN := Lib.hid cd.1
    have A48 := Lib.hid cd.2
    clear cd CD
    by_cases hc : kIs k = true ∧ isP kd l = true
    · have MD := Lib.hid (dgMade_any l k kd A n c O wc (P0.out.below BC.out) OB.out HN.out hc)
      have UL := Lib.hid (show 1 ≤ l ∧ l ≤ 48 by rcases of_decide_eq_true hc.2 with q | q <;> omega)
      clear hc
      go_wp2_with fail
      refine MD.out.mono ?_
      rintro e w3 ⟨q, p, g, h, T, A2, m2, c2, rfl, hd, hv, hlen, hds, hb3⟩
      generalize dgOf l k O = L at *
      have hba := (Below.refl w3.heap.size w3).alloc (Nat.le_refl _) (.cells #[.int .i64 l, .slice A2 m2 c2] 56)
      have B4 := Lib.hid ((BC.out.trans (hb3.mono BC.out.size)).trans (hba.mono (BC.out.trans (hb3.mono BC.out.size)).size))
      have D4 := Lib.hid (hd.below hba)
      have V4 := Lib.hid (hv.below hba)
      have T4 := Lib.hid (box2 w3 56 (.int .i64 l) (.slice A2 m2 c2))
      have N4 := Lib.hid (show n ≤ 400 by have := HN.out; omega)
      have LL := Lib.hid (show L.length ≤ 100 by have a := hd.po.len; have b := HN.out; omega)
      have TL := Lib.hid (show T.length ≤ 100 by have b := HN.out; omega)
      have M2 := Lib.hid (show m2 ≤ 100 by have a := (nodes_cells hv).1; have b := HN.out; omega)
      have VL := Lib.hid hd.v
      have DS := Lib.hid hds
      have PN : ∀ w, (binOp .eql 27 (.pointer (some ⟨q, 0, none⟩)) (.pointer none)).run Tryz.prog w = .ok (.bool false) w := fun _ => by kernel_rfl
      clear hd hv hlen hds hb3 hba MD x0 x1 x2 x3 hz
      obtain ⟨y0, y1, y2, _, _, _, hy⟩ := tri_all (own_below Y0.out B4.out)
      go_upto_region 6 with fail
      generalize w3.alloc (.cells #[.int .i64 l, .slice A2 m2 c2] 56) = W4 at *
      by_cases ho1 : l ≤ a ∧ isP kd a = true
      · have G1 := Lib.hid (KK.out.grow a _ D4.out N4.out ho1.1 ho1.2)
        have SG : Hid (DgS a (growW (a - l) L) T) := by
          have z := std_grow (b := a - l) VL.out DS.out (by omega) (by have := A48.out; omega)
          rwa [show l + (a - l) = a by omega] at z
        have GV : Hid (DgV a k (growW (a - l) L) ∧ (growW (a - l) L).length ≤ L.length ∧ sumC (growW (a - l) L) = sumC L) := by
          have z := dgV_grow (b := a - l) VL.out (by omega) (by have := A48.out; omega)
          rwa [show l + (a - l) = a by omega] at z
        have WI := Lib.hid (fun v => rgWider_any l a A2 m2 c2 v (by omega) (by have := A48.out; omega))
        clear ho1
        generalize growW (a - l) L = F at *
        go_wp2_with fail
        refine G1.out.mono ?_
        rintro e w5 ⟨hb5, q5, p5, g5, h5, rfl, hd5⟩
        have R5 := Lib.hid hb5
        have D5 := Lib.hid hd5
        clear hb5 hd5 G1 y0 y1 y2 hy
        obtain ⟨y0, y1, y2, _, _, _, hy⟩ := tri_all (own_below Y0.out (B4.out.trans (R5.out.mono B4.out.size)))
        obtain ⟨t0, t1, _, _, ht⟩ := box_cells (own_below T4.out R5.out)
        go_wp2_with fail
        refine (WI.out _).mono ?_
        rintro e w6 ⟨rfl, hb6⟩
        have hba := (Below.refl w6.heap.size w6).alloc (Nat.le_refl _) (.cells #[.int .i64 a, .slice A2 m2 c2] 56)
        have hbt := hb6.trans (hba.mono hb6.size)
        have R7 := Lib.hid (R5.out.trans (hbt.mono R5.out.size))
        have D7 := Lib.hid (D5.out.below hbt)
        have T7 := Lib.hid (box2 w6 56 (.int .i64 a) (.slice A2 m2 c2))
        clear hb6 hba hbt WI y0 y1 y2 hy t0 t1 ht
        obtain ⟨y0, y1, y2, _, _, _, hy⟩ := tri_all (own_below Y0.out (B4.out.trans (R7.out.mono B4.out.size)))
        obtain ⟨t0, t1, _, _, ht⟩ := box_cells T7.out
        go_upto_region 9 with fail
        generalize w6.alloc (.cells #[.int .i64 a, .slice A2 m2 c2] 56) = W7 at *
        go_wp2_with fail
        refine (rcStands_any id A2 m2 c2 _ D7.out (D4.out.below R7.out) (by have a := GV.out.2.1; have b := LL.out; omega) (by have := N4.out; omega) (V4.out.below R7.out) (by have := M2.out; omega) SG.out GV.out.2.2 GV.out.2.1 IB.out.1 IB.out.2).mono ?_
        rintro e w8 ⟨rfl, hb8⟩
        have RN := Lib.hid (R7.out.trans (hb8.mono R7.out.size))
        clear hb8 y0 y1 y2 hy t0 t1 ht
        go_upto_region 11 with fail
        by_cases hq : 0 ≤ b ∧ b < l
        · have C1 := Lib.hid (KK.out.coarsen b _ (D4.out.below RN.out) N4.out hq.1 hq.2)
          have SG := Lib.hid (dgS_prune VL.out DS.out hq.1 hq.2)
          have GV := Lib.hid (dgV_prune VL.out hq.1 hq.2)
          have IM := Lib.hid (fun v (hb : Below _ _ v) => rgImage_any l b A2 m2 c2 T v (V4.out.below hb) DS.out.bag (by have := M2.out; omega) hq.1 hq.2)
          clear hq
          have TI := Lib.hid (show (imgS T b).length ≤ 100 by have := img_len T b; have := TL.out; omega)
          generalize imgS T b = T2 at *
          generalize pruW (l - b) L = F at *
          generalize l - b = l2 at *
          obtain ⟨y0, y1, y2, _, _, _, hy⟩ := tri_all (own_below Y0.out (B4.out.trans (RN.out.mono B4.out.size)))
          go_wp2_with fail
          refine C1.out.mono ?_
          rintro e w20 ⟨hb20, q20, p20, g20, h20, rfl, hd20⟩
          have RC := Lib.hid (RN.out.trans (hb20.mono RN.out.size))
          have D20 := Lib.hid hd20
          clear hb20 hd20 C1 y0 y1 y2 hy
          obtain ⟨y0, y1, y2, _, _, _, hy⟩ := tri_all (own_below Y0.out (B4.out.trans (RC.out.mono B4.out.size)))
          obtain ⟨t0, t1, _, _, ht⟩ := box_cells (own_below T4.out RC.out)
          go_wp2_with fail
          refine (IM.out _ RC.out).mono ?_
          rintro e w21 ⟨A21, m21, c21, rfl, hv21, hb21, _⟩
          have hba := (Below.refl w21.heap.size w21).alloc (Nat.le_refl _) (.cells #[.int .i64 l2, .slice A21 m21 c21] 56)
          have hbt := hb21.trans (hba.mono hb21.size)
          have RD := Lib.hid (RC.out.trans (hbt.mono RC.out.size))
          have D21 := Lib.hid (D20.out.below hbt)
          have V21 := Lib.hid (hv21.below hba)
          have T21 := Lib.hid (box2 w21 56 (.int .i64 l2) (.slice A21 m21 c21))
          have M21 := Lib.hid (show m21 ≤ 1000 by have a := (nodes_cells hv21).1; have b := TI.out; omega)
          clear hb21 hba hbt hv21 IM y0 y1 y2 hy t0 t1 ht
          obtain ⟨y0, y1, y2, _, _, _, hy⟩ := tri_all (own_below Y0.out (B4.out.trans (RD.out.mono B4.out.size)))
          obtain ⟨t0, t1, _, _, ht⟩ := box_cells T21.out
          go_upto_region 14 with fail
          generalize w21.alloc (.cells #[.int .i64 l2, .slice A21 m21 c21] 56) = W21 at *
          go_wp2_with fail
          refine (rcStands_any id A21 m21 c21 _ D21.out (D4.out.below RD.out) (by have a := GV.out.2.1; have b := LL.out; omega) (by have := N4.out; omega) V21.out M21.out SG.out GV.out.2.2 GV.out.2.1 IB.out.1 IB.out.2).mono ?_
          rintro e w22 ⟨rfl, hb22⟩
          have RN := Lib.hid (RD.out.trans (hb22.mono RD.out.size))
          clear hb22 y0 y1 y2 hy t0 t1 ht
          go_wp2_with (go_at_call 10; refine (KK.out.alive _).mono ?_; rintro e v7 ⟨rfl, hbv7⟩)
          go_ret
          have z2 := RN.out.trans (hbv7.mono RN.out.size)
          exact ⟨rfl, HB0.out.trans ((B4.out.trans (z2.mono B4.out.size)).mono HB0.out.size)⟩
        · have C1 := Lib.hid (KK.out.coarsen_no b _ (D4.out.below RN.out) N4.out hq)
          clear hq
          obtain ⟨y0, y1, y2, _, _, _, hy⟩ := tri_all (own_below Y0.out (B4.out.trans (RN.out.mono B4.out.size)))
          go_wp2_with fail
          refine C1.out.mono ?_
          rintro e w20 ⟨rfl, hb20⟩
          have RN := Lib.hid (RN.out.trans (hb20.mono RN.out.size))
          clear hb20 y0 y1 y2 hy
          go_wp2_with (go_at_call 10; refine (KK.out.alive _).mono ?_; rintro e v7 ⟨rfl, hbv7⟩)
          go_ret
          have z2 := RN.out.trans (hbv7.mono RN.out.size)
          exact ⟨rfl, HB0.out.trans ((B4.out.trans (z2.mono B4.out.size)).mono HB0.out.size)⟩
      · have G1 := Lib.hid (KK.out.grow_no a _ D4.out N4.out AB.out.1 AB.out.2 ho1)
        clear ho1
        go_wp2_with fail
        refine G1.out.mono ?_
        rintro e w5 ⟨rfl, hb5⟩
        have RN := Lib.hid hb5
        clear hb5 G1 y0 y1 y2 hy
        go_upto_region 11 with fail
        by_cases hq : 0 ≤ b ∧ b < l
        · have C1 := Lib.hid (KK.out.coarsen b _ (D4.out.below RN.out) N4.out hq.1 hq.2)
          have SG := Lib.hid (dgS_prune VL.out DS.out hq.1 hq.2)
          have GV := Lib.hid (dgV_prune VL.out hq.1 hq.2)
          have IM := Lib.hid (fun v (hb : Below _ _ v) => rgImage_any l b A2 m2 c2 T v (V4.out.below hb) DS.out.bag (by have := M2.out; omega) hq.1 hq.2)
          clear hq
          have TI := Lib.hid (show (imgS T b).length ≤ 100 by have := img_len T b; have := TL.out; omega)
          generalize imgS T b = T2 at *
          generalize pruW (l - b) L = F at *
          generalize l - b = l2 at *
          obtain ⟨y0, y1, y2, _, _, _, hy⟩ := tri_all (own_below Y0.out (B4.out.trans (RN.out.mono B4.out.size)))
          go_wp2_with fail
          refine C1.out.mono ?_
          rintro e w20 ⟨hb20, q20, p20, g20, h20, rfl, hd20⟩
          have RC := Lib.hid (RN.out.trans (hb20.mono RN.out.size))
          have D20 := Lib.hid hd20
          clear hb20 hd20 C1 y0 y1 y2 hy
          obtain ⟨y0, y1, y2, _, _, _, hy⟩ := tri_all (own_below Y0.out (B4.out.trans (RC.out.mono B4.out.size)))
          obtain ⟨t0, t1, _, _, ht⟩ := box_cells (own_below T4.out RC.out)
          go_wp2_with fail
          refine (IM.out _ RC.out).mono ?_
          rintro e w21 ⟨A21, m21, c21, rfl, hv21, hb21, _⟩
          have hba := (Below.refl w21.heap.size w21).alloc (Nat.le_refl _) (.cells #[.int .i64 l2, .slice A21 m21 c21] 56)
          have hbt := hb21.trans (hba.mono hb21.size)
          have RD := Lib.hid (RC.out.trans (hbt.mono RC.out.size))
          have D21 := Lib.hid (D20.out.below hbt)
          have V21 := Lib.hid (hv21.below hba)
          have T21 := Lib.hid (box2 w21 56 (.int .i64 l2) (.slice A21 m21 c21))
          have M21 := Lib.hid (show m21 ≤ 1000 by have a := (nodes_cells hv21).1; have b := TI.out; omega)
          clear hb21 hba hbt hv21 IM y0 y1 y2 hy t0 t1 ht
          obtain ⟨y0, y1, y2, _, _, _, hy⟩ := tri_all (own_below Y0.out (B4.out.trans (RD.out.mono B4.out.size)))
          obtain ⟨t0, t1, _, _, ht⟩ := box_cells T21.out
          go_upto_region 14 with fail
          generalize w21.alloc (.cells #[.int .i64 l2, .slice A21 m21 c21] 56) = W21 at *
          go_wp2_with fail
          refine (rcStands_any id A21 m21 c21 _ D21.out (D4.out.below RD.out) (by have a := GV.out.2.1; have b := LL.out; omega) (by have := N4.out; omega) V21.out M21.out SG.out GV.out.2.2 GV.out.2.1 IB.out.1 IB.out.2).mono ?_
          rintro e w22 ⟨rfl, hb22⟩
          have RN := Lib.hid (RD.out.trans (hb22.mono RD.out.size))
          clear hb22 y0 y1 y2 hy t0 t1 ht
          go_wp2_with (go_at_call 10; refine (KK.out.alive _).mono ?_; rintro e v7 ⟨rfl, hbv7⟩)
          go_ret
          have z2 := RN.out.trans (hbv7.mono RN.out.size)
          exact ⟨rfl, HB0.out.trans ((B4.out.trans (z2.mono B4.out.size)).mono HB0.out.size)⟩
        · have C1 := Lib.hid (KK.out.coarsen_no b _ (D4.out.below RN.out) N4.out hq)
          clear hq
          obtain ⟨y0, y1, y2, _, _, _, hy⟩ := tri_all (own_below Y0.out (B4.out.trans (RN.out.mono B4.out.size)))
          go_wp2_with fail
          refine C1.out.mono ?_
          rintro e w20 ⟨rfl, hb20⟩
          have RN := Lib.hid (RN.out.trans (hb20.mono RN.out.size))
          clear hb20 y0 y1 y2 hy
          go_wp2_with (go_at_call 10; refine (KK.out.alive _).mono ?_; rintro e v7 ⟨rfl, hbv7⟩)
          go_ret
          have z2 := RN.out.trans (hbv7.mono RN.out.size)
          exact ⟨rfl, HB0.out.trans ((B4.out.trans (z2.mono B4.out.size)).mono HB0.out.size)⟩
    · have MD := Lib.hid (dgMade_no l k kd A n c wc hc LB.out.1 LB.out.2)
      clear hc
      go_wp2_with fail
      refine MD.out.mono ?_
      rintro e w3 ⟨rfl, hb3⟩
      have B3 := Lib.hid (BC.out.trans (hb3.mono BC.out.size))
      have B4 := Lib.hid (B3.out.alloc B3.out.size (.cells #[.int .i64 0, .slice none 0 0] 56))
      clear hb3 MD x0 x1 x2 x3 hz
      go_wp2_with (go_at_call 10; refine (KK.out.alive _).mono ?_; rintro e v7 ⟨rfl, hbv7⟩)
      go_ret
      exact ⟨rfl, HB0.out.trans ((B4.out.trans (hbv7.mono B4.out.size)).mono HB0.out.size)⟩

end Go.Proofs.YtachfeclgdgbiaaGreat
