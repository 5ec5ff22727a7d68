/- The walk of the statement RecastSteps of layer recast, over the project's contracts: for every input it returns true, and nothing that was there before is changed. -/
import Derived.Test.YtachfeclgdgbiaaGreatRcP
import Derived.Test.YtachfeclgdgbiaaGreatDgLaw9
import Derived.Test.YtachfeclgdgbiaaGreatOpQ
import Derived.Deep.Cut
import Derived.Deep.DeepCutAuto
namespace Go.Proofs.YtachfeclgdgbiaaGreat
set_option linter.unusedVariables false
set_option maxRecDepth 100000
open Go.RowKit

set_option maxHeartbeats 25600000 in
theorem walk_recastStepsK (K : RcK) (s : SideX) (a b : Int) (K0 : -9223372036854775808 ≤ a) (K1 : a ≤ 9223372036854775807) (J0 : -9223372036854775808 ≤ b) (J1 : b ≤ 9223372036854775807) (w : World) (hs : SideG w s) :
    Calls Tryz.prog 7 #[.agg #[.int .i64 s.l, .int .i64 s.k, .int .i64 s.kd, .slice s.A s.n s.c], .int .i64 a, .int .i64 b] w fun e w' => e = .returned (.bool true) ∧ Below w.heap.size w w' := by
  obtain ⟨l, k, kd, A, n, c, O⟩ := s
  obtain ⟨⟨L0, L1⟩, _, _, hp, hob, _⟩ := hs
  simp only at hp hob L0 L1 ⊢
  have HB0 : Hid (Below w.heap.size w (w.alloc (.cells #[.int .i64 l, .int .i64 k, .int .i64 kd, .slice A n c] 26))) := (Below.refl _ _).alloc (Nat.le_refl _) _
  have X0 := Lib.hid (quad_new w 26 (.int .i64 l) (.int .i64 k) (.int .i64 kd) (.slice A n c))
  have P0 := Lib.hid (hp.below HB0.out)
  have OB := Lib.hid hob
  have KK := Lib.hid K
  have LB := Lib.hid (And.intro L0 L1)
  obtain ⟨x0, x1, x2, x3, _, _, _, _, hz⟩ := quad_all X0.out
  clear hp hob K K0 K1 J0 J1 L0 L1
  go_enter Tryz.func7, Tryz.ntmps7
  go_upto_region 1 with fail
  generalize w.alloc (.cells #[.int .i64 l, .int .i64 k, .int .i64 kd, .slice A n c] 26) = W at *
  go_cut [53] (fun s53 wx => ∃ bb, s53 = .bool bb ∧ (bb = false → n ≤ 100 ∧ 0 ≤ a ∧ a ≤ 48 ∧ 0 ≤ b ∧ b ≤ 48) ∧ Below W.heap.size W wx)
  case first =>
    by_cases q1 : 100 < n
    · have g1 : decide (100 < (n : Int)) = true := decide_eq_true (by omega)
      clear q1
      go_wp2_with fail
      go_meet
      exact ⟨true, rfl, fun z => by simp at z, Below.refl _ _⟩
    have g1 : decide (100 < (n : Int)) = false := decide_eq_false (by omega)
    have Q1 := Lib.hid q1
    by_cases q2 : kd = 1 ∧ 10 < l
    · have g2 : (kd == 1) = true := beq_iff_eq.2 q2.1
      have g3 : decide (10 < l) = true := decide_eq_true q2.2
      clear q2 q1
      go_wp2_with fail
      go_meet
      exact ⟨true, rfl, fun z => by simp at z, Below.refl _ _⟩
    have hk : ((kd == 1) = true ∧ decide (10 < l) = false) ∨ (kd == 1) = false := by
      by_cases z : kd = 1
      · exact .inl ⟨beq_iff_eq.2 z, decide_eq_false fun y => q2 ⟨z, y⟩⟩
      · exact .inr (beq_eq_false_iff_ne.2 z)
    clear q1 q2
    rcases hk with ⟨g2, g3⟩ | g2
    all_goals
      by_cases q4 : a < 0
      · have g4 : decide (a < 0) = true := decide_eq_true q4
        clear q4
        go_wp2_with fail
        go_meet
        exact ⟨true, rfl, fun z => by simp at z, Below.refl _ _⟩
      have g4 : decide (a < 0) = false := decide_eq_false q4
      by_cases q5 : 48 < a
      · have g5 : decide (48 < a) = true := decide_eq_true q5
        clear q4 q5
        go_wp2_with fail
        go_meet
        exact ⟨true, rfl, fun z => by simp at z, Below.refl _ _⟩
      have g5 : decide (48 < a) = false := decide_eq_false q5
      by_cases q6 : b < 0
      · have g6 : decide (b < 0) = true := decide_eq_true q6
        clear q4 q5 q6
        go_wp2_with fail
        go_meet
        exact ⟨true, rfl, fun z => by simp at z, Below.refl _ _⟩
      have g6 : decide (b < 0) = false := decide_eq_false q6
      by_cases q7 : 48 < b
      · have g7 : decide (48 < b) = true := decide_eq_true q7
        clear q4 q5 q6 q7
        go_wp2_with fail
        go_meet
        exact ⟨true, rfl, fun z => by simp at z, Below.refl _ _⟩
      have g7 : decide (48 < b) = false := decide_eq_false q7
      have QQ := Lib.hid (show 0 ≤ a ∧ a ≤ 48 ∧ 0 ≤ b ∧ b ≤ 48 by omega)
      clear q4 q5 q6 q7
      go_wp2_with fail
      go_meet
      exact ⟨false, rfl, fun _ => ⟨by have := Q1.out; omega, QQ.out⟩, Below.refl _ _⟩
  case rest =>
    obtain ⟨bb, rfl, hcd, hbc⟩ := hcut
    have BC := Lib.hid hbc
    have CD := Lib.hid hcd
    clear hbc hcd x0 x1 x2 x3 hz
    cases bb
    case true =>
      go_wp2_with (go_at_call 10; refine (KK.out.alive _).mono ?_; rintro e v7 ⟨rfl, hbv7⟩)
      go_ret
      exact ⟨rfl, HB0.out.trans ((BC.out.trans (hbv7.mono BC.out.size)).mono HB0.out.size)⟩
    obtain ⟨x0, x1, x2, x3, _, _, _, _, hz⟩ := quad_all (own_below X0.out BC.out)
    have cd := CD.out rfl
    have HN := Lib.hid cd.1
    have AB := Lib.hid cd.2
    clear cd CD
    by_cases hc : kIs k = true ∧ isP kd l = true
    · have MD := Lib.hid (dgMade_any l k kd A n c O wc (P0.out.below BC.out) OB.out HN.out hc)
      have UL := Lib.hid (show 1 ≤ l ∧ l ≤ 48 by rcases of_decide_eq_true hc.2 with q | q <;> omega)
      clear hc
      go_wp2_with fail
      refine MD.out.mono ?_
      rintro e w3 ⟨q, p, g, h, T, A2, m2, c2, rfl, hd, hv, hlen, hds, hb3⟩
      generalize dgOf l k O = L at *
      have hba := (Below.refl w3.heap.size w3).alloc (Nat.le_refl _) (.cells #[.int .i64 l, .slice A2 m2 c2] 56)
      have B4 := Lib.hid ((BC.out.trans (hb3.mono BC.out.size)).trans (hba.mono (BC.out.trans (hb3.mono BC.out.size)).size))
      have D4 := Lib.hid (hd.below hba)
      have N4 := Lib.hid (show n ≤ 400 by have := HN.out; omega)
      have LL := Lib.hid (show L.length ≤ 100 by have a := hd.po.len; have b := HN.out; omega)
      have VL := Lib.hid hd.v
      have PN : ∀ w, (binOp .eql 27 (.pointer (some ⟨q, 0, none⟩)) (.pointer none)).run Tryz.prog w = .ok (.bool false) w := fun _ => by kernel_rfl
      have ab := AB.out
      have ul := UL.out
      have u1 : IntKind.i64.wrap (l + a) = l + a := wrap_lit rfl (by omega) (by omega)
      have u2 : IntKind.i64.wrap (l + a + b) = l + a + b := wrap_lit rfl (by omega) (by omega)
      have u3 : IntKind.i64.wrap (a + b) = a + b := wrap_lit rfl (by omega) (by omega)
      clear hd hv hlen hds hb3 hba MD x0 x1 x2 x3 hz ab ul
      obtain ⟨x0, x1, x2, x3, _, _, _, _, hz⟩ := quad_all (own_below X0.out B4.out)
      go_upto_region 7 with fail
      generalize w3.alloc (.cells #[.int .i64 l, .slice A2 m2 c2] 56) = W4 at *
      clear x0 x1 x2 x3 hz
      cases ho1 : isP kd (l + a)
      · have G1 := Lib.hid (KK.out.grow_no (l + a) _ D4.out N4.out (by have := AB.out; have := UL.out; omega) (by have := AB.out; have := UL.out; omega) (fun z => by rw [ho1] at z; exact absurd z.2 (by simp)))
        clear ho1
        go_wp2_with fail
        refine G1.out.mono ?_
        rintro e w5 ⟨rfl, hb5⟩
        have RN := Lib.hid hb5
        clear hb5 G1
        go_upto_region 13 with fail
        by_cases hq : a < l
        · have C1 := Lib.hid (KK.out.coarsen a _ (D4.out.below RN.out) N4.out AB.out.1 hq)
          have HQ := Lib.hid hq
          clear hq
          go_wp2_with fail
          refine C1.out.mono ?_
          rintro e w20 ⟨hb20, q20, p20, g20, h20, rfl, hd20⟩
          have RC := Lib.hid (RN.out.trans (hb20.mono RN.out.size))
          have D20 := Lib.hid hd20
          have L20 := Lib.hid (show (pruW (l - a) L).length ≤ 400 by have x := (dgV_prune VL.out AB.out.1 HQ.out).2.1; have y := LL.out; omega)
          clear hb20 hd20 C1
          by_cases hq2 : b < l - a
          · have C2 := Lib.hid (KK.out.coarsen b _ D20.out L20.out AB.out.2.2.1 hq2)
            have C3 := Lib.hid (fun v (hb : Below _ _ v) => KK.out.coarsen (a + b) v (D4.out.below hb) N4.out (by have := AB.out; omega) (by omega))
            rw [show l - (a + b) = l - a - b by omega] at C3
            rw [prune_two VL.out AB.out.1 AB.out.2.2.1 (by omega), show l - (a + b) = l - a - b by omega] at C2
            have L21 := Lib.hid (show (pruW (l - a - b) L).length ≤ 400 by have x := (dgV_prune (b := a + b) VL.out (by have := AB.out; omega) (by omega)).2.1; rw [show l - (a + b) = l - a - b by omega] at x; have y := LL.out; omega)
            clear hq2
            generalize pruW (l - a - b) L = F at *
            go_wp2_with fail
            refine C2.out.mono ?_
            rintro e w21 ⟨hb21, q21, p21, g21, h21, rfl, hd21⟩
            have R21 := Lib.hid (RC.out.trans (hb21.mono RC.out.size))
            have D21 := Lib.hid hd21
            clear hb21 hd21
            go_wp2_with fail
            refine (C3.out _ R21.out).mono ?_
            rintro e w22 ⟨hb22, q22, p22, g22, h22, rfl, hd22⟩
            have R22 := Lib.hid (R21.out.trans (hb22.mono R21.out.size))
            have SM := Lib.hid (dgSame_any w22 hd22 (D21.out.below hb22) (by have := L21.out; omega) (by have := L21.out; omega))
            rw [same_self] at SM
            clear hb22 hd22 C2 C3
            go_wp2_with fail
            refine SM.out.mono ?_
            rintro e w23 ⟨rfl, hb23⟩
            have RN := Lib.hid (R22.out.trans (hb23.mono R22.out.size))
            clear hb23
            go_wp2_with (go_at_call 10; refine (KK.out.alive _).mono ?_; rintro e v7 ⟨rfl, hbv7⟩)
            go_ret
            have z2 := RN.out.trans (hbv7.mono RN.out.size)
            exact ⟨rfl, HB0.out.trans ((B4.out.trans (z2.mono B4.out.size)).mono HB0.out.size)⟩
          · have C2 := Lib.hid (KK.out.coarsen_no b _ D20.out L20.out (fun z => absurd z.2 hq2))
            have C3 := Lib.hid (fun v (hb : Below _ _ v) => KK.out.coarsen_no (a + b) v (D4.out.below hb) N4.out (fun z => hq2 (by omega)))
            clear hq2
            go_wp2_with fail
            refine C2.out.mono ?_
            rintro e w21 ⟨rfl, hb21⟩
            have R21 := Lib.hid (RC.out.trans (hb21.mono RC.out.size))
            clear hb21
            go_wp2_with fail
            refine (C3.out _ R21.out).mono ?_
            rintro e w22 ⟨rfl, hb22⟩
            have RN := Lib.hid (R21.out.trans (hb22.mono R21.out.size))
            clear hb22 C2 C3
            go_wp2_with (go_at_call 10; refine (KK.out.alive _).mono ?_; rintro e v7 ⟨rfl, hbv7⟩)
            go_ret
            have z2 := RN.out.trans (hbv7.mono RN.out.size)
            exact ⟨rfl, HB0.out.trans ((B4.out.trans (z2.mono B4.out.size)).mono HB0.out.size)⟩
        · have C1 := Lib.hid (KK.out.coarsen_no a _ (D4.out.below RN.out) N4.out (fun z => absurd z.2 hq))
          clear hq
          go_wp2_with fail
          refine C1.out.mono ?_
          rintro e w20 ⟨rfl, hb20⟩
          have RN := Lib.hid (RN.out.trans (hb20.mono RN.out.size))
          clear hb20
          go_wp2_with (go_at_call 10; refine (KK.out.alive _).mono ?_; rintro e v7 ⟨rfl, hbv7⟩)
          go_ret
          have z2 := RN.out.trans (hbv7.mono RN.out.size)
          exact ⟨rfl, HB0.out.trans ((B4.out.trans (z2.mono B4.out.size)).mono HB0.out.size)⟩
      · have G1 := Lib.hid (KK.out.grow (l + a) _ D4.out N4.out (by have := AB.out; omega) ho1)
        have HO1 := Lib.hid ho1
        have UA := Lib.hid (show l + a ≤ 48 by rcases of_decide_eq_true ho1 with q | q <;> omega)
        rw [show l + a - l = a by omega] at G1
        clear ho1
        go_wp2_with fail
        refine G1.out.mono ?_
        rintro e w5 ⟨hb5, q5, p5, g5, h5, rfl, hd5⟩
        have R5 := Lib.hid hb5
        have D5 := Lib.hid hd5
        have L5 := Lib.hid (show (growW a L).length ≤ 400 by have x := (dgV_grow (b := a) VL.out AB.out.1 UA.out).2.1; have y := LL.out; omega)
        clear hb5 hd5 G1
        cases ho2 : isP kd (l + a + b)
        · have G2 := Lib.hid (KK.out.grow_no (l + a + b) _ D5.out L5.out (by have := AB.out; have := UL.out; omega) (by have := AB.out; have := UL.out; omega) (fun z => by rw [ho2] at z; exact absurd z.2 (by simp)))
          have G3 := Lib.hid (fun v (hb : Below _ _ v) => KK.out.grow_no (l + a + b) v (D4.out.below hb) N4.out (by have := AB.out; have := UL.out; omega) (by have := AB.out; have := UL.out; omega) (fun z => by rw [ho2] at z; exact absurd z.2 (by simp)))
          clear ho2
          go_wp2_with fail
          refine G2.out.mono ?_
          rintro e w6 ⟨rfl, hb6⟩
          have R6 := Lib.hid (R5.out.trans (hb6.mono R5.out.size))
          clear hb6
          go_wp2_with fail
          refine (G3.out _ R6.out).mono ?_
          rintro e w7 ⟨rfl, hb7⟩
          have RN := Lib.hid (R6.out.trans (hb7.mono R6.out.size))
          clear hb7 G2 G3
          go_upto_region 13 with fail
          by_cases hq : a < l
          · have C1 := Lib.hid (KK.out.coarsen a _ (D4.out.below RN.out) N4.out AB.out.1 hq)
            have HQ := Lib.hid hq
            clear hq
            go_wp2_with fail
            refine C1.out.mono ?_
            rintro e w20 ⟨hb20, q20, p20, g20, h20, rfl, hd20⟩
            have RC := Lib.hid (RN.out.trans (hb20.mono RN.out.size))
            have D20 := Lib.hid hd20
            have L20 := Lib.hid (show (pruW (l - a) L).length ≤ 400 by have x := (dgV_prune VL.out AB.out.1 HQ.out).2.1; have y := LL.out; omega)
            clear hb20 hd20 C1
            by_cases hq2 : b < l - a
            · have C2 := Lib.hid (KK.out.coarsen b _ D20.out L20.out AB.out.2.2.1 hq2)
              have C3 := Lib.hid (fun v (hb : Below _ _ v) => KK.out.coarsen (a + b) v (D4.out.below hb) N4.out (by have := AB.out; omega) (by omega))
              rw [show l - (a + b) = l - a - b by omega] at C3
              rw [prune_two VL.out AB.out.1 AB.out.2.2.1 (by omega), show l - (a + b) = l - a - b by omega] at C2
              have L21 := Lib.hid (show (pruW (l - a - b) L).length ≤ 400 by have x := (dgV_prune (b := a + b) VL.out (by have := AB.out; omega) (by omega)).2.1; rw [show l - (a + b) = l - a - b by omega] at x; have y := LL.out; omega)
              clear hq2
              generalize pruW (l - a - b) L = F at *
              go_wp2_with fail
              refine C2.out.mono ?_
              rintro e w21 ⟨hb21, q21, p21, g21, h21, rfl, hd21⟩
              have R21 := Lib.hid (RC.out.trans (hb21.mono RC.out.size))
              have D21 := Lib.hid hd21
              clear hb21 hd21
              go_wp2_with fail
              refine (C3.out _ R21.out).mono ?_
              rintro e w22 ⟨hb22, q22, p22, g22, h22, rfl, hd22⟩
              have R22 := Lib.hid (R21.out.trans (hb22.mono R21.out.size))
              have SM := Lib.hid (dgSame_any w22 hd22 (D21.out.below hb22) (by have := L21.out; omega) (by have := L21.out; omega))
              rw [same_self] at SM
              clear hb22 hd22 C2 C3
              go_wp2_with fail
              refine SM.out.mono ?_
              rintro e w23 ⟨rfl, hb23⟩
              have RN := Lib.hid (R22.out.trans (hb23.mono R22.out.size))
              clear hb23
              go_wp2_with (go_at_call 10; refine (KK.out.alive _).mono ?_; rintro e v7 ⟨rfl, hbv7⟩)
              go_ret
              have z2 := RN.out.trans (hbv7.mono RN.out.size)
              exact ⟨rfl, HB0.out.trans ((B4.out.trans (z2.mono B4.out.size)).mono HB0.out.size)⟩
            · have C2 := Lib.hid (KK.out.coarsen_no b _ D20.out L20.out (fun z => absurd z.2 hq2))
              have C3 := Lib.hid (fun v (hb : Below _ _ v) => KK.out.coarsen_no (a + b) v (D4.out.below hb) N4.out (fun z => hq2 (by omega)))
              clear hq2
              go_wp2_with fail
              refine C2.out.mono ?_
              rintro e w21 ⟨rfl, hb21⟩
              have R21 := Lib.hid (RC.out.trans (hb21.mono RC.out.size))
              clear hb21
              go_wp2_with fail
              refine (C3.out _ R21.out).mono ?_
              rintro e w22 ⟨rfl, hb22⟩
              have RN := Lib.hid (R21.out.trans (hb22.mono R21.out.size))
              clear hb22 C2 C3
              go_wp2_with (go_at_call 10; refine (KK.out.alive _).mono ?_; rintro e v7 ⟨rfl, hbv7⟩)
              go_ret
              have z2 := RN.out.trans (hbv7.mono RN.out.size)
              exact ⟨rfl, HB0.out.trans ((B4.out.trans (z2.mono B4.out.size)).mono HB0.out.size)⟩
          · have C1 := Lib.hid (KK.out.coarsen_no a _ (D4.out.below RN.out) N4.out (fun z => absurd z.2 hq))
            clear hq
            go_wp2_with fail
            refine C1.out.mono ?_
            rintro e w20 ⟨rfl, hb20⟩
            have RN := Lib.hid (RN.out.trans (hb20.mono RN.out.size))
            clear hb20
            go_wp2_with (go_at_call 10; refine (KK.out.alive _).mono ?_; rintro e v7 ⟨rfl, hbv7⟩)
            go_ret
            have z2 := RN.out.trans (hbv7.mono RN.out.size)
            exact ⟨rfl, HB0.out.trans ((B4.out.trans (z2.mono B4.out.size)).mono HB0.out.size)⟩
        · have G2 := Lib.hid (KK.out.grow (l + a + b) _ D5.out L5.out (by have := AB.out; omega) ho2)
          have G3 := Lib.hid (fun v (hb : Below _ _ v) => KK.out.grow (l + a + b) v (D4.out.below hb) N4.out (by have := AB.out; omega) ho2)
          have UB := Lib.hid (show l + a + b ≤ 48 by rcases of_decide_eq_true ho2 with q | q <;> omega)
          rw [show l + a + b - (l + a) = b by omega, grow_two VL.out AB.out.1 AB.out.2.2.1 UB.out] at G2
          rw [show l + a + b - l = a + b by omega] at G3
          have L6 := Lib.hid (show (growW (a + b) L).length ≤ 400 by have x := (dgV_grow (b := a + b) VL.out (by have := AB.out; omega) (by have := UB.out; omega)).2.1; have y := LL.out; omega)
          clear ho2
          generalize growW (a + b) L = F at *
          go_wp2_with fail
          refine G2.out.mono ?_
          rintro e w6 ⟨hb6, q6, p6, g6, h6, rfl, hd6⟩
          have R6 := Lib.hid (R5.out.trans (hb6.mono R5.out.size))
          have D6 := Lib.hid hd6
          clear hb6 hd6
          go_wp2_with fail
          refine (G3.out _ R6.out).mono ?_
          rintro e w7 ⟨hb7, q7, p7, g7, h7, rfl, hd7⟩
          have R7 := Lib.hid (R6.out.trans (hb7.mono R6.out.size))
          have SM := Lib.hid (dgSame_any w7 hd7 (D6.out.below hb7) (by have := L6.out; omega) (by have := L6.out; omega))
          rw [same_self] at SM
          clear hb7 hd7 G2 G3
          go_wp2_with fail
          refine SM.out.mono ?_
          rintro e w8 ⟨rfl, hb8⟩
          have RN := Lib.hid (R7.out.trans (hb8.mono R7.out.size))
          clear hb8 SM
          go_upto_region 13 with fail
          by_cases hq : a < l
          · have C1 := Lib.hid (KK.out.coarsen a _ (D4.out.below RN.out) N4.out AB.out.1 hq)
            have HQ := Lib.hid hq
            clear hq
            go_wp2_with fail
            refine C1.out.mono ?_
            rintro e w20 ⟨hb20, q20, p20, g20, h20, rfl, hd20⟩
            have RC := Lib.hid (RN.out.trans (hb20.mono RN.out.size))
            have D20 := Lib.hid hd20
            have L20 := Lib.hid (show (pruW (l - a) L).length ≤ 400 by have x := (dgV_prune VL.out AB.out.1 HQ.out).2.1; have y := LL.out; omega)
            clear hb20 hd20 C1
            by_cases hq2 : b < l - a
            · have C2 := Lib.hid (KK.out.coarsen b _ D20.out L20.out AB.out.2.2.1 hq2)
              have C3 := Lib.hid (fun v (hb : Below _ _ v) => KK.out.coarsen (a + b) v (D4.out.below hb) N4.out (by have := AB.out; omega) (by omega))
              rw [show l - (a + b) = l - a - b by omega] at C3
              rw [prune_two VL.out AB.out.1 AB.out.2.2.1 (by omega), show l - (a + b) = l - a - b by omega] at C2
              have L21 := Lib.hid (show (pruW (l - a - b) L).length ≤ 400 by have x := (dgV_prune (b := a + b) VL.out (by have := AB.out; omega) (by omega)).2.1; rw [show l - (a + b) = l - a - b by omega] at x; have y := LL.out; omega)
              clear hq2
              generalize pruW (l - a - b) L = F at *
              go_wp2_with fail
              refine C2.out.mono ?_
              rintro e w21 ⟨hb21, q21, p21, g21, h21, rfl, hd21⟩
              have R21 := Lib.hid (RC.out.trans (hb21.mono RC.out.size))
              have D21 := Lib.hid hd21
              clear hb21 hd21
              go_wp2_with fail
              refine (C3.out _ R21.out).mono ?_
              rintro e w22 ⟨hb22, q22, p22, g22, h22, rfl, hd22⟩
              have R22 := Lib.hid (R21.out.trans (hb22.mono R21.out.size))
              have SM := Lib.hid (dgSame_any w22 hd22 (D21.out.below hb22) (by have := L21.out; omega) (by have := L21.out; omega))
              rw [same_self] at SM
              clear hb22 hd22 C2 C3
              go_wp2_with fail
              refine SM.out.mono ?_
              rintro e w23 ⟨rfl, hb23⟩
              have RN := Lib.hid (R22.out.trans (hb23.mono R22.out.size))
              clear hb23
              go_wp2_with (go_at_call 10; refine (KK.out.alive _).mono ?_; rintro e v7 ⟨rfl, hbv7⟩)
              go_ret
              have z2 := RN.out.trans (hbv7.mono RN.out.size)
              exact ⟨rfl, HB0.out.trans ((B4.out.trans (z2.mono B4.out.size)).mono HB0.out.size)⟩
            · have C2 := Lib.hid (KK.out.coarsen_no b _ D20.out L20.out (fun z => absurd z.2 hq2))
              have C3 := Lib.hid (fun v (hb : Below _ _ v) => KK.out.coarsen_no (a + b) v (D4.out.below hb) N4.out (fun z => hq2 (by omega)))
              clear hq2
              go_wp2_with fail
              refine C2.out.mono ?_
              rintro e w21 ⟨rfl, hb21⟩
              have R21 := Lib.hid (RC.out.trans (hb21.mono RC.out.size))
              clear hb21
              go_wp2_with fail
              refine (C3.out _ R21.out).mono ?_
              rintro e w22 ⟨rfl, hb22⟩
              have RN := Lib.hid (R21.out.trans (hb22.mono R21.out.size))
              clear hb22 C2 C3
              go_wp2_with (go_at_call 10; refine (KK.out.alive _).mono ?_; rintro e v7 ⟨rfl, hbv7⟩)
              go_ret
              have z2 := RN.out.trans (hbv7.mono RN.out.size)
              exact ⟨rfl, HB0.out.trans ((B4.out.trans (z2.mono B4.out.size)).mono HB0.out.size)⟩
          · have C1 := Lib.hid (KK.out.coarsen_no a _ (D4.out.below RN.out) N4.out (fun z => absurd z.2 hq))
            clear hq
            go_wp2_with fail
            refine C1.out.mono ?_
            rintro e w20 ⟨rfl, hb20⟩
            have RN := Lib.hid (RN.out.trans (hb20.mono RN.out.size))
            clear hb20
            go_wp2_with (go_at_call 10; refine (KK.out.alive _).mono ?_; rintro e v7 ⟨rfl, hbv7⟩)
            go_ret
            have z2 := RN.out.trans (hbv7.mono RN.out.size)
            exact ⟨rfl, HB0.out.trans ((B4.out.trans (z2.mono B4.out.size)).mono HB0.out.size)⟩
    · have MD := Lib.hid (dgMade_no l k kd A n c wc hc LB.out.1 LB.out.2)
      clear hc
      go_wp2_with fail
      refine MD.out.mono ?_
      rintro e w3 ⟨rfl, hb3⟩
      have B3 := Lib.hid (BC.out.trans (hb3.mono BC.out.size))
      have B4 := Lib.hid (B3.out.alloc B3.out.size (.cells #[.int .i64 0, .slice none 0 0] 56))
      clear hb3 MD x0 x1 x2 x3 hz
      go_wp2_with (go_at_call 10; refine (KK.out.alive _).mono ?_; rintro e v7 ⟨rfl, hbv7⟩)
      go_ret
      exact ⟨rfl, HB0.out.trans ((B4.out.trans (hbv7.mono B4.out.size)).mono HB0.out.size)⟩

end Go.Proofs.YtachfeclgdgbiaaGreat
