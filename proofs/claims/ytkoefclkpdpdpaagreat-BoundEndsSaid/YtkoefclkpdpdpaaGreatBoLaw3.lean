/- The walk of the statement BoundEnds of layer bound, over the project's contracts: for every input it returns true, and nothing that was there before is changed. -/
import Derived.Test.YtkoefclkpdpdpaaGreatBoLaw
import Derived.Test.YtkoefclkpdpdpaaGreatBoRef
import Derived.Deep.Cut
namespace Go.Proofs.YtkoefclkpdpdpaaGreat
set_option linter.unusedVariables false
set_option maxRecDepth 100000
open Go.RowKit

set_option maxHeartbeats 25600000 in
theorem walk_boundEndsK (KE : BoE) (KM : BoM) (KW : BoW) (l k kd : Int) (A : Option Addr) (n c : Nat) (L : List Nd) (L0 : -9223372036854775808 ≤ l) (L1 : l ≤ 9223372036854775807) (K0 : -9223372036854775808 ≤ k) (K1 : k ≤ 9223372036854775807) (D0 : -9223372036854775808 ≤ kd) (D1 : kd ≤ 9223372036854775807) (NB : NBds L) (m1 : n ≤ 9223372036854775807)
    (w : World) (hv : NodesAt w (.slice A n c) L) :
    Calls Tryz.prog 3 #[.agg #[.int .i64 l, .int .i64 k, .int .i64 kd, .slice A n c]] w fun e w' => e = .returned (.bool true) ∧ Below w.heap.size w w' := by
  have X0 := Lib.hid (quad_new w 26 (.int .i64 l) (.int .i64 k) (.int .i64 kd) (.slice A n c))
  have HB0 : Hid (Below w.heap.size w (w.alloc (.cells #[.int .i64 l, .int .i64 k, .int .i64 kd, .slice A n c] 26))) := (Below.refl _ _).alloc (Nat.le_refl _) _
  have PE := Lib.hid KE
  have HV := Lib.hid hv
  have HNB : Hid (NBds L) := NB
  have LL := Lib.hid (And.intro L0 L1)
  have AL := Lib.hid (fun v => boAlive_any KE KM KW v)
  clear KE KM KW K0 K1 D0 D1 m1 hv NB L0 L1
  go_enter Tryz.func3, Tryz.ntmps3
  obtain ⟨x0, x1, x2, x3, _, _, _, _, hz⟩ := quad_all X0.out
  go_upto_region 1 with fail
  generalize w.alloc (.cells #[.int .i64 l, .int .i64 k, .int .i64 kd, .slice A n c] 26) = W at *
  cases hld : rnkLdB kd l k n L
  · have LD := Lib.hid (rnkLoad_no l k kd A n c L W (HV.out.below HB0.out) HNB.out LL.out.1 LL.out.2 hld)
    clear hld
    go_wp2_with fail
    refine LD.out.mono ?_
    rintro e w7 ⟨rfl, hb7⟩
    have Q1 := Lib.hid (HB0.out.trans (hb7.mono HB0.out.size))
    have Q2 := Lib.hid (Q1.out.alloc Q1.out.size (.cells #[.int .i64 0, .int .i64 0, .slice none 0 0] 31))
    clear hb7 LD x0 x1 x2 x3 hz
    go_wp2_with (go_at_call 9; refine (AL.out _).mono ?_; rintro e v7 ⟨rfl, hbv7⟩)
    go_ret
    exact ⟨rfl, Q2.out.trans (hbv7.mono Q2.out.size)⟩
  · have LD := Lib.hid (rnkLoad_yes l k kd A n c L W (HV.out.below HB0.out) HNB.out LL.out.1 LL.out.2 hld)
    have NL : Hid (¬ 150 < n) := (of_decide_eq_true hld).1
    clear hld
    go_wp2_with fail
    refine LD.out.mono ?_
    rintro e w7 ⟨q, p, g, h, rfl, hd7, hb7⟩
    have hba := (Below.refl w7.heap.size w7).alloc (Nat.le_refl _) (.cells #[.int .i64 k, .int .i64 l, .slice A n c] 31)
    have R8 := Lib.hid (HB0.out.trans ((hb7.trans (hba.mono hb7.size)).mono HB0.out.size))
    have D8 := Lib.hid (hd7.below hba)
    have Y8 := Lib.hid (tri_nw w7 31 (.int .i64 k) (.int .i64 l) (.slice A n c))
    have PN : ∀ w, (binOp .eql 27 (.pointer (some ⟨q, 0, none⟩)) (.pointer none)).run Tryz.prog w = .ok (.bool false) w := fun _ => by kernel_rfl
    clear hd7 hb7 hba LD x0 x1 x2 x3 hz X0
    go_upto_region 4 with fail
    generalize w7.alloc (.cells #[.int .i64 k, .int .i64 l, .slice A n c] 31) = W8 at *
    have V8 := Lib.hid (HV.out.below R8.out)
    have rl := D8.out.v.roll
    have P1 := Lib.hid (fun v (hb : Below W8.heap.size W8 v) => PE.out.least v (D8.out.below hb) (by have := NL.out; omega))
    have P2 := Lib.hid (fun v (hb : Below W8.heap.size W8 v) => PE.out.greatest v (D8.out.below hb) (by have := NL.out; omega))
    have P3 := Lib.hid (fun v (hb : Below W8.heap.size W8 v) => PE.out.spread v (D8.out.below hb) (by have := NL.out; omega))
    have DN := Lib.hid (fun v (hb : Below W8.heap.size W8 v) => dgN_any v (D8.out.below hb).box (D8.out.below hb).po (by have := NL.out; omega))
    have RE := Lib.hid (fun v (hb : Below W8.heap.size W8 v) => rBoEnds_any (l := l) k A n c L v (V8.out.below hb) rl (by have := NL.out; omega))
    by_cases z : sumC L = 0
    · obtain ⟨z1, z2⟩ := bo_no z
      rw [z1, z2, z2] at P1 P2 P3
      rw [z] at DN
      clear z z1 z2 RE Y8 rl V8
      go_wp2_with fail
      refine (P1.out _ (Below.refl _ _)).mono ?_
      rintro e u1 ⟨rfl, hu1⟩
      have X1 := Lib.hid (box2 u1 36 (.int .i64 0) (.int .i64 0))
      have hv1 := hu1.alloc hu1.size (.cells #[.int .i64 0, .int .i64 0] 36)
      have V1 := Lib.hid (hv1)
      clear hu1 hv1 P1 
      go_wp2_with fail
      refine (P2.out _ V1.out).mono ?_
      rintro e u2 ⟨rfl, hu2⟩
      have X2 := Lib.hid (box2 u2 36 (.int .i64 0) (.int .i64 0))
      have hv2 := hu2.alloc hu2.size (.cells #[.int .i64 0, .int .i64 0] 36)
      have X1n := Lib.hid (own_below X1.out hv2)
      have V2 := Lib.hid (re_next V1.out hv2)
      clear hu2 hv2 P2 X1
      go_wp2_with fail
      refine (P3.out _ V2.out).mono ?_
      rintro e u3 ⟨rfl, hu3⟩
      have X3 := Lib.hid (box2 u3 36 (.int .i64 0) (.int .i64 0))
      have hv3 := hu3.alloc hu3.size (.cells #[.int .i64 0, .int .i64 0] 36)
      have X1nn := Lib.hid (own_below X1n.out hv3)
      have X2n := Lib.hid (own_below X2.out hv3)
      have V3 := Lib.hid (re_next V2.out hv3)
      clear hu3 hv3 P3 X1n X2
      go_wp2_with fail
      refine (DN.out _ V3.out).mono ?_
      rintro e u4 ⟨rfl, hu4⟩
      have X1nnm := Lib.hid (own_below X1nn.out hu4)
      have X2nm := Lib.hid (own_below X2n.out hu4)
      have X3m := Lib.hid (own_below X3.out hu4)
      have V4 := Lib.hid (R8.out.trans ((re_next V3.out hu4).mono R8.out.size))
      clear hu4 DN
      obtain ⟨a0, b0, _, _, _⟩ := box_cells X1nnm.out
      obtain ⟨a1, b1, _, _, _⟩ := box_cells X2nm.out
      obtain ⟨a2, b2, _, _, _⟩ := box_cells X3m.out
      have q1 := both_same 0 0
      go_wp2_with (go_at_call 9; refine (AL.out _).mono ?_; rintro e v7 ⟨rfl, hbv7⟩)
      go_ret
      exact ⟨rfl, re_next V4.out hbv7⟩
    · obtain ⟨z1, z2⟩ := bo_yes z
      rw [z1, z2, z2] at P1 P2 P3
      have nz : (sumC L == 0) = false := by simp [z]
      have u : 1 ≤ l ∧ l ≤ 48 := of_decide_eq_true rl.1
      have p48 : (2 : Int) ^ l.toNat ≤ 281474976710656 := two_le l.toNat 48 (by omega)
      have k0 := boMn_bd (loN l) (P := L) fun n hn => (node_ends rl hn).1
      have k1 := boMn_bd (hiN l) (P := L) fun n hn => by have := node_ends rl hn; omega
      have k2 := boMx_bd (loN l) (P := L) fun n hn => by have := node_ends rl hn; omega
      have k3 := boMx_bd (hiN l) (P := L) fun n hn => by have := node_ends rl hn; omega
      have S0 : Hid (spL l L = if boMx (loN l) L - boMn (hiN l) L < 0 then 0 else boMx (loN l) L - boMn (hiN l) L) := rfl
      have S1 : Hid (spH l L = boMx (hiN l) L - boMn (loN l) L) := rfl
      clear z z1 z2 rl V8 u p48
      generalize spL l L = s0 at *
      generalize spH l L = s1 at *
      generalize boMn (loN l) L = v0 at *
      generalize boMn (hiN l) L = v1 at *
      generalize boMx (loN l) L = v2 at *
      generalize boMx (hiN l) L = v3 at *
      generalize sumC L = sc at *
      have w1 : IntKind.i64.wrap (v2 - v1) = v2 - v1 := wrap_lit rfl (by omega) (by omega)
      have w2 : IntKind.i64.wrap (v3 - v0) = v3 - v0 := wrap_lit rfl (by omega) (by omega)
      have q1 := both_same v0 v1
      have q2 := both_same v2 v3
      have q3 := both_same s0 s1
      go_wp2_with fail
      refine (P1.out _ (Below.refl _ _)).mono ?_
      rintro e u1 ⟨rfl, hu1⟩
      have X1 := Lib.hid (box2 u1 36 (.int .i64 v0) (.int .i64 v1))
      have hv1 := hu1.alloc hu1.size (.cells #[.int .i64 v0, .int .i64 v1] 36)
      have Y8n := Lib.hid (own_below Y8.out hv1)
      have V1 := Lib.hid (hv1)
      clear hu1 hv1 P1 Y8
      go_wp2_with fail
      refine (P2.out _ V1.out).mono ?_
      rintro e u2 ⟨rfl, hu2⟩
      have X2 := Lib.hid (box2 u2 36 (.int .i64 v2) (.int .i64 v3))
      have hv2 := hu2.alloc hu2.size (.cells #[.int .i64 v2, .int .i64 v3] 36)
      have Y8nn := Lib.hid (own_below Y8n.out hv2)
      have X1n := Lib.hid (own_below X1.out hv2)
      have V2 := Lib.hid (re_next V1.out hv2)
      clear hu2 hv2 P2 Y8n X1
      go_wp2_with fail
      refine (P3.out _ V2.out).mono ?_
      rintro e u3 ⟨rfl, hu3⟩
      have X3 := Lib.hid (box2 u3 36 (.int .i64 s0) (.int .i64 s1))
      have hv3 := hu3.alloc hu3.size (.cells #[.int .i64 s0, .int .i64 s1] 36)
      have Y8nnn := Lib.hid (own_below Y8nn.out hv3)
      have X1nn := Lib.hid (own_below X1n.out hv3)
      have X2n := Lib.hid (own_below X2.out hv3)
      have V3 := Lib.hid (re_next V2.out hv3)
      clear hu3 hv3 P3 Y8nn X1n X2
      go_wp2_with fail
      refine (DN.out _ V3.out).mono ?_
      rintro e u4 ⟨rfl, hu4⟩
      have Y8nnnm := Lib.hid (own_below Y8nnn.out hu4)
      have X1nnm := Lib.hid (own_below X1nn.out hu4)
      have X2nm := Lib.hid (own_below X2n.out hu4)
      have X3m := Lib.hid (own_below X3.out hu4)
      have V4 := Lib.hid (re_next V3.out hu4)
      clear hu4 DN Y8nnn X1nn X2n X3
      obtain ⟨t0, t1, t2, _, _, _, ht⟩ := tri_all Y8nnnm.out
      go_wp2_with fail
      refine (RE.out _ V4.out).mono ?_
      rintro e u5 ⟨rfl, hu5⟩
      have hv5 := hu5.alloc hu5.size (.cells #[.int .i64 v0, .int .i64 v1, .int .i64 v2, .int .i64 v3] 41)
      have X5 := Lib.hid (quad_new u5 41 (.int .i64 v0) (.int .i64 v1) (.int .i64 v2) (.int .i64 v3))
      have X1nno := Lib.hid (own_below X1nnm.out hv5)
      have X2no := Lib.hid (own_below X2nm.out hv5)
      have X3o := Lib.hid (own_below X3m.out hv5)
      have V5 := Lib.hid (R8.out.trans ((re_next V4.out hv5).mono R8.out.size))
      clear hu5 hv5 RE t0 t1 t2 ht Y8nnnm X1nnm X2nm X3m
      obtain ⟨a0, b0, _, _, _⟩ := box_cells X1nno.out
      obtain ⟨a1, b1, _, _, _⟩ := box_cells X2no.out
      obtain ⟨a2, b2, _, _, _⟩ := box_cells X3o.out
      obtain ⟨c0, c1, c2, c3, _, _, _, _, _⟩ := quad_all X5.out
      by_cases m0 : v2 - v1 < 0
      · have e0 : s0 = 0 := by have := S0.out; rw [if_pos m0] at this; exact this
        have e1 : s1 = v3 - v0 := S1.out
        subst e0 e1
        go_wp2_with (go_at_call 9; refine (AL.out _).mono ?_; rintro e v7 ⟨rfl, hbv7⟩)
        go_ret
        exact ⟨rfl, re_next V5.out hbv7⟩
      · have e0 : s0 = v2 - v1 := by have := S0.out; rw [if_neg m0] at this; exact this
        have e1 : s1 = v3 - v0 := S1.out
        subst e0 e1
        go_wp2_with (go_at_call 9; refine (AL.out _).mono ?_; rintro e v7 ⟨rfl, hbv7⟩)
        go_ret
        exact ⟨rfl, re_next V5.out hbv7⟩

end Go.Proofs.YtkoefclkpdpdpaaGreat
