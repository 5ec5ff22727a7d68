/- The walk of the statement QuantShares of layer quant, over the project's contracts: for every input it returns true, and nothing that was there before is changed. -/
import Derived.Test.YtkhacpapkalkiaaGreatQuLaw2
import Derived.Deep.Cut
namespace Go.Proofs.YtkhacpapkalkiaaGreat
set_option linter.unusedVariables false
set_option maxRecDepth 100000
open Go.RowKit

theorem qu_share {l : Int} {L : List Nd} {a b : Int} (h : RollC l L) (z : shE L a b = 0) : shN L a b = shR L a b ∧ qaA l L (shR L a b) = qoA l L a b ∧ 1 ≤ shR L a b ∧ shR L a b ≤ 72057594037927935 := by
  have nn := good_nonneg (roll_good h)
  have s0 : 0 ≤ sumC L := Int.le_trans (sum_le nn 0).1 (sum_le nn 0).2
  have s1 : sumC L ≤ 72057594037927935 := h.2.2.2.2
  have i := sh_in z s0 s1
  have w := wrE_yes i.1 i.2
  refine ⟨if_pos z, ?_, i.1, by omega⟩
  rw [qaA_yes w]
  unfold qoA
  rw [if_pos z]
theorem qu_noshare {l : Int} {L : List Nd} {a b : Int} (z : ¬ shE L a b = 0) : shN L a b = 0 ∧ qoA l L a b = 0 := ⟨if_neg z, if_neg z⟩
set_option maxHeartbeats 12800000 in
theorem walk_quantSharesK (KA : QuA) (KS : QuS) (KR : QuR) (l k kd : Int) (A : Option Addr) (n c : Nat) (L : List Nd) (a b : Int) (L0 : -9223372036854775808 ≤ l) (L1 : l ≤ 9223372036854775807) (K0 : -9223372036854775808 ≤ k) (K1 : k ≤ 9223372036854775807) (D0 : -9223372036854775808 ≤ kd) (D1 : kd ≤ 9223372036854775807) (NB : NBds L) (m1 : n ≤ 9223372036854775807)
    (A0 : -9223372036854775808 ≤ a) (A1 : a ≤ 9223372036854775807) (B0 : -9223372036854775808 ≤ b) (B1 : b ≤ 9223372036854775807) (w : World) (hv : NodesAt w (.slice A n c) L) :
    Calls Tryz.prog 4 #[.agg #[.int .i64 l, .int .i64 k, .int .i64 kd, .slice A n c], .int .i64 a, .int .i64 b] w fun e w' => e = .returned (.bool true) ∧ Below w.heap.size w w' := by
  have HB0 : Hid (Below w.heap.size w (w.alloc (.cells #[.int .i64 l, .int .i64 k, .int .i64 kd, .slice A n c] 26))) := (Below.refl _ _).alloc (Nat.le_refl _) _
  have X0 := Lib.hid (quad_new w 26 (.int .i64 l) (.int .i64 k) (.int .i64 kd) (.slice A n c))
  have PA := Lib.hid KA
  have PR := Lib.hid KR
  have HV := Lib.hid hv
  have HNB : Hid (NBds L) := NB
  have LL := Lib.hid (And.intro L0 L1)
  have RB := Lib.hid (And.intro (And.intro A0 A1) (And.intro B0 B1))
  have AL := Lib.hid (fun v => quAlive_any KA KS KR v)
  clear KA KS KR K0 K1 D0 D1 m1 hv NB L0 L1 A0 A1 B0 B1
  go_enter Tryz.func4, Tryz.ntmps4
  go_wp2_with fail
  generalize w.alloc (.cells #[.int .i64 l, .int .i64 k, .int .i64 kd, .slice A n c] 26) = W at *
  refine (PR.out.rank_nil a b _).mono ?_
  rintro e w1 ⟨rfl, hb1⟩
  have B1 := Lib.hid hb1
  clear hb1
  go_wp2_with fail
  refine (PR.out.of_nil a b _).mono ?_
  rintro e w2 ⟨rfl, hb2⟩
  have B2 := Lib.hid (B1.out.trans (hb2.mono B1.out.size))
  clear hb2 B1
  go_wp2_with fail
  refine (PR.out.median_nil _).mono ?_
  rintro e w3 ⟨rfl, hb3⟩
  have B3 := Lib.hid (B2.out.trans (hb3.mono B2.out.size))
  clear hb3 B2
  have W3 := Lib.hid (HB0.out.trans (B3.out.mono HB0.out.size))
  obtain ⟨x0, x1, x2, x3, _, _, _, _, hz⟩ := quad_all (own_below X0.out B3.out)
  cases hld : rnkLdB kd l k n L
  · have LD := Lib.hid (rnkLoad_no l k kd A n c L w3 (HV.out.below W3.out) HNB.out LL.out.1 LL.out.2 hld)
    clear hld
    go_wp2_with fail
    refine LD.out.mono ?_
    rintro e w7 ⟨rfl, hb7⟩
    have Q1 := Lib.hid (W3.out.trans (hb7.mono W3.out.size))
    have Q2 := Lib.hid (Q1.out.alloc Q1.out.size (.cells #[.int .i64 0, .int .i64 0, .slice none 0 0] 37))
    clear hb7 LD x0 x1 x2 x3 hz
    go_wp2_with (go_at_call 11; refine (AL.out _).mono ?_; rintro e v7 ⟨rfl, hbv7⟩)
    go_ret
    exact ⟨rfl, Q2.out.trans (hbv7.mono Q2.out.size)⟩
  · have LD := Lib.hid (rnkLoad_yes l k kd A n c L w3 (HV.out.below W3.out) HNB.out LL.out.1 LL.out.2 hld)
    have NL : Hid (¬ 150 < n) := (of_decide_eq_true hld).1
    clear hld
    go_wp2_with fail
    refine LD.out.mono ?_
    rintro e w7 ⟨q, p, g, h, rfl, hd7, hb7⟩
    have hba := (Below.refl w7.heap.size w7).alloc (Nat.le_refl _) (.cells #[.int .i64 k, .int .i64 l, .slice A n c] 37)
    have R8 := Lib.hid (W3.out.trans ((hb7.trans (hba.mono hb7.size)).mono W3.out.size))
    have D8 := Lib.hid (hd7.below hba)
    have Y8 := Lib.hid (tri_nw w7 37 (.int .i64 k) (.int .i64 l) (.slice A n c))
    have PN : ∀ w, (binOp .eql 33 (.pointer (some ⟨q, 0, none⟩)) (.pointer none)).run Tryz.prog w = .ok (.bool false) w := fun _ => by kernel_rfl
    clear hd7 hb7 hba LD x0 x1 x2 x3 hz
    go_upto_region 7 with fail
    generalize w7.alloc (.cells #[.int .i64 k, .int .i64 l, .slice A n c] 37) = W8 at *
    have V8 := Lib.hid (HV.out.below R8.out)
    have rl := D8.out.v.roll
    have PK := Lib.hid (fun v (hb : Below W8.heap.size W8 v) => PR.out.rank_any a b v (D8.out.below hb) (by omega) RB.out.1.1 RB.out.1.2 RB.out.2.1 RB.out.2.2)
    have PO := Lib.hid (fun v (hb : Below W8.heap.size W8 v) => PR.out.of_any a b v (D8.out.below hb) (by omega) RB.out.1.1 RB.out.1.2 RB.out.2.1 RB.out.2.2)
    have PM := Lib.hid (fun v (hb : Below W8.heap.size W8 v) => PR.out.median_any v (D8.out.below hb) (by omega))
    have PH := Lib.hid (fun v (hb : Below W8.heap.size W8 v) => PR.out.of_any 1 2 v (D8.out.below hb) (by omega) (by omega) (by omega) (by omega) (by omega))
    have RK := Lib.hid (fun v (hb : Below W8.heap.size W8 v) => rQuRank_any a b l k A n c L v (V8.out.below hb) rl (by have := NL.out; omega) RB.out.1.1 RB.out.1.2 RB.out.2.1 RB.out.2.2)
    have RT := Lib.hid (fun v r (hb : Below W8.heap.size W8 v) r0 r1 => rQuAt_any r l k A n c L v (V8.out.below hb) rl (by have := NL.out; omega) r0 r1)
    have YES := Lib.hid (fun z : shE L a b = 0 => qu_share (l := l) (L := L) (a := a) (b := b) rl z)
    have NO := Lib.hid (fun z : ¬ shE L a b = 0 => qu_noshare (l := l) (L := L) (a := a) (b := b) z)
    clear rl
    generalize hs : shR L a b = sr at *
    clear hs
    generalize shN L a b = sn at *
    generalize shE L a b = E at *
    generalize qoA l L a b = qo at *
    generalize shE L 1 2 = E2 at *
    generalize qoA l L 1 2 = q2 at *
    have c1 : (sn != sn) = false := by simp
    have c2 : (E != E) = false := by simp
    have c3 : (qo == qo) = true := by simp
    have c4 : (E == E) = true := by simp
    have c5 : (q2 == q2) = true := by simp
    have c6 : (E2 == E2) = true := by simp
    go_wp2_with fail
    refine (PK.out _ (Below.refl _ _)).mono ?_
    rintro e u1 ⟨rfl, hu1⟩
    have U1 := Lib.hid hu1
    obtain ⟨y0, y1, y2, _, _, _, hy⟩ := tri_all (own_below Y8.out hu1)
    clear hu1 PK
    go_wp2_with fail
    refine (RK.out _ U1.out).mono ?_
    rintro e u2 ⟨rfl, hu2⟩
    have U2 := Lib.hid (qu_next U1.out hu2)
    clear y0 y1 y2 hy hu2 RK
    go_wp2_with fail
    refine (PO.out _ U2.out).mono ?_
    rintro e u3 ⟨rfl, hu3⟩
    have U3 := Lib.hid (qu_next U2.out hu3)
    clear hu3 PO
    obtain ⟨y0, y1, y2, _, _, _, hy⟩ := tri_all (own_below Y8.out U3.out)
    by_cases z : E = 0
    · obtain ⟨rfl, g2, g3, g4⟩ := YES.out z
      have RA := Lib.hid (RT.out u3 sn U3.out (by omega) (by omega))
      rw [g2] at RA
      subst z
      clear YES NO g2 g3 g4 RT
      go_wp2_with fail
      refine RA.out.mono ?_
      rintro e u4 ⟨rfl, hu4⟩
      have U4 := Lib.hid (qu_next U3.out hu4)
      clear hu4 RA y0 y1 y2 hy
      go_wp2_with (first
        | (go_at_call 16; refine (PM.out _ U4.out).mono ?_; rintro e v5 ⟨rfl, hv5⟩)
        | (go_at_call 15; refine (PH.out _ (qu_next U4.out hv5)).mono ?_; rintro e v6 ⟨rfl, hv6⟩)
        | (go_at_call 11; refine (AL.out _).mono ?_; rintro e v7 ⟨rfl, hbv7⟩))
      go_ret
      exact ⟨rfl, R8.out.trans ((qu_next (qu_next (qu_next U4.out hv5) hv6) hbv7).mono R8.out.size)⟩
    · obtain ⟨rfl, rfl⟩ := NO.out z
      have z1 : (E == 0) = false := beq_eq_false_iff_ne.2 z
      clear YES NO z RT y0 y1 y2 hy
      go_wp2_with (first
        | (go_at_call 16; refine (PM.out _ U3.out).mono ?_; rintro e v5 ⟨rfl, hv5⟩)
        | (go_at_call 15; refine (PH.out _ (qu_next U3.out hv5)).mono ?_; rintro e v6 ⟨rfl, hv6⟩)
        | (go_at_call 11; refine (AL.out _).mono ?_; rintro e v7 ⟨rfl, hbv7⟩))
      go_ret
      exact ⟨rfl, R8.out.trans ((qu_next (qu_next (qu_next U3.out hv5) hv6) hbv7).mono R8.out.size)⟩

end Go.Proofs.YtkhacpapkalkiaaGreat
