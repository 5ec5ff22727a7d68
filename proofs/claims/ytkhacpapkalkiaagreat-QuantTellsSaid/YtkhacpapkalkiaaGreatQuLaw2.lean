/- The walk of the statement QuantTells of layer quant, over the project's contracts: for every input it returns true, and nothing that was there before is changed. -/
import Derived.Test.YtkhacpapkalkiaaGreatQuLaw
import Derived.Test.YtkhacpapkalkiaaGreatQuRef
import Derived.Deep.Cut
namespace Go.Proofs.YtkhacpapkalkiaaGreat
set_option linter.unusedVariables false
set_option maxRecDepth 100000
open Go.RowKit

/-- the span's ends, at the floats of the numbers -/
theorem qu_span {l : Int} {L : List Nd} {r : Int} (h : RollC l L) (z : wrE L r = 0) : (FloatKind.f64.format.order (qsA l L r) (floatOfInt .f64 (qfA l L r)) == some .eq) = true ∧ (FloatKind.f64.format.order (qsZ l L r) (floatOfInt .f64 (qaA l L r)) == some .eq) = true := by
  obtain ⟨_, a, b⟩ := wrE_zero z
  have u : 1 ≤ l ∧ l ≤ 48 := of_decide_eq_true h.1
  have p : (2 : Int) ^ l.toNat ≤ 281474976710656 := two_le l.toNat 48 (by omega)
  have f := fst_isQ h a b
  have g := at_is h a b
  rw [qfA_yes z, qaA_yes z]
  unfold qsA qsZ
  rw [if_pos z, if_pos z]
  exact ⟨flo_self f.2.1 (by omega), flo_self g.2.1 (by omega)⟩
theorem qu_none {l : Int} {L : List Nd} {r : Int} (z : ¬ wrE L r = 0) : qsA l L r = 0 ∧ qsZ l L r = 0 := ⟨if_neg z, if_neg z⟩
set_option maxHeartbeats 12800000 in
theorem walk_quantTellsK (KA : QuA) (KS : QuS) (KR : QuR) (l k kd : Int) (A : Option Addr) (n c : Nat) (L : List Nd) (r : Int) (L0 : -9223372036854775808 ≤ l) (L1 : l ≤ 9223372036854775807) (K0 : -9223372036854775808 ≤ k) (K1 : k ≤ 9223372036854775807) (D0 : -9223372036854775808 ≤ kd) (D1 : kd ≤ 9223372036854775807) (NB : NBds L) (m1 : n ≤ 9223372036854775807)
    (R0 : -9223372036854775808 ≤ r) (R1 : r ≤ 9223372036854775807) (w : World) (hv : NodesAt w (.slice A n c) L) :
    Calls Tryz.prog 3 #[.agg #[.int .i64 l, .int .i64 k, .int .i64 kd, .slice A n c], .int .i64 r] w fun e w' => e = .returned (.bool true) ∧ Below w.heap.size w w' := by
  have HB0 : Hid (Below w.heap.size w (w.alloc (.cells #[.int .i64 l, .int .i64 k, .int .i64 kd, .slice A n c] 26))) := (Below.refl _ _).alloc (Nat.le_refl _) _
  have X0 := Lib.hid (quad_new w 26 (.int .i64 l) (.int .i64 k) (.int .i64 kd) (.slice A n c))
  have PA := Lib.hid KA
  have PS := Lib.hid KS
  have PR := Lib.hid KR
  have HV := Lib.hid hv
  have HNB : Hid (NBds L) := NB
  have LL := Lib.hid (And.intro L0 L1)
  have RB := Lib.hid (And.intro R0 R1)
  have AL := Lib.hid (fun v => quAlive_any KA KS KR v)
  clear KA KS KR K0 K1 D0 D1 m1 hv NB L0 L1 R0 R1
  go_enter Tryz.func3, Tryz.ntmps3
  go_wp2_with fail
  generalize w.alloc (.cells #[.int .i64 l, .int .i64 k, .int .i64 kd, .slice A n c] 26) = W at *
  refine (PA.out.at_nil r _).mono ?_
  rintro e w1 ⟨rfl, hb1⟩
  have B1 := Lib.hid hb1
  clear hb1
  go_wp2_with fail
  refine (PS.out.span_nil r _).mono ?_
  rintro e w3 ⟨rfl, hb3⟩
  have B3 := Lib.hid (B1.out.trans (hb3.mono B1.out.size))
  clear hb3 B1
  have W3 := Lib.hid (HB0.out.trans (B3.out.mono HB0.out.size))
  obtain ⟨x0, x1, x2, x3, _, _, _, _, hz⟩ := quad_all (own_below X0.out B3.out)
  cases hld : rnkLdB kd l k n L
  · have LD := Lib.hid (rnkLoad_no l k kd A n c L w3 (HV.out.below W3.out) HNB.out LL.out.1 LL.out.2 hld)
    clear hld
    go_wp2_with fail
    refine LD.out.mono ?_
    rintro e w7 ⟨rfl, hb7⟩
    have Q1 := Lib.hid (W3.out.trans (hb7.mono W3.out.size))
    have Q2 := Lib.hid (Q1.out.alloc Q1.out.size (.cells #[.int .i64 0, .int .i64 0, .slice none 0 0] 37))
    clear hb7 LD x0 x1 x2 x3 hz
    go_wp2_with (go_at_call 11; refine (AL.out _).mono ?_; rintro e v7 ⟨rfl, hbv7⟩)
    go_ret
    exact ⟨rfl, Q2.out.trans (hbv7.mono Q2.out.size)⟩
  · have LD := Lib.hid (rnkLoad_yes l k kd A n c L w3 (HV.out.below W3.out) HNB.out LL.out.1 LL.out.2 hld)
    have NL : Hid (¬ 150 < n) := (of_decide_eq_true hld).1
    clear hld
    go_wp2_with fail
    refine LD.out.mono ?_
    rintro e w7 ⟨q, p, g, h, rfl, hd7, hb7⟩
    have hba := (Below.refl w7.heap.size w7).alloc (Nat.le_refl _) (.cells #[.int .i64 k, .int .i64 l, .slice A n c] 37)
    have R8 := Lib.hid (W3.out.trans ((hb7.trans (hba.mono hb7.size)).mono W3.out.size))
    have D8 := Lib.hid (hd7.below hba)
    have Y8 := Lib.hid (tri_nw w7 37 (.int .i64 k) (.int .i64 l) (.slice A n c))
    have PN : ∀ w, (binOp .eql 33 (.pointer (some ⟨q, 0, none⟩)) (.pointer none)).run Tryz.prog w = .ok (.bool false) w := fun _ => by kernel_rfl
    clear hd7 hb7 hba LD x0 x1 x2 x3 hz
    go_upto_region 6 with fail
    generalize w7.alloc (.cells #[.int .i64 k, .int .i64 l, .slice A n c] 37) = W8 at *
    have V8 := Lib.hid (HV.out.below R8.out)
    have rl := D8.out.v.roll
    have PT := Lib.hid (fun v (hb : Below W8.heap.size W8 v) => PA.out.at_any r v (D8.out.below hb) (by omega) RB.out.1 RB.out.2)
    have PP := Lib.hid (fun v (hb : Below W8.heap.size W8 v) => PS.out.span_any r v (D8.out.below hb) (by omega) RB.out.1 RB.out.2)
    have RT := Lib.hid (fun v (hb : Below W8.heap.size W8 v) => rQuAt_any r l k A n c L v (V8.out.below hb) rl (by have := NL.out; omega) RB.out.1 RB.out.2)
    have RF := Lib.hid (fun v (hb : Below W8.heap.size W8 v) => rQuFirst_any r l k A n c L v (V8.out.below hb) rl (by have := NL.out; omega) RB.out.1 RB.out.2)
    have YES := Lib.hid (fun z : wrE L r = 0 => qu_span (r := r) rl z)
    have NO := Lib.hid (fun z : ¬ wrE L r = 0 => qu_none (l := l) (r := r) z)
    have bd := wrE_bd L r
    obtain ⟨f0, _⟩ := quAlF
    clear rl
    generalize qaA l L r = a at *
    generalize qfA l L r = f at *
    generalize wrE L r = E at *
    generalize qsA l L r = sa at *
    generalize qsZ l L r = sz at *
    have c1 : (a != a) = false := by simp
    have c2 : (E != E) = false := by simp
    go_wp2_with fail
    refine (PT.out _ (Below.refl _ _)).mono ?_
    rintro e u1 ⟨rfl, hu1⟩
    have U1 := Lib.hid hu1
    obtain ⟨y0, y1, y2, _, _, _, hy⟩ := tri_all (own_below Y8.out hu1)
    clear hu1 PT
    go_wp2_with fail
    refine (RT.out _ U1.out).mono ?_
    rintro e u2 ⟨rfl, hu2⟩
    have U2 := Lib.hid (qu_next U1.out hu2)
    clear y0 y1 y2 hy hu2 RT
    obtain ⟨y0, y1, y2, _, _, _, hy⟩ := tri_all (own_below Y8.out U2.out)
    go_wp2_with fail
    refine (RF.out _ U2.out).mono ?_
    rintro e u3 ⟨rfl, hu3⟩
    have U3 := Lib.hid (qu_next U2.out hu3)
    clear y0 y1 y2 hy hu3 RF
    go_wp2_with fail
    refine (PP.out _ U3.out).mono ?_
    rintro e u4 ⟨rfl, hu4⟩
    have U4 := Lib.hid (R8.out.trans ((qu_next U3.out hu4).mono R8.out.size))
    clear hu4 PP
    by_cases z : E = 0
    · obtain ⟨g1, g2⟩ := YES.out z
      subst z
      clear YES NO bd
      go_wp2_with (go_at_call 11; refine (AL.out _).mono ?_; rintro e v7 ⟨rfl, hbv7⟩)
      go_ret
      exact ⟨rfl, U4.out.trans (hbv7.mono U4.out.size)⟩
    · obtain ⟨rfl, rfl⟩ := NO.out z
      have z1 : (E != 0) = true := bne_iff_ne.2 z
      clear YES NO bd z
      go_wp2_with (go_at_call 11; refine (AL.out _).mono ?_; rintro e v7 ⟨rfl, hbv7⟩)
      go_ret
      exact ⟨rfl, U4.out.trans (hbv7.mono U4.out.size)⟩

end Go.Proofs.YtkhacpapkalkiaaGreat
