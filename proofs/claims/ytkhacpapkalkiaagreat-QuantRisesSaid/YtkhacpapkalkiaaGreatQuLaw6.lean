/- The walk of the statement QuantRises of layer quant, over the project's contracts: for every input it returns true, and nothing that was there before is changed. -/
import Derived.Test.YtkhacpapkalkiaaGreatQuLaw
import Derived.Test.YtkhacpapkalkiaaGreatMmy
import Derived.Deep.Cut
namespace Go.Proofs.YtkhacpapkalkiaaGreat
set_option linter.unusedVariables false
set_option maxRecDepth 100000
open Go.RowKit

/-- of two ranks that there are: what is told of them -/
theorem qu_rises {l : Int} {L : List Nd} {a b : Int} (h : RollC l L) (a1 : 1 ≤ a) (ab : a ≤ b) (b1 : b ≤ sumC L) :
    (0 ≤ atN l L a ∧ atN l L a < 281474976710656) ∧ (0 ≤ atN l L b ∧ atN l L b < 281474976710656) ∧ (0 ≤ fstQ l L a ∧ fstQ l L a < 281474976710656) ∧ (0 ≤ fstQ l L b ∧ fstQ l L b < 281474976710656) ∧ atN l L a ≤ atN l L b ∧ fstQ l L a ≤ fstQ l L b ∧ a ≤ lowR l L (atN l L a) ∧ lowR l L (atN l L a - 1) < a := by
  have u : 1 ≤ l ∧ l ≤ 48 := of_decide_eq_true h.1
  have p : (2 : Int) ^ l.toNat ≤ 281474976710656 := two_le l.toNat 48 (by omega)
  have x := at_is (r := a) h a1 (by omega)
  have y := at_is (r := b) h (by omega) b1
  have z := fst_isQ (r := a) h a1 (by omega)
  have t := fst_isQ (r := b) h (by omega) b1
  refine ⟨⟨x.2.1, by omega⟩, ⟨y.2.1, by omega⟩, ⟨z.2.1, by omega⟩, ⟨t.2.1, by omega⟩, x.1.mono y.1 ab, z.1.mono t.1 ab, x.1.is, x.1.least _ (by omega)⟩
theorem qu_gt {a b : Int} (h0 : 0 ≤ a) (h : a ≤ b) (h1 : b < 281474976710656) : (FloatKind.f64.format.order (floatOfInt .f64 a) (floatOfInt .f64 b) == some .gt) = false := by
  show (Ieee.double.order _ _ == _) = false
  rw [flo_order h0 (by omega) (by omega) (by omega)]
  rcases Int.lt_trichotomy a b with g | g | g
  · rw [Int.compare_eq_lt.2 g]; rfl
  · subst g; rw [Int.compare_eq_eq.2 rfl]; rfl
  · omega
/-- the last of a list of numbers that is read -/
theorem qu_last {w : World} {A : Option Addr} {n c : Nat} {T : List Int} {x : Int} (h : IntsAt w (.slice A n c) T) (hn : T ≠ []) (hx : T.getLast hn = x) : ∃ b o k, A = some ⟨b, o, none⟩ ∧ b < w.heap.size ∧ n = k + 1 ∧ w.cell? ⟨b, o + k, none⟩ = some (.int .i64 x) := by
  obtain ⟨e, hc⟩ := ints_cells h
  have pos : 0 < T.length := List.length_pos_iff.2 hn
  obtain ⟨b, o, ea, hb, cc⟩ := hc pos
  refine ⟨b, o, n - 1, ea, hb, by omega, ?_⟩
  rw [cc (n - 1) (by omega), ← hx, List.getLast_eq_getElem, e]
  simp [List.getD_eq_getElem?_getD, List.getElem?_eq_getElem (show T.length - 1 < T.length by omega)]
/-- the project's Low alone -/
structure RnkLq : Prop where
  low : ∀ {B q p g h : Nat} {kd l k : Int} {n : Nat} {L : List Nd} (x : Int) (w : World), DgA w B q p g h kd l k n L → n ≤ 1000 → -9223372036854775808 ≤ x → x ≤ 9223372036854775807 → Calls Tryz.prog 26 #[.pointer (some ⟨q, 0, none⟩), .int .i64 x] w fun e w' => e = .returned (.int .i64 (lowR l L x)) ∧ Below w.heap.size w w'
set_option maxHeartbeats 12800000 in
theorem walk_quantRisesK {TB : World → Nat → Nat → Int → List Nd → Prop} (KA : QuA) (KS : QuS) (KR : QuR) (KL : RnkLq) (KT : RnkTq TB) (l k kd : Int) (A : Option Addr) (n c : Nat) (L : List Nd) (a b : Int) (L0 : -9223372036854775808 ≤ l) (L1 : l ≤ 9223372036854775807) (K0 : -9223372036854775808 ≤ k) (K1 : k ≤ 9223372036854775807) (D0 : -9223372036854775808 ≤ kd) (D1 : kd ≤ 9223372036854775807) (NB : NBds L) (m1 : n ≤ 9223372036854775807)
    (A0 : -9223372036854775808 ≤ a) (A1 : a ≤ 9223372036854775807) (B0 : -9223372036854775808 ≤ b) (B1 : b ≤ 9223372036854775807) (w : World) (hv : NodesAt w (.slice A n c) L) :
    Calls Tryz.prog 7 #[.agg #[.int .i64 l, .int .i64 k, .int .i64 kd, .slice A n c], .int .i64 a, .int .i64 b] w fun e w' => e = .returned (.bool true) ∧ Below w.heap.size w w' := by
  have HB0 : Hid (Below w.heap.size w (w.alloc (.cells #[.int .i64 l, .int .i64 k, .int .i64 kd, .slice A n c] 26))) := (Below.refl _ _).alloc (Nat.le_refl _) _
  have X0 := Lib.hid (quad_new w 26 (.int .i64 l) (.int .i64 k) (.int .i64 kd) (.slice A n c))
  obtain ⟨x0, x1, x2, x3, _, _, _, _, hz⟩ := quad_all X0.out
  have PA := Lib.hid KA
  have PS := Lib.hid KS
  have PL := Lib.hid KL
  have PT := Lib.hid KT
  have AL := Lib.hid (fun v => quAlive_any KA KS KR v)
  clear KA KS KR KL KT K0 K1 D0 D1 m1
  cases hld : rnkLdB kd l k n L
  · have LD := Lib.hid (rnkLoad_no l k kd A n c L _ (hv.below HB0.out) NB L0 L1 hld)
    clear hld hv NB
    go_enter Tryz.func7, Tryz.ntmps7
    go_wp2_with fail
    generalize w.alloc (.cells #[.int .i64 l, .int .i64 k, .int .i64 kd, .slice A n c] 26) = W at *
    refine LD.out.mono ?_
    rintro e w1 ⟨rfl, hb1⟩
    have Q1 := Lib.hid (HB0.out.trans (hb1.mono HB0.out.size))
    have Q2 := Lib.hid (Q1.out.alloc Q1.out.size (.cells #[.int .i64 0, .int .i64 0, .slice none 0 0] 37))
    clear hb1 LD x0 x1 x2 x3 hz
    go_wp2_with (go_at_call 11; refine (AL.out _).mono ?_; rintro e v7 ⟨rfl, hbv7⟩)
    go_ret
    exact ⟨rfl, Q2.out.trans (hbv7.mono Q2.out.size)⟩
  · have LD := Lib.hid (rnkLoad_yes l k kd A n c L _ (hv.below HB0.out) NB L0 L1 hld)
    clear hld hv NB
    go_enter Tryz.func7, Tryz.ntmps7
    go_wp2_with fail
    generalize w.alloc (.cells #[.int .i64 l, .int .i64 k, .int .i64 kd, .slice A n c] 26) = W at *
    refine LD.out.mono ?_
    rintro e w1 ⟨q, p, g, h, rfl, hd, hb1⟩
    have hba := (Below.refl w1.heap.size w1).alloc (Nat.le_refl _) (.cells #[.int .i64 k, .int .i64 l, .slice A n c] 37)
    have Q1 := Lib.hid (HB0.out.trans ((hb1.trans (hba.mono hb1.size)).mono HB0.out.size))
    have D1 := Lib.hid (hd.below hba)
    have PN : ∀ w, (binOp .eql 33 (.pointer (some ⟨q, 0, none⟩)) (.pointer none)).run Tryz.prog w = .ok (.bool false) w := fun _ => by kernel_rfl
    clear hba hd hb1 LD x0 x1 x2 x3 hz
    go_upto_region 3 with fail
    generalize w1.alloc (.cells #[.int .i64 k, .int .i64 l, .slice A n c] 37) = W1 at *
    have roll := D1.out.v.roll
    have nn := good_nonneg (roll_good roll)
    have s0 : 0 ≤ sumC L := sumC_nonneg nn
    have s1 : sumC L ≤ 72057594037927935 := roll.2.2.2.2
    have hab : min a b ≤ max a b := by omega
    have ma0 : -9223372036854775808 ≤ min a b := by omega
    have ma1 : min a b ≤ 9223372036854775807 := by omega
    have mb0 : -9223372036854775808 ≤ max a b := by omega
    have mb1 : max a b ≤ 9223372036854775807 := by omega
    clear A0 A1 B0 B1 nn
    generalize min a b = a2 at *
    generalize max a b = b2 at *
    have NT := Lib.hid (fun v (hb : Below W1.heap.size W1 v) => dgN_any v (D1.out.below hb).box (D1.out.below hb).po (by omega))
    rcases (show a2 < 1 ∨ (¬ a2 < 1 ∧ sumC L < b2) ∨ (¬ a2 < 1 ∧ ¬ sumC L < b2) by omega) with h1 | ⟨h1, h2⟩ | ⟨h1, h2⟩
    · go_wp2_with (go_at_call 11; refine (AL.out _).mono ?_; rintro e v7 ⟨rfl, hbv7⟩)
      go_ret
      exact ⟨rfl, Q1.out.trans (hbv7.mono Q1.out.size)⟩
    · generalize sumC L = S at *
      go_wp2_with (first
        | (go_at_call 25; refine (NT.out _ (Below.refl _ _)).mono ?_; rintro e v6 ⟨rfl, hbv6⟩)
        | (go_at_call 11; refine (AL.out _).mono ?_; rintro e v7 ⟨rfl, hbv7⟩))
      go_ret
      exact ⟨rfl, Q1.out.trans ((hbv6.trans (hbv7.mono hbv6.size)).mono Q1.out.size)⟩
    · have RI := qu_rises (b := b2) roll (show 1 ≤ a2 by omega) hab (by omega)
      have wa := wrE_yes (L := L) (r := a2) (by omega) (by omega)
      have wb := wrE_yes (L := L) (r := b2) (by omega) (by omega)
      have ws := wrE_yes (L := L) (r := sumC L) (by omega) (by omega)
      obtain ⟨sne, sl⟩ := at_all roll (by omega)
      have T1 : Hid (∀ v, Below W1.heap.size W1 v → Calls Tryz.prog 8 #[.pointer (some ⟨q, 0, none⟩), .int .i64 a2] v fun e w' => e = .returned (.tuple #[.int .i64 (atN l L a2), .int .i64 0]) ∧ Below v.heap.size v w') := fun v hb => by
        have z := PA.out.at_any a2 v (D1.out.below hb) (by omega) ma0 ma1
        rw [wa, qaA_yes wa] at z; exact z
      have T2 : Hid (∀ v, Below W1.heap.size W1 v → Calls Tryz.prog 8 #[.pointer (some ⟨q, 0, none⟩), .int .i64 b2] v fun e w' => e = .returned (.tuple #[.int .i64 (atN l L b2), .int .i64 0]) ∧ Below v.heap.size v w') := fun v hb => by
        have z := PA.out.at_any b2 v (D1.out.below hb) (by omega) mb0 mb1
        rw [wb, qaA_yes wb] at z; exact z
      have T3 : Hid (∀ v, Below W1.heap.size W1 v → Calls Tryz.prog 8 #[.pointer (some ⟨q, 0, none⟩), .int .i64 (sumC L)] v fun e w' => e = .returned (.tuple #[.int .i64 (atN l L (sumC L)), .int .i64 0]) ∧ Below v.heap.size v w') := fun v hb => by
        have z := PA.out.at_any (sumC L) v (D1.out.below hb) (by omega) (by omega) (by omega)
        rw [ws, qaA_yes ws] at z; exact z
      have P1 : Hid (∀ v, Below W1.heap.size W1 v → Calls Tryz.prog 9 #[.pointer (some ⟨q, 0, none⟩), .int .i64 a2] v fun e w' => e = .returned (.tuple #[.complex .f64 (floatOfInt .f64 (fstQ l L a2)) (floatOfInt .f64 (atN l L a2)), .int .i64 0]) ∧ Below v.heap.size v w') := fun v hb => by
        have z := PS.out.span_any a2 v (D1.out.below hb) (by omega) ma0 ma1
        unfold qsA qsZ at z
        rw [if_pos wa, if_pos wa, wa] at z; exact z
      have P2 : Hid (∀ v, Below W1.heap.size W1 v → Calls Tryz.prog 9 #[.pointer (some ⟨q, 0, none⟩), .int .i64 b2] v fun e w' => e = .returned (.tuple #[.complex .f64 (floatOfInt .f64 (fstQ l L b2)) (floatOfInt .f64 (atN l L b2)), .int .i64 0]) ∧ Below v.heap.size v w') := fun v hb => by
        have z := PS.out.span_any b2 v (D1.out.below hb) (by omega) mb0 mb1
        unfold qsA qsZ at z
        rw [if_pos wb, if_pos wb, wb] at z; exact z
      have LO := Lib.hid (fun v y (hb : Below W1.heap.size W1 v) y0 y1 => PL.out.low y v (D1.out.below hb) (by omega) y0 y1)
      have OF := Lib.hid (fun v (hb : Below W1.heap.size W1 v) => PT.out.of v (D1.out.below hb) (by omega))
      have SLT := Lib.hid (fun (v : World) (A : Option Addr) (n c : Nat) (hi : IntsAt v (.slice A n c) (stepsN l L)) => qu_last hi sne sl)
      clear wa wb ws sne sl roll
      obtain ⟨⟨ya0, ya1⟩, ⟨yb0, yb1⟩, ⟨fa0, fa1⟩, ⟨fb0, fb1⟩, hyy, hff, hl1, hl2⟩ := RI
      have LA := Lib.hid (fun v (hb : Below W1.heap.size W1 v) => LO.out v (atN l L a2) hb (by omega) (by omega))
      have LB := Lib.hid (fun v (hb : Below W1.heap.size W1 v) => LO.out v (atN l L a2 - 1) hb (by omega) (by omega))
      have G1 := qu_gt fa0 hff fb1
      have G2 : (FloatKind.f64.format.order (floatOfInt .f64 (atN l L a2)) (floatOfInt .f64 (atN l L a2)) == some .eq) = true := flo_self ya0 (by omega)
      have G3 : (FloatKind.f64.format.order (floatOfInt .f64 (atN l L b2)) (floatOfInt .f64 (atN l L b2)) == some .eq) = true := flo_self yb0 (by omega)
      have G4 : (FloatKind.f64.format.order (floatOfInt .f64 (atN l L a2)) (floatOfInt .f64 (atN l L a2)) != some .eq) = false := by rw [bne, G2]; rfl
      have G5 : (FloatKind.f64.format.order (floatOfInt .f64 (atN l L b2)) (floatOfInt .f64 (atN l L b2)) != some .eq) = false := by rw [bne, G3]; rfl
      have d1 : decide (atN l L b2 < atN l L a2) = false := decide_eq_false (by omega)
      have d2 : decide (lowR l L (atN l L a2) < a2) = false := decide_eq_false (by omega)
      have d3 : decide (a2 ≤ lowR l L (atN l L a2 - 1)) = false := decide_eq_false (by omega)
      have hw : IntKind.i64.wrap (atN l L a2 - 1) = atN l L a2 - 1 := wrap_lit rfl (by omega) (by omega)
      have DL := Lib.hid (And.intro d2 d3)
      clear LO hl1 hl2 hff
      generalize lowR l L (atN l L a2) = lo1 at *
      generalize lowR l L (atN l L a2 - 1) = lo2 at *
      generalize atN l L a2 = ya at *
      generalize atN l L b2 = yb at *
      generalize atN l L (sumC L) = last at *
      generalize fstQ l L a2 = fa at *
      generalize fstQ l L b2 = fb at *
      generalize sumC L = S at *
      go_wp2_with (go_at_call 25; refine (NT.out _ (Below.refl _ _)).mono ?_; rintro e v1 ⟨rfl, hv1⟩)
      have V1 := Lib.hid hv1
      clear hv1
      refine (T1.out _ V1.out).mono ?_
      rintro e v2 ⟨rfl, hv2⟩
      have V2 := Lib.hid (qu_next V1.out hv2)
      clear hv2 T1
      go_wp2_with fail
      refine (T2.out _ V2.out).mono ?_
      rintro e v3 ⟨rfl, hv3⟩
      have V3 := Lib.hid (qu_next V2.out hv3)
      clear hv3 T2
      go_wp2_with fail
      refine (P1.out _ V3.out).mono ?_
      rintro e v4 ⟨rfl, hv4⟩
      have V4 := Lib.hid (qu_next V3.out hv4)
      clear hv4 P1
      go_wp2_with fail
      refine (P2.out _ V4.out).mono ?_
      rintro e v5 ⟨rfl, hv5⟩
      have V5 := Lib.hid (qu_next V4.out hv5)
      clear hv5 P2
      go_wp2_with fail
      refine (LA.out _ V5.out).mono ?_
      rintro e v6 ⟨rfl, hv6⟩
      have V6 := Lib.hid (qu_next V5.out hv6)
      clear hv6 LA
      go_wp2_with fail
      refine (LB.out _ V6.out).mono ?_
      rintro e v7 ⟨rfl, hv7⟩
      have V7 := Lib.hid (qu_next V6.out hv7)
      clear hv7 LB
      go_wp2_with (go_at_call 25; refine (NT.out _ V7.out).mono ?_; rintro e v8 ⟨rfl, hv8⟩)
      have V8 := Lib.hid (qu_next V7.out hv8)
      clear hv8 NT
      refine (T3.out _ V8.out).mono ?_
      rintro e v9 ⟨rfl, hv9⟩
      have V9 := Lib.hid (qu_next V8.out hv9)
      clear hv9 T3
      go_wp2_with fail
      refine (OF.out _ V9.out).mono ?_
      rintro e v10 ⟨⟨t, rfl, ht⟩, hv10⟩
      have V10 := Lib.hid (qu_next V9.out hv10)
      have ST := Lib.hid (PT.out.steps v10 ht)
      clear hv10 OF ht
      go_wp2_with fail
      refine ST.out.mono ?_
      rintro e v11 ⟨⟨A9, n9, c9, rfl, hi9, hn9⟩, hv11⟩
      have V11 := Lib.hid (Q1.out.trans ((qu_next V10.out hv11).mono Q1.out.size))
      obtain ⟨b9, o9, k9, rfl, hb9, hk9, hc9⟩ := SLT.out _ _ _ _ hi9
      have k0 : (0 : Int) ≤ (k9 : Int) := Int.natCast_nonneg _
      have k1 : (k9 : Int) < (n9 : Int) := by omega
      have k2 : k9 < n9 := by omega
      have k3 : decide ((0 : Int) < (n9 : Int)) = true := decide_eq_true (by omega)
      have k4 : wrap64 ((n9 : Int) - 1) = (k9 : Int) := by rw [IntWalk.wrap64_in _ (by omega)]; omega
      have k5 : IntKind.i64.wrap ((n9 : Int) - 1) = (k9 : Int) := by rw [wrap_lit rfl (by omega) (by omega)]; omega
      have k6 : (last == last) = true := by simp
      clear hi9 hv11 SLT hk9 ST
      go_wp2_with (go_at_call 11; refine (AL.out _).mono ?_; rintro e v12 ⟨rfl, hbv12⟩)
      go_ret
      exact ⟨rfl, V11.out.trans (hbv12.mono V11.out.size)⟩

end Go.Proofs.YtkhacpapkalkiaaGreat
