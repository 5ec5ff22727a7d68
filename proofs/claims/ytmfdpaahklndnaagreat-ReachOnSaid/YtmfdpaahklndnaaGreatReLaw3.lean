/- The walk of the statement ReachOn of layer reach, over the project's contracts: for every input it returns true, and nothing that was there before is changed. -/
import Derived.Test.YtmfdpaahklndnaaGreatReLaw
import Derived.Test.YtmfdpaahklndnaaGreatReR
import Derived.Deep.Cut
namespace Go.Proofs.YtmfdpaahklndnaaGreat
set_option linter.unusedVariables false
set_option maxRecDepth 100000
open Go.RowKit
set_option maxHeartbeats 25600000 in
theorem walk_reachOnK (KB : ReB) (KO : ReO) (KF : ReF) (l k kd : Int) (A : Option Addr) (n c : Nat) (L : List Nd) (A1 : Option Addr) (n1 c1 : Nat) (U : List Int) (L0 : -9223372036854775808 ≤ l) (L1 : l ≤ 9223372036854775807) (K0 : -9223372036854775808 ≤ k) (K1 : k ≤ 9223372036854775807) (D0 : -9223372036854775808 ≤ kd) (D1 : kd ≤ 9223372036854775807) (NB : NBds L) (m1 : n ≤ 9223372036854775807)
    (UB : Bds U) (m2 : n1 ≤ 9223372036854775807) (w : World) (hv : NodesAt w (.slice A n c) L) (hu : IntsAt w (.slice A1 n1 c1) U) :
    Calls Tryz.prog 4 #[.agg #[.int .i64 l, .int .i64 k, .int .i64 kd, .slice A n c], .slice A1 n1 c1] w fun e w' => e = .returned (.bool true) ∧ Below w.heap.size w w' := by
  have X0 := Lib.hid (quad_new w 26 (.int .i64 l) (.int .i64 k) (.int .i64 kd) (.slice A n c))
  have HB0 : Hid (Below w.heap.size w (w.alloc (.cells #[.int .i64 l, .int .i64 k, .int .i64 kd, .slice A n c] 26))) := (Below.refl _ _).alloc (Nat.le_refl _) _
  have PO := Lib.hid KO
  have PF := Lib.hid KF
  have HV := Lib.hid hv
  have HU := Lib.hid hu
  have HUB := Lib.hid UB
  have HNB : Hid (NBds L) := NB
  have LL := Lib.hid (And.intro L0 L1)
  have AL := Lib.hid (fun v => reAlive_any KB v)
  clear KB KO KF K0 K1 D0 D1 m1 hv hu NB L0 L1 UB
  go_enter Tryz.func4, Tryz.ntmps4
  go_wp2_with fail
  generalize w.alloc (.cells #[.int .i64 l, .int .i64 k, .int .i64 kd, .slice A n c] 26) = W at *
  refine (PO.out.on_nil _ (HU.out.below HB0.out) HUB.out).mono ?_
  rintro e u1 ⟨rfl, hu1⟩
  have V1 := Lib.hid (hu1.alloc hu1.size (.cells #[.int .i64 0, .int .i64 0] 29))
  clear hu1
  go_upto_region 2 with fail
  generalize u1.alloc (.cells #[.int .i64 0, .int .i64 0] 29) = U1 at *
  go_wp2_with fail
  refine (PF.out.off_nil _ ((HU.out.below HB0.out).below V1.out) HUB.out).mono ?_
  rintro e u2 ⟨rfl, hu2⟩
  have V2 := Lib.hid (re_next V1.out (hu2.alloc hu2.size (.cells #[.int .i64 0, .int .i64 0] 29)))
  clear hu2
  go_upto_region 3 with fail
  generalize u2.alloc (.cells #[.int .i64 0, .int .i64 0] 29) = U2 at *
  have W3 := Lib.hid (HB0.out.trans (V2.out.mono HB0.out.size))
  obtain ⟨x0, x1, x2, x3, _, _, _, _, hz⟩ := quad_all (own_below X0.out V2.out)
  cases hld : rnkLdB kd l k n L
  · have LD := Lib.hid (rnkLoad_no l k kd A n c L U2 (HV.out.below W3.out) HNB.out LL.out.1 LL.out.2 hld)
    clear hld
    go_wp2_with fail
    refine LD.out.mono ?_
    rintro e w7 ⟨rfl, hb7⟩
    have Q1 := Lib.hid (W3.out.trans (hb7.mono W3.out.size))
    have Q2 := Lib.hid (Q1.out.alloc Q1.out.size (.cells #[.int .i64 0, .int .i64 0, .slice none 0 0] 38))
    clear hb7 LD x0 x1 x2 x3 hz
    go_wp2_with (go_at_call 10; refine (AL.out _).mono ?_; rintro e v7 ⟨rfl, hbv7⟩)
    go_ret
    exact ⟨rfl, Q2.out.trans (hbv7.mono Q2.out.size)⟩
  · have LD := Lib.hid (rnkLoad_yes l k kd A n c L U2 (HV.out.below W3.out) HNB.out LL.out.1 LL.out.2 hld)
    have NL : Hid (¬ 150 < n) := (of_decide_eq_true hld).1
    clear hld
    go_wp2_with fail
    refine LD.out.mono ?_
    rintro e w7 ⟨q, p, g, h, rfl, hd7, hb7⟩
    have hba := (Below.refl w7.heap.size w7).alloc (Nat.le_refl _) (.cells #[.int .i64 k, .int .i64 l, .slice A n c] 38)
    have Z8 := Lib.hid (re_next V2.out (hb7.trans (hba.mono hb7.size)))
    have D8 := Lib.hid (hd7.below hba)
    have Y8 := Lib.hid (tri_nw w7 38 (.int .i64 k) (.int .i64 l) (.slice A n c))
    have PN : ∀ w, (binOp .eql 34 (.pointer (some ⟨q, 0, none⟩)) (.pointer none)).run Tryz.prog w = .ok (.bool false) w := fun _ => by kernel_rfl
    clear hd7 hb7 hba LD x0 x1 x2 x3 hz
    go_upto_region 6 with fail
    generalize w7.alloc (.cells #[.int .i64 k, .int .i64 l, .slice A n c] 38) = W8 at *
    have R8 := Lib.hid (HB0.out.trans (Z8.out.mono HB0.out.size))
    have V8 := Lib.hid (HV.out.below R8.out)
    have I8 := Lib.hid (HU.out.below R8.out)
    by_cases h30 : 30 < n1
    · have h30' : (30 : Int) < (n1 : Int) := by omega
      go_wp2_with (go_at_call 10; refine (AL.out _).mono ?_; rintro e v7 ⟨rfl, hbv7⟩)
      go_ret
      exact ⟨rfl, R8.out.trans (hbv7.mono R8.out.size)⟩
    have h30' : ¬ (30 : Int) < (n1 : Int) := by omega
    have rl := D8.out.v.roll
    have H30 := Lib.hid h30
    obtain ⟨E, S1, S2, F1, F2, PT, RT, PP, RS⟩ : ∃ E S1 S2 F1 F2 : Int,
        Hid (∀ v, Below W8.heap.size W8 v → Calls Tryz.prog 13 #[.pointer (some ⟨q, 0, none⟩), .slice A1 n1 c1] v fun e w' => e = .returned (.tuple #[.agg #[.int .i64 S1, .int .i64 S2], .int .i64 E]) ∧ Below v.heap.size v w')
        ∧ Hid (∀ v, Below W8.heap.size W8 v → Calls Tryz.prog 15 #[.agg #[.int .i64 k, .int .i64 l, .slice A n c], .slice A1 n1 c1, .bool false] v fun e w' => e = .returned (.tuple #[.agg #[.int .i64 S1, .int .i64 S2], .int .i64 E]) ∧ Below v.heap.size v w')
        ∧ Hid (∀ v, Below W8.heap.size W8 v → Calls Tryz.prog 14 #[.pointer (some ⟨q, 0, none⟩), .slice A1 n1 c1] v fun e w' => e = .returned (.tuple #[.agg #[.int .i64 F1, .int .i64 F2], .int .i64 E]) ∧ Below v.heap.size v w')
        ∧ Hid (∀ v, Below W8.heap.size W8 v → Calls Tryz.prog 15 #[.agg #[.int .i64 k, .int .i64 l, .slice A n c], .slice A1 n1 c1, .bool true] v fun e w' => e = .returned (.tuple #[.agg #[.int .i64 F1, .int .i64 F2], .int .i64 E]) ∧ Below v.heap.size v w') := by
      rcases all_or l U with ha | ha
      · have HE := fun (u : World) (hb : Below W8.heap.size W8 u) (lo hi : Int) (v : World) (hv : Below u.heap.size u v) a b c => rReHeld_any (l := l) lo hi A1 n1 c1 U v ((I8.out.below hb).below hv) HUB.out (by have := H30.out; omega) LL.out.1 LL.out.2 ha a b c
        exact ⟨0, onL l U L, onH l U L, ofL l U L, ofH l U L,
          Lib.hid (fun v hb => PO.out.on_yes v (D8.out.below hb) (by have := NL.out; omega) (I8.out.below hb) HUB.out (by have := H30.out; omega) ha),
          Lib.hid (fun v hb => rReOn_on k A n c L A1 n1 c1 U v (V8.out.below hb) rl (by have := NL.out; omega) (I8.out.below hb) HUB.out (by have := H30.out; omega) ha (HE v hb)),
          Lib.hid (fun v hb => PF.out.off_yes v (D8.out.below hb) (by have := NL.out; omega) (I8.out.below hb) HUB.out (by have := H30.out; omega) ha),
          Lib.hid (fun v hb => rReOn_off k A n c L A1 n1 c1 U v (V8.out.below hb) rl (by have := NL.out; omega) (I8.out.below hb) HUB.out (by have := H30.out; omega) ha (HE v hb))⟩
      · exact ⟨2, 0, 0, 0, 0,
          Lib.hid (fun v hb => PO.out.on_no v (D8.out.below hb) (by have := NL.out; omega) (I8.out.below hb) HUB.out (by have := H30.out; omega) ha),
          Lib.hid (fun v hb => rReOn_no k A n c L A1 n1 c1 U false v (V8.out.below hb) rl (by have := NL.out; omega) (I8.out.below hb) HUB.out (by have := H30.out; omega) ha),
          Lib.hid (fun v hb => PF.out.off_no v (D8.out.below hb) (by have := NL.out; omega) (I8.out.below hb) HUB.out (by have := H30.out; omega) ha),
          Lib.hid (fun v hb => rReOn_no k A n c L A1 n1 c1 U true v (V8.out.below hb) rl (by have := NL.out; omega) (I8.out.below hb) HUB.out (by have := H30.out; omega) ha)⟩
    clear rl h30
    have c1' : (E == E) = true := by simp
    have q1 := both_same S1 S2
    have q2 := both_same F1 F2
    go_wp2_with fail
    refine (PT.out _ (Below.refl _ _)).mono ?_
    rintro e u3 ⟨rfl, hu3⟩
    have E3 := Lib.hid (box2 u3 29 (.int .i64 S1) (.int .i64 S2))
    have G0 := Lib.hid (hu3.alloc hu3.size (.cells #[.int .i64 S1, .int .i64 S2] 29))
    clear hu3 PT
    go_upto_region 9 with fail
    generalize u3.alloc (.cells #[.int .i64 S1, .int .i64 S2] 29) = U3 at *
    obtain ⟨t0, t1, t2, _, _, _, ht⟩ := tri_all (own_below Y8.out G0.out)
    go_wp2_with fail
    refine (RT.out _ G0.out).mono ?_
    rintro e u4 ⟨rfl, hu4⟩
    have hv4 := hu4.alloc hu4.size (.cells #[.int .i64 S1, .int .i64 S2] 29)
    have E4 := Lib.hid (box2 u4 29 (.int .i64 S1) (.int .i64 S2))
    have G3 := Lib.hid (own_below E3.out hv4)
    have G4 := Lib.hid (re_next G0.out hv4)
    clear hu4 hv4 t0 t1 t2 ht RT E3
    go_upto_region 10 with fail
    generalize u4.alloc (.cells #[.int .i64 S1, .int .i64 S2] 29) = U4 at *
    go_wp2_with fail
    refine (PP.out _ G4.out).mono ?_
    rintro e u5 ⟨rfl, hu5⟩
    have hv5 := hu5.alloc hu5.size (.cells #[.int .i64 F1, .int .i64 F2] 29)
    have E5 := Lib.hid (box2 u5 29 (.int .i64 F1) (.int .i64 F2))
    have H3 := Lib.hid (own_below G3.out hv5)
    have H4 := Lib.hid (own_below E4.out hv5)
    have G5 := Lib.hid (re_next G4.out hv5)
    clear hu5 hv5 PP G3 E4
    go_upto_region 11 with fail
    generalize u5.alloc (.cells #[.int .i64 F1, .int .i64 F2] 29) = U5 at *
    obtain ⟨t0, t1, t2, _, _, _, ht⟩ := tri_all (own_below Y8.out G5.out)
    go_wp2_with fail
    refine (RS.out _ G5.out).mono ?_
    rintro e u6 ⟨rfl, hu6⟩
    have hv6 := hu6.alloc hu6.size (.cells #[.int .i64 F1, .int .i64 F2] 29)
    have E6 := Lib.hid (box2 u6 29 (.int .i64 F1) (.int .i64 F2))
    have I3 := Lib.hid (own_below H3.out hv6)
    have I4 := Lib.hid (own_below H4.out hv6)
    have I5 := Lib.hid (own_below E5.out hv6)
    have G6 := Lib.hid (R8.out.trans ((re_next G5.out hv6).mono R8.out.size))
    clear hu6 hv6 t0 t1 t2 ht RS H3 H4 E5
    go_upto_region 12 with fail
    generalize u6.alloc (.cells #[.int .i64 F1, .int .i64 F2] 29) = U6 at *
    obtain ⟨i0, i1, _, _, _⟩ := box_cells I3.out
    obtain ⟨j0, j1, _, _, _⟩ := box_cells I4.out
    obtain ⟨k0, k1, _, _, _⟩ := box_cells I5.out
    obtain ⟨n0, n1', _, _, _⟩ := box_cells E6.out
    go_wp2_with (go_at_call 10; refine (AL.out _).mono ?_; rintro e v7 ⟨rfl, hbv7⟩)
    go_ret
    exact ⟨rfl, G6.out.trans (hbv7.mono G6.out.size)⟩
end Go.Proofs.YtmfdpaahklndnaaGreat
