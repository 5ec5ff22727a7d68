/- The walk of the statement ReachBetween of layer reach, over the project's contracts: for every input it returns true, and nothing that was there before is changed. -/
import Derived.Test.YtmfdpaahklndnaaGreatReLaw
import Derived.Test.YtmfdpaahklndnaaGreatReR
import Derived.Deep.Cut
namespace Go.Proofs.YtmfdpaahklndnaaGreat
set_option linter.unusedVariables false
set_option maxRecDepth 100000
open Go.RowKit
set_option maxHeartbeats 25600000 in
theorem walk_reachBetweenK (KB : ReB) (KS : ReS) (l k kd : Int) (A : Option Addr) (n c : Nat) (L : List Nd) (a b d : Int) (L0 : -9223372036854775808 ≤ l) (L1 : l ≤ 9223372036854775807) (K0 : -9223372036854775808 ≤ k) (K1 : k ≤ 9223372036854775807) (D0 : -9223372036854775808 ≤ kd) (D1 : kd ≤ 9223372036854775807) (NB : NBds L) (m1 : n ≤ 9223372036854775807)
    (A0 : -9223372036854775808 ≤ a) (A1 : a ≤ 9223372036854775807) (B0 : -9223372036854775808 ≤ b) (B1 : b ≤ 9223372036854775807) (C0 : -9223372036854775808 ≤ d) (C1 : d ≤ 9223372036854775807) (w : World) (hv : NodesAt w (.slice A n c) L) :
    Calls Tryz.prog 3 #[.agg #[.int .i64 l, .int .i64 k, .int .i64 kd, .slice A n c], .agg #[.int .i64 a, .int .i64 b, .int .i64 d]] w fun e w' => e = .returned (.bool true) ∧ Below w.heap.size w w' := by
  have e1 : (w.alloc (.cells #[.int .i64 l, .int .i64 k, .int .i64 kd, .slice A n c] 26)).heap.size = w.heap.size + 1 := by simp
  have X0 := Lib.hid ((quad_new w 26 (.int .i64 l) (.int .i64 k) (.int .i64 kd) (.slice A n c)).alloc (.cells #[.int .i64 a, .int .i64 b, .int .i64 d] 27))
  have Y0 : Hid (((w.alloc (.cells #[.int .i64 l, .int .i64 k, .int .i64 kd, .slice A n c] 26)).alloc (.cells #[.int .i64 a, .int .i64 b, .int .i64 d] 27)).ownsRow w.heap.size 27 3 (.slice (some ⟨w.heap.size + 1, 0, none⟩) 1 1) 1 [.int .i64 a, .int .i64 b, .int .i64 d]) := by
    have z := tri_nw (w.alloc (.cells #[.int .i64 l, .int .i64 k, .int .i64 kd, .slice A n c] 26)) 27 (.int .i64 a) (.int .i64 b) (.int .i64 d)
    rw [e1] at z
    exact own_low z (Nat.le_succ _)
  have HB0 : Hid (Below w.heap.size w ((w.alloc (.cells #[.int .i64 l, .int .i64 k, .int .i64 kd, .slice A n c] 26)).alloc (.cells #[.int .i64 a, .int .i64 b, .int .i64 d] 27))) := ((Below.refl _ _).alloc (Nat.le_refl _) _).alloc (by simp) _
  have PB := Lib.hid KB
  have PS := Lib.hid KS
  have HV := Lib.hid hv
  have HNB : Hid (NBds L) := NB
  have LL := Lib.hid (And.intro L0 L1)
  have RB := Lib.hid (And.intro (And.intro A0 A1) (And.intro (And.intro B0 B1) (And.intro C0 C1)))
  have AL := Lib.hid (fun v => reAlive_any KB v)
  obtain ⟨y0, y1, y2, _, _, _, hy⟩ := tri_all Y0.out
  clear KB KS K0 K1 D0 D1 m1 hv NB L0 L1 A0 A1 B0 B1 C0 C1 e1
  go_enter Tryz.func3, Tryz.ntmps3
  go_wp2_with fail
  generalize (w.alloc (.cells #[.int .i64 l, .int .i64 k, .int .i64 kd, .slice A n c] 26)).alloc (.cells #[.int .i64 a, .int .i64 b, .int .i64 d] 27) = W at *
  refine (PB.out.bet_nil a b _).mono ?_
  rintro e u1 ⟨rfl, hu1⟩
  have V1 := Lib.hid (hu1.alloc hu1.size (.cells #[.int .i64 0, .int .i64 0] 29))
  clear hu1 y0 y1 y2 hy
  go_upto_region 2 with fail
  generalize u1.alloc (.cells #[.int .i64 0, .int .i64 0] 29) = U1 at *
  obtain ⟨y0, y1, y2, _, _, _, hy⟩ := tri_all (own_below Y0.out V1.out)
  go_wp2_with fail
  refine (PS.out.share_nil a b d _).mono ?_
  rintro e u2 ⟨rfl, hu2⟩
  have V2 := Lib.hid (re_next V1.out (hu2.alloc hu2.size (.cells #[.int .i64 0, .int .i64 0] 29)))
  clear hu2 y0 y1 y2 hy
  go_upto_region 3 with fail
  generalize u2.alloc (.cells #[.int .i64 0, .int .i64 0] 29) = U2 at *
  have W3 := Lib.hid (HB0.out.trans (V2.out.mono HB0.out.size))
  obtain ⟨x0, x1, x2, x3, _, _, _, _, hz⟩ := quad_all (own_below X0.out V2.out)
  cases hld : rnkLdB kd l k n L
  · have LD := Lib.hid (rnkLoad_no l k kd A n c L U2 (HV.out.below W3.out) HNB.out LL.out.1 LL.out.2 hld)
    clear hld
    go_wp2_with fail
    refine LD.out.mono ?_
    rintro e w7 ⟨rfl, hb7⟩
    have Q1 := Lib.hid (W3.out.trans (hb7.mono W3.out.size))
    have Q2 := Lib.hid (Q1.out.alloc Q1.out.size (.cells #[.int .i64 0, .int .i64 0, .slice none 0 0] 38))
    clear hb7 LD x0 x1 x2 x3 hz
    go_wp2_with (go_at_call 10; refine (AL.out _).mono ?_; rintro e v7 ⟨rfl, hbv7⟩)
    go_ret
    exact ⟨rfl, Q2.out.trans (hbv7.mono Q2.out.size)⟩
  · have LD := Lib.hid (rnkLoad_yes l k kd A n c L U2 (HV.out.below W3.out) HNB.out LL.out.1 LL.out.2 hld)
    have NL : Hid (¬ 150 < n) := (of_decide_eq_true hld).1
    clear hld
    go_wp2_with fail
    refine LD.out.mono ?_
    rintro e w7 ⟨q, p, g, h, rfl, hd7, hb7⟩
    have hba := (Below.refl w7.heap.size w7).alloc (Nat.le_refl _) (.cells #[.int .i64 k, .int .i64 l, .slice A n c] 38)
    have Z8 := Lib.hid (re_next V2.out (hb7.trans (hba.mono hb7.size)))
    have D8 := Lib.hid (hd7.below hba)
    have Y8 := Lib.hid (tri_nw w7 38 (.int .i64 k) (.int .i64 l) (.slice A n c))
    have PN : ∀ w, (binOp .eql 34 (.pointer (some ⟨q, 0, none⟩)) (.pointer none)).run Tryz.prog w = .ok (.bool false) w := fun _ => by kernel_rfl
    clear hd7 hb7 hba LD x0 x1 x2 x3 hz
    go_upto_region 6 with fail
    generalize w7.alloc (.cells #[.int .i64 k, .int .i64 l, .slice A n c] 38) = W8 at *
    have R8 := Lib.hid (HB0.out.trans (Z8.out.mono HB0.out.size))
    have V8 := Lib.hid (HV.out.below R8.out)
    have O8 := Lib.hid (own_below Y0.out Z8.out)
    have rl := D8.out.v.roll
    have PT := Lib.hid (fun v (hb : Below W8.heap.size W8 v) => PB.out.bet a b v (D8.out.below hb) (by omega) RB.out.1.1 RB.out.1.2 RB.out.2.1.1 RB.out.2.1.2)
    have PP := Lib.hid (fun v (hb : Below W8.heap.size W8 v) => PS.out.share a b d v (D8.out.below hb) (by omega) RB.out.1.1 RB.out.1.2 RB.out.2.1.1 RB.out.2.1.2 RB.out.2.2.1 RB.out.2.2.2)
    have RT := Lib.hid (fun v (hb : Below W8.heap.size W8 v) => rReBetween_any (l := l) k a b A n c L v (V8.out.below hb) rl (by have := NL.out; omega) RB.out.1.1 RB.out.1.2 RB.out.2.1.1 RB.out.2.1.2)
    have RS := Lib.hid (fun v (hb : Below W8.heap.size W8 v) => rReShare_any (l := l) k a b d A n c L v (V8.out.below hb) rl (by have := NL.out; omega) RB.out.1.1 RB.out.1.2 RB.out.2.1.1 RB.out.2.1.2 RB.out.2.2.1 RB.out.2.2.2)
    clear rl
    generalize beL l L a b = x1 at *
    generalize beH l L a b = x2 at *
    generalize beE a b = xe at *
    generalize ssL l L a b d = s1 at *
    generalize ssH l L a b d = s2 at *
    generalize ssE L a b d = se at *
    have c1 : (xe == xe) = true := by simp
    have c2 : (se == se) = true := by simp
    have q1 := both_same x1 x2
    have q2 := both_same s1 s2
    obtain ⟨y0, y1, y2, _, _, _, hy⟩ := tri_all O8.out
    go_wp2_with fail
    refine (PT.out _ (Below.refl _ _)).mono ?_
    rintro e u3 ⟨rfl, hu3⟩
    have E3 := Lib.hid (box2 u3 29 (.int .i64 x1) (.int .i64 x2))
    have F3 := Lib.hid (hu3.alloc hu3.size (.cells #[.int .i64 x1, .int .i64 x2] 29))
    clear hu3 y0 y1 y2 hy PT
    go_upto_region 9 with fail
    generalize u3.alloc (.cells #[.int .i64 x1, .int .i64 x2] 29) = U3 at *
    obtain ⟨y0, y1, y2, _, _, _, hy⟩ := tri_all (own_below O8.out F3.out)
    obtain ⟨t0, t1, t2, _, _, _, ht⟩ := tri_all (own_below Y8.out F3.out)
    go_wp2_with fail
    refine (RT.out _ F3.out).mono ?_
    rintro e u4 ⟨rfl, hu4⟩
    have hv4 := hu4.alloc hu4.size (.cells #[.int .i64 x1, .int .i64 x2] 29)
    have E4 := Lib.hid (box2 u4 29 (.int .i64 x1) (.int .i64 x2))
    have G3 := Lib.hid (own_below E3.out hv4)
    have F4 := Lib.hid (re_next F3.out hv4)
    clear hu4 hv4 y0 y1 y2 hy t0 t1 t2 ht RT E3
    go_upto_region 10 with fail
    generalize u4.alloc (.cells #[.int .i64 x1, .int .i64 x2] 29) = U4 at *
    obtain ⟨y0, y1, y2, _, _, _, hy⟩ := tri_all (own_below O8.out F4.out)
    go_wp2_with fail
    refine (PP.out _ F4.out).mono ?_
    rintro e u5 ⟨rfl, hu5⟩
    have hv5 := hu5.alloc hu5.size (.cells #[.int .i64 s1, .int .i64 s2] 29)
    have E5 := Lib.hid (box2 u5 29 (.int .i64 s1) (.int .i64 s2))
    have H3 := Lib.hid (own_below G3.out hv5)
    have H4 := Lib.hid (own_below E4.out hv5)
    have F5 := Lib.hid (re_next F4.out hv5)
    clear hu5 hv5 y0 y1 y2 hy PP G3 E4
    go_upto_region 11 with fail
    generalize u5.alloc (.cells #[.int .i64 s1, .int .i64 s2] 29) = U5 at *
    obtain ⟨y0, y1, y2, _, _, _, hy⟩ := tri_all (own_below O8.out F5.out)
    obtain ⟨t0, t1, t2, _, _, _, ht⟩ := tri_all (own_below Y8.out F5.out)
    go_wp2_with fail
    refine (RS.out _ F5.out).mono ?_
    rintro e u6 ⟨rfl, hu6⟩
    have hv6 := hu6.alloc hu6.size (.cells #[.int .i64 s1, .int .i64 s2] 29)
    have E6 := Lib.hid (box2 u6 29 (.int .i64 s1) (.int .i64 s2))
    have I3 := Lib.hid (own_below H3.out hv6)
    have I4 := Lib.hid (own_below H4.out hv6)
    have I5 := Lib.hid (own_below E5.out hv6)
    have F6 := Lib.hid (R8.out.trans ((re_next F5.out hv6).mono R8.out.size))
    clear hu6 hv6 y0 y1 y2 hy t0 t1 t2 ht RS H3 H4 E5
    go_upto_region 12 with fail
    generalize u6.alloc (.cells #[.int .i64 s1, .int .i64 s2] 29) = U6 at *
    obtain ⟨i0, i1, _, _, _⟩ := box_cells I3.out
    obtain ⟨j0, j1, _, _, _⟩ := box_cells I4.out
    obtain ⟨k0, k1, _, _, _⟩ := box_cells I5.out
    obtain ⟨n0, n1, _, _, _⟩ := box_cells E6.out
    go_wp2_with (go_at_call 10; refine (AL.out _).mono ?_; rintro e v7 ⟨rfl, hbv7⟩)
    go_ret
    exact ⟨rfl, F6.out.trans (hbv7.mono F6.out.size)⟩
end Go.Proofs.YtmfdpaahklndnaaGreat
