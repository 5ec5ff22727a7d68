/- The walk of the statement RecastGrows of layer recast, over the project's contracts: for every input it returns true, and nothing that was there before is changed. -/
import Derived.Test.YtachfeclgdgbiaaGreatRcP
import Derived.Test.YtachfeclgdgbiaaGreatRcR
import Derived.Test.YtachfeclgdgbiaaGreatOpQ
import Derived.Deep.Cut
import Derived.Deep.DeepCutAuto
namespace Go.Proofs.YtachfeclgdgbiaaGreat
set_option linter.unusedVariables false
set_option maxRecDepth 100000
open Go.RowKit

set_option maxHeartbeats 12800000 in
theorem walk_recastGrowsK (K : RcK) (s : SideX) (a : Int) (K0 : -9223372036854775808 ≤ a) (K1 : a ≤ 9223372036854775807) (w : World) (hs : SideG w s) :
    Calls Tryz.prog 3 #[.agg #[.int .i64 s.l, .int .i64 s.k, .int .i64 s.kd, .slice s.A s.n s.c], .int .i64 a] w fun e w' => e = .returned (.bool true) ∧ Below w.heap.size w w' := by
  obtain ⟨l, k, kd, A, n, c, O⟩ := s
  obtain ⟨_, _, _, hp, hob, _⟩ := hs
  simp only at hp hob ⊢
  have HB0 : Hid (Below w.heap.size w (w.alloc (.cells #[.int .i64 l, .int .i64 k, .int .i64 kd, .slice A n c] 26))) := (Below.refl _ _).alloc (Nat.le_refl _) _
  have X0 := Lib.hid (quad_new w 26 (.int .i64 l) (.int .i64 k) (.int .i64 kd) (.slice A n c))
  have P0 := Lib.hid (hp.below HB0.out)
  have OB := Lib.hid hob
  have KK := Lib.hid K
  have BD := Lib.hid (And.intro K0 K1)
  clear hp hob K K0 K1
  go_enter Tryz.func3, Tryz.ntmps3
  go_wp2_with fail
  generalize w.alloc (.cells #[.int .i64 l, .int .i64 k, .int .i64 kd, .slice A n c] 26) = W at *
  refine (KK.out.grow_nil a _).mono ?_
  rintro e w1 ⟨rfl, hb1⟩
  have B1 := Lib.hid hb1
  obtain ⟨x0, x1, x2, x3, _, _, _, _, hz⟩ := quad_all (own_below X0.out hb1)
  clear hb1
  go_wp2_with fail
  refine (blFew_any l k kd A n c _).mono ?_
  rintro e w2 ⟨b, rfl, hbn, hb2⟩
  have B2 := Lib.hid (B1.out.trans (hb2.mono B1.out.size))
  have FW := Lib.hid hbn
  clear hb2 hbn x0 x1 x2 x3 hz
  obtain ⟨x0, x1, x2, x3, _, _, _, _, hz⟩ := quad_all (own_below X0.out B2.out)
  cases b
  · go_wp2_with (go_at_call 10; refine (KK.out.alive _).mono ?_; rintro e v7 ⟨rfl, hbv7⟩)
    go_ret
    exact ⟨rfl, HB0.out.trans ((B2.out.trans (hbv7.mono B2.out.size)).mono HB0.out.size)⟩
  · have hf := FW.out rfl
    have HN := Lib.hid hf.1
    have MD := Lib.hid (blMade_any l k kd A n c O w2 (P0.out.below B2.out) OB.out (by omega) hf.2)
    clear hf
    go_wp2_with fail
    refine MD.out.mono ?_
    rintro e w3 ⟨q, p, g, h, A3, m3, c3, rfl, hd, hv, hb3⟩
    generalize dgOf l k O = L at *
    have hba := (Below.refl w3.heap.size w3).alloc (Nat.le_refl _) (.cells #[.int .i64 k, .int .i64 l, .slice A3 m3 c3] 37)
    have B4 := Lib.hid ((B2.out.trans (hb3.mono B2.out.size)).trans (hba.mono (B2.out.trans (hb3.mono B2.out.size)).size))
    have D4 := Lib.hid (hd.below hba)
    have V4 := Lib.hid (hv.below hba)
    have T4 := Lib.hid (tri_nw w3 37 (.int .i64 k) (.int .i64 l) (.slice A3 m3 c3))
    have ML := Lib.hid (show m3 ≤ 400 by have a := (nodes_cells hv).1; have b := hd.po.len; have c := HN.out; omega)
    have N4 := Lib.hid (show n ≤ 400 by have c := HN.out; omega)
    have PN : ∀ w, (binOp .eql 27 (.pointer (some ⟨q, 0, none⟩)) (.pointer none)).run Tryz.prog w = .ok (.bool false) w := fun _ => by kernel_rfl
    clear hd hv hb3 hba MD x0 x1 x2 x3 hz
    by_cases hk : l ≤ a ∧ isP kd a = true
    · have LW := Lib.hid (KK.out.grow a _ D4.out N4.out hk.1 hk.2)
      have RW := Lib.hid (fun v (hb : Below _ _ v) => rRcGrow_any kd a l k A3 m3 c3 L v (V4.out.below hb) D4.out.v ML.out hk.1 hk.2)
      have PL := Lib.hid (show (growW (a - l) L).length ≤ 400 by have a := (dgV_grow (b := a - l) D4.out.v (by omega) (by have := isP_le hk.2; omega)).2.1; have b := D4.out.po.len; have c := HN.out; omega)
      clear hk
      generalize growW (a - l) L = M at *
      go_wp2_with fail
      generalize w3.alloc (.cells #[.int .i64 k, .int .i64 l, .slice A3 m3 c3] 37) = W4 at *
      refine LW.out.mono ?_
      rintro e w5 ⟨hb5, q5, p5, g5, h5, rfl, hd5⟩
      have R5 := Lib.hid hb5
      have D5 := Lib.hid hd5
      obtain ⟨t0, t1, t2, _, _, _, ht⟩ := tri_all (own_below T4.out hb5)
      obtain ⟨x0, x1, x2, x3, _, _, _, _, hz⟩ := quad_all (own_below X0.out (B4.out.trans (hb5.mono B4.out.size)))
      clear hb5 hd5 LW
      go_wp2_with fail
      refine (RW.out _ R5.out).mono ?_
      rintro e w6 ⟨A6, m6, c6, rfl, hv6, hb6⟩
      have hba := (Below.refl w6.heap.size w6).alloc (Nat.le_refl _) (.cells #[.int .i64 k, .int .i64 a, .slice A6 m6 c6] 37)
      have R6 := Lib.hid (hb6.trans (hba.mono hb6.size))
      have V6 := Lib.hid (hv6.below hba)
      have T6 := Lib.hid (tri_nw w6 37 (.int .i64 k) (.int .i64 a) (.slice A6 m6 c6))
      have R7 := Lib.hid (R5.out.trans (R6.out.mono R5.out.size))
      have D6 := Lib.hid (D5.out.below R6.out)
      clear hba hv6 hb6 RW t0 t1 t2 ht x0 x1 x2 x3 hz
      obtain ⟨x0, x1, x2, x3, _, _, _, _, hz⟩ := quad_all (own_below X0.out (B4.out.trans (R7.out.mono B4.out.size)))
      obtain ⟨t0, t1, t2, _, _, _, ht⟩ := tri_all T6.out
      go_upto_region 11 with fail
      generalize w6.alloc (.cells #[.int .i64 k, .int .i64 a, .slice A6 m6 c6] 37) = W6 at *
      go_wp2_with fail
      refine (rcSame_yes A6 m6 c6 _ D6.out (by have := PL.out; omega) V6.out).mono ?_
      rintro e w8 ⟨rfl, hb8⟩
      have R8 := Lib.hid (R7.out.trans (hb8.mono R7.out.size))
      clear hb8 x0 x1 x2 x3 hz t0 t1 t2 ht
      obtain ⟨x0, x1, x2, x3, _, _, _, _, hz⟩ := quad_all (own_below X0.out (B4.out.trans (R8.out.mono B4.out.size)))
      obtain ⟨t0, t1, t2, _, _, _, ht⟩ := tri_all (own_below T4.out R8.out)
      go_wp2_with fail
      refine (blLike_any A3 m3 c3 _ (D4.out.below R8.out) (by have := N4.out; omega) (V4.out.below R8.out)).mono ?_
      rintro e w9 ⟨rfl, hb9⟩
      have R9 := Lib.hid (R8.out.trans (hb9.mono R8.out.size))
      clear hb9 x0 x1 x2 x3 hz t0 t1 t2 ht
      go_wp2_with (go_at_call 10; refine (KK.out.alive _).mono ?_; rintro e v7 ⟨rfl, hbv7⟩)
      go_ret
      have z2 := R9.out.trans (hbv7.mono R9.out.size)
      have z3 := B4.out.trans (z2.mono B4.out.size)
      exact ⟨rfl, HB0.out.trans (z3.mono HB0.out.size)⟩
    · have LW := Lib.hid (KK.out.grow_no a _ D4.out N4.out BD.out.1 BD.out.2 hk)
      have RW := Lib.hid (fun v => rRcGrow_no kd a l k (.slice A3 m3 c3) v hk)
      clear hk
      go_wp2_with fail
      generalize w3.alloc (.cells #[.int .i64 k, .int .i64 l, .slice A3 m3 c3] 37) = W4 at *
      refine LW.out.mono ?_
      rintro e w5 ⟨rfl, hb5⟩
      have R5 := Lib.hid hb5
      obtain ⟨t0, t1, t2, _, _, _, ht⟩ := tri_all (own_below T4.out hb5)
      obtain ⟨x0, x1, x2, x3, _, _, _, _, hz⟩ := quad_all (own_below X0.out (B4.out.trans (hb5.mono B4.out.size)))
      clear hb5 LW
      go_wp2_with fail
      refine (RW.out _).mono ?_
      rintro e w6 ⟨rfl, hb6⟩
      have hba := (Below.refl w6.heap.size w6).alloc (Nat.le_refl _) (.cells #[.int .i64 0, .int .i64 0, .slice none 0 0] 37)
      have R6 := Lib.hid (hb6.trans (hba.mono hb6.size))
      have R7 := Lib.hid (R5.out.trans (R6.out.mono R5.out.size))
      have T6 := Lib.hid (tri_nw w6 37 (.int .i64 0) (.int .i64 0) (.slice none 0 0))
      clear hba hb6 RW t0 t1 t2 ht x0 x1 x2 x3 hz
      obtain ⟨x0, x1, x2, x3, _, _, _, _, hz⟩ := quad_all (own_below X0.out (B4.out.trans (R7.out.mono B4.out.size)))
      obtain ⟨t0, t1, t2, _, _, _, ht⟩ := tri_all T6.out
      go_upto_region 11 with fail
      generalize w6.alloc (.cells #[.int .i64 0, .int .i64 0, .slice none 0 0] 37) = W6 at *
      go_wp2_with fail
      refine (rcSame_no 2 kd 0 0 (.slice none 0 0) _ (by omega)).mono ?_
      rintro e w8 ⟨rfl, hb8⟩
      have R8 := Lib.hid (R7.out.trans (hb8.mono R7.out.size))
      clear hb8 x0 x1 x2 x3 hz t0 t1 t2 ht
      obtain ⟨x0, x1, x2, x3, _, _, _, _, hz⟩ := quad_all (own_below X0.out (B4.out.trans (R8.out.mono B4.out.size)))
      obtain ⟨t0, t1, t2, _, _, _, ht⟩ := tri_all (own_below T4.out R8.out)
      go_wp2_with fail
      refine (blLike_any A3 m3 c3 _ (D4.out.below R8.out) (by have := N4.out; omega) (V4.out.below R8.out)).mono ?_
      rintro e w9 ⟨rfl, hb9⟩
      have R9 := Lib.hid (R8.out.trans (hb9.mono R8.out.size))
      clear hb9 x0 x1 x2 x3 hz t0 t1 t2 ht
      go_wp2_with (go_at_call 10; refine (KK.out.alive _).mono ?_; rintro e v7 ⟨rfl, hbv7⟩)
      go_ret
      have z2 := R9.out.trans (hbv7.mono R9.out.size)
      have z3 := B4.out.trans (z2.mono B4.out.size)
      exact ⟨rfl, HB0.out.trans (z3.mono HB0.out.size)⟩

end Go.Proofs.YtachfeclgdgbiaaGreat
