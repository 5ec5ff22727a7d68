/- The walk of the statement BlendNobody of layer blend: for every input it returns true, and nothing that was there before is changed. -/
import Derived.Test.YtmcbfoimgefaoaaGreatBlAlive
import Derived.Test.YtmcbfoimgefaoaaGreatBl3
import Derived.Test.YtmcbfoimgefaoaaGreatBlLaw2
import Derived.Test.YtmcbfoimgefaoaaGreatDgLaw9
import Derived.Test.YtmcbfoimgefaoaaGreatOpen10
namespace Go.Proofs.YtmcbfoimgefaoaaGreat
set_option linter.unusedVariables false
set_option maxRecDepth 100000
open Go.RowKit

set_option maxHeartbeats 12800000 in
theorem walk_blendNobody (s : SideX) (w : World) (hs : SideG w s) :
    Calls Tryz.prog 7 #[.agg #[.int .i64 s.l, .int .i64 s.k, .int .i64 s.kd, .slice s.A s.n s.c]] w fun e w' => e = .returned (.bool true) ∧ Below w.heap.size w w' := by
  obtain ⟨l, k, kd, A, n, c, O⟩ := s
  obtain ⟨⟨L0, L1⟩, _, _, hp, hob, _⟩ := hs
  simp only at hp hob L0 L1 ⊢
  have HB0 : Hid (Below w.heap.size w (w.alloc (.cells #[.int .i64 l, .int .i64 k, .int .i64 kd, .slice A n c] 26))) := (Below.refl _ _).alloc (Nat.le_refl _) _
  have X0 := Lib.hid (quad_new w 26 (.int .i64 l) (.int .i64 k) (.int .i64 kd) (.slice A n c))
  have P0 := Lib.hid (hp.below HB0.out)
  have OB := Lib.hid hob
  obtain ⟨x0, x1, x2, x3, _, _, _, _, hz⟩ := quad_all X0.out
  clear hp hob
  go_enter Tryz.func7, Tryz.ntmps7
  go_wp2_with fail
  generalize w.alloc (.cells #[.int .i64 l, .int .i64 k, .int .i64 kd, .slice A n c] 26) = W at *
  refine (blSome_any l k kd A n c _).mono ?_
  rintro e w1 ⟨b, rfl, hbn, hb1⟩
  have B1 := Lib.hid hb1
  have FW := Lib.hid hbn
  clear hb1 hbn x0 x1 x2 x3 hz
  obtain ⟨x0, x1, x2, x3, _, _, _, _, hz⟩ := quad_all (own_below X0.out B1.out)
  cases b
  · go_wp2_with (go_at_call 10; refine (blAlive_any _).mono ?_; rintro e v7 ⟨rfl, hbv7⟩)
    go_ret
    exact ⟨rfl, HB0.out.trans ((B1.out.trans (hbv7.mono B1.out.size)).mono HB0.out.size)⟩
  · have HN := Lib.hid (FW.out rfl)
    by_cases hc : kIs k = true ∧ isP kd l = true
    · have MD := Lib.hid (dgMade_any l k kd A n c O w1 (P0.out.below B1.out) OB.out HN.out hc)
      clear hc L0 L1
      go_wp2_with fail
      refine MD.out.mono ?_
      rintro e w2 ⟨q, p, g, h, T, A2, m2, c2, rfl, hd, hv, hlen, hs, hb2⟩
      have B2 := Lib.hid (B1.out.trans (hb2.mono B1.out.size))
      have B3 := Lib.hid (B2.out.alloc B2.out.size (.cells #[.int .i64 l, .slice A2 m2 c2] 55))
      clear hd hv hlen hs hb2 MD x0 x1 x2 x3 hz
      go_wp2_with fail
      generalize w2.alloc (.cells #[.int .i64 l, .slice A2 m2 c2] 55) = W3 at *
      refine (blMerge_nil2 q _).mono ?_
      rintro e w4 ⟨rfl, hb4⟩
      have B4 := Lib.hid (B3.out.trans (hb4.mono B3.out.size))
      clear hb4
      go_wp2_with fail
      refine (blMerge_nil1 _ _).mono ?_
      rintro e w5 ⟨rfl, hb5⟩
      have B5 := Lib.hid (B4.out.trans (hb5.mono B4.out.size))
      clear hb5
      go_wp2_with fail
      refine (blAll_none 0 _).mono ?_
      rintro e w6 ⟨rfl, hb6⟩
      have B6 := Lib.hid (B5.out.trans (hb6.mono B5.out.size))
      have B7 := Lib.hid (B6.out.alloc B6.out.size (.cells #[.pointer none] 27))
      have NO := Lib.hid (one_all (box1 w6 27 (.pointer none)))
      clear hb6
      go_wp2_with fail
      refine (blAll_nilone w6.heap.size 0 1 _ NO.out.1 NO.out.2.2.2).mono ?_
      rintro e w8 ⟨rfl, hb8⟩
      have B8 := Lib.hid (B7.out.trans (hb8.mono B7.out.size))
      clear hb8
      go_wp2_with (go_at_call 10; refine (blAlive_any _).mono ?_; rintro e v7 ⟨rfl, hbv7⟩)
      go_ret
      exact ⟨rfl, HB0.out.trans ((B8.out.trans (hbv7.mono B8.out.size)).mono HB0.out.size)⟩
    · have MD := Lib.hid (dgMade_no l k kd A n c w1 hc L0 L1)
      clear hc L0 L1
      go_wp2_with fail
      refine MD.out.mono ?_
      rintro e w2 ⟨rfl, hb2⟩
      have B2 := Lib.hid (B1.out.trans (hb2.mono B1.out.size))
      have B3 := Lib.hid (B2.out.alloc B2.out.size (.cells #[.int .i64 0, .slice none 0 0] 55))
      clear hb2 MD x0 x1 x2 x3 hz
      go_wp2_with fail
      generalize w2.alloc (.cells #[.int .i64 0, .slice none 0 0] 55) = W3 at *
      refine (blMerge_nil1 _ _).mono ?_
      rintro e w4 ⟨rfl, hb4⟩
      have B4 := Lib.hid (B3.out.trans (hb4.mono B3.out.size))
      clear hb4
      go_wp2_with fail
      refine (blMerge_nil1 _ _).mono ?_
      rintro e w5 ⟨rfl, hb5⟩
      have B5 := Lib.hid (B4.out.trans (hb5.mono B4.out.size))
      clear hb5
      go_wp2_with fail
      refine (blAll_none 0 _).mono ?_
      rintro e w6 ⟨rfl, hb6⟩
      have B6 := Lib.hid (B5.out.trans (hb6.mono B5.out.size))
      have B7 := Lib.hid (B6.out.alloc B6.out.size (.cells #[.pointer none] 27))
      have NO := Lib.hid (one_all (box1 w6 27 (.pointer none)))
      clear hb6
      go_wp2_with fail
      refine (blAll_nilone w6.heap.size 0 1 _ NO.out.1 NO.out.2.2.2).mono ?_
      rintro e w8 ⟨rfl, hb8⟩
      have B8 := Lib.hid (B7.out.trans (hb8.mono B7.out.size))
      clear hb8
      go_wp2_with (go_at_call 10; refine (blAlive_any _).mono ?_; rintro e v7 ⟨rfl, hbv7⟩)
      go_ret
      exact ⟨rfl, HB0.out.trans ((B8.out.trans (hbv7.mono B8.out.size)).mono HB0.out.size)⟩

end Go.Proofs.YtmcbfoimgefaoaaGreat
