/- The walk of the statement RecastTurns of layer recast, over the project's contracts: for every input it returns true, and nothing that was there before is changed. -/
import Derived.Test.YtachfeclgdgbiaaGreatRcP
import Derived.Test.YtachfeclgdgbiaaGreatOpQ
import Derived.Deep.Cut
import Derived.Deep.DeepCutAuto
namespace Go.Proofs.YtachfeclgdgbiaaGreat
set_option linter.unusedVariables false
set_option maxRecDepth 100000
open Go.RowKit

set_option maxHeartbeats 12800000 in
theorem walk_recastTurnsK (K : RcK) (KT : RcT) (s : SideX) (kind a b c9 : Int) (K0 : -9223372036854775808 ≤ kind) (K1 : kind ≤ 9223372036854775807) (A0 : -9223372036854775808 ≤ a) (A1 : a ≤ 9223372036854775807) (B0 : -9223372036854775808 ≤ b) (B1 : b ≤ 9223372036854775807) (C0 : -9223372036854775808 ≤ c9) (C1 : c9 ≤ 9223372036854775807) (w : World) (hs : SideG w s) :
    Calls Tryz.prog 5 #[.agg #[.int .i64 s.l, .int .i64 s.k, .int .i64 s.kd, .slice s.A s.n s.c], .int .i64 kind, .agg #[.int .i64 a, .int .i64 b, .int .i64 c9]] w fun e w' => e = .returned (.bool true) ∧ Below w.heap.size w w' := by
  obtain ⟨l, k, kd, A, n, c, O⟩ := s
  obtain ⟨_, _, _, hp, hob, _⟩ := hs
  simp only at hp hob ⊢
  have e1 : (w.alloc (.cells #[.int .i64 l, .int .i64 k, .int .i64 kd, .slice A n c] 26)).heap.size = w.heap.size + 1 := by simp
  have HB0 : Hid (Below w.heap.size w ((w.alloc (.cells #[.int .i64 l, .int .i64 k, .int .i64 kd, .slice A n c] 26)).alloc (.cells #[.int .i64 a, .int .i64 b, .int .i64 c9] 47))) := ((Below.refl _ _).alloc (Nat.le_refl _) _).alloc (by rw [e1]; omega) _
  have X0 := Lib.hid ((quad_new w 26 (.int .i64 l) (.int .i64 k) (.int .i64 kd) (.slice A n c)).alloc (.cells #[.int .i64 a, .int .i64 b, .int .i64 c9] 47))
  have Y0 := tri_nw (w.alloc (.cells #[.int .i64 l, .int .i64 k, .int .i64 kd, .slice A n c] 26)) 47 (.int .i64 a) (.int .i64 b) (.int .i64 c9)
  rw [e1] at Y0
  have Y0 := Lib.hid Y0
  have P0 := Lib.hid (hp.below HB0.out)
  have OB := Lib.hid hob
  have KK := Lib.hid K
  have TT := Lib.hid KT
  have PI := Lib.hid (fun w => poIs_any kind l w)
  clear hp hob K KT K0 K1 e1
  go_enter Tryz.func5, Tryz.ntmps5
  go_wp2_with fail
  generalize (w.alloc (.cells #[.int .i64 l, .int .i64 k, .int .i64 kd, .slice A n c] 26)).alloc (.cells #[.int .i64 a, .int .i64 b, .int .i64 c9] 47) = W at *
  refine (TT.out.turn_nil kind _).mono ?_
  rintro e w1 ⟨rfl, hb1⟩
  have B1' := Lib.hid hb1
  obtain ⟨x0, x1, x2, x3, _, _, _, _, hz⟩ := quad_all (own_below X0.out hb1)
  clear hb1
  go_wp2_with fail
  refine (blFew_any l k kd A n c _).mono ?_
  rintro e w2 ⟨bb, rfl, hbn, hb2⟩
  have B2 := Lib.hid (B1'.out.trans (hb2.mono B1'.out.size))
  have FW := Lib.hid hbn
  clear hb2 hbn x0 x1 x2 x3 hz
  obtain ⟨x0, x1, x2, x3, _, _, _, _, hz⟩ := quad_all (own_below X0.out B2.out)
  cases bb
  · go_wp2_with (go_at_call 10; refine (KK.out.alive _).mono ?_; rintro e v7 ⟨rfl, hbv7⟩)
    go_ret
    exact ⟨rfl, HB0.out.trans ((B2.out.trans (hbv7.mono B2.out.size)).mono HB0.out.size)⟩
  · have hf := FW.out rfl
    have HN := Lib.hid hf.1
    have MD := Lib.hid (blMade_own l k kd A n c O w2 (P0.out.below B2.out) OB.out (by omega) hf.2)
    clear hf
    go_wp2_with fail
    refine MD.out.mono ?_
    rintro e w3 ⟨q, p, g, h, A3, m3, c3, rfl, hd, hv, hb3⟩
    generalize dgOf l k O = L at *
    have hba := (Below.refl w3.heap.size w3).alloc (Nat.le_refl _) (.cells #[.int .i64 k, .int .i64 l, .slice A3 m3 c3] 37)
    have B4 := Lib.hid ((B2.out.trans (hb3.mono B2.out.size)).trans (hba.mono (B2.out.trans (hb3.mono B2.out.size)).size))
    have D4 := Lib.hid (hd.below hba)
    have V4 := Lib.hid (own_below hv hba)
    have T4 := Lib.hid (tri_nw w3 37 (.int .i64 k) (.int .i64 l) (.slice A3 m3 c3))
    have LT4 := Lib.hid (fun g hg => Nat.lt_of_lt_of_le (World.ownsRow.lt hv g hg).2 hba.size)
    have ML := Lib.hid (show m3 ≤ 60 by have a := (nodes_cells (ownNd_nodes hv)).1; have b := hd.po.len; have c := HN.out; omega)
    have LL := Lib.hid (show L.length ≤ 60 by have b := hd.po.len; have c := HN.out; omega)
    have N4 := Lib.hid (show n ≤ 400 by have c := HN.out; omega)
    have PN : ∀ w, (binOp .eql 27 (.pointer (some ⟨q, 0, none⟩)) (.pointer none)).run Tryz.prog w = .ok (.bool false) w := fun _ => by kernel_rfl
    clear hd hv hb3 hba MD x0 x1 x2 x3 hz
    cases hk : isP kind l
    · have LW := Lib.hid (TT.out.turn_no kind _ D4.out N4.out hk)
      rw [hk] at PI
      clear hk
      go_wp2_with fail
      generalize w3.alloc (.cells #[.int .i64 k, .int .i64 l, .slice A3 m3 c3] 37) = W4 at *
      refine LW.out.mono ?_
      rintro e w5 ⟨rfl, hb5⟩
      have R5 := Lib.hid hb5
      obtain ⟨x0, x1, x2, x3, _, _, _, _, hz⟩ := quad_all (own_below X0.out (B4.out.trans (hb5.mono B4.out.size)))
      clear hb5 LW
      go_wp2_with (first
        | (go_at_call 18; refine (PI.out _).mono ?_; rintro e v6 ⟨rfl, rfl⟩)
        | (go_at_call 10; refine (KK.out.alive _).mono ?_; rintro e v7 ⟨rfl, hbv7⟩))
      go_ret
      have z2 := R5.out.trans (hbv7.mono R5.out.size)
      have z3 := B4.out.trans (z2.mono B4.out.size)
      exact ⟨rfl, HB0.out.trans (z3.mono HB0.out.size)⟩
    · have LW := Lib.hid (TT.out.turn kind _ D4.out N4.out hk)
      rw [hk] at PI
      clear hk
      go_wp2_with fail
      have Z4 : Hid (w3.heap.size < (w3.alloc (.cells #[.int .i64 k, .int .i64 l, .slice A3 m3 c3] 37)).heap.size) := by show _ < _; simp
      generalize w3.alloc (.cells #[.int .i64 k, .int .i64 l, .slice A3 m3 c3] 37) = W4 at *
      refine LW.out.mono ?_
      rintro e w5 ⟨hb5, q5, p5, g5, h5, rfl, hd5⟩
      have R5 := Lib.hid hb5
      have D5 := Lib.hid hd5
      obtain ⟨x0, x1, x2, x3, _, _, _, _, hz⟩ := quad_all (own_below X0.out (B4.out.trans (hb5.mono B4.out.size)))
      obtain ⟨t0, t1, t2, _, _, _, ht⟩ := tri_all (own_below T4.out hb5)
      clear hb5 hd5 LW
      go_wp2_with (go_at_call 18; refine (PI.out _).mono ?_; rintro e v6 ⟨rfl, rfl⟩)
      refine (blLike_any A3 m3 c3 _ D5.out (by have := LL.out; omega) ((ownNd_nodes V4.out).below R5.out)).mono ?_
      rintro e w6 ⟨rfl, hb6⟩
      have Q6 := Lib.hid hb6
      have SM := Lib.hid (dgSame_any w6 (D5.out.below hb6) (D4.out.below (R5.out.trans (hb6.mono R5.out.size))) (by have := LL.out; omega) (by have := N4.out; omega))
      rw [same_self] at SM
      clear hb6 x0 x1 x2 x3 hz t0 t1 t2 ht
      go_wp2_with fail
      refine SM.out.mono ?_
      rintro e w7 ⟨rfl, hb7⟩
      have Q7 := Lib.hid (Q6.out.trans (hb7.mono Q6.out.size))
      have R7 := Lib.hid (R5.out.trans (Q7.out.mono R5.out.size))
      obtain ⟨t0, t1, t2, _, _, _, ht⟩ := tri_all (own_below T4.out R7.out)
      obtain ⟨y0, y1, y2, _, _, _, hy⟩ := tri_all (own_below Y0.out (B4.out.trans (R7.out.mono B4.out.size)))
      have DO := Lib.hid (rDgDo_any l k a b c9 A3 m3 c3 L w7 (own_below V4.out R7.out) D4.out.v (by have := ML.out; omega) B0 B1 C0 C1)
      have LD := Lib.hid (fun v (hb : Below w5.heap.size w5 v) => dgLdo_any a b c9 v (D5.out.below hb) (by have := LL.out; omega) B0 B1 C0 C1)
      generalize dgDo l k L a b c9 = M at *
      generalize dgTell l k L a b c9 = tl at *
      clear hb7 SM
      go_wp2_with fail
      refine DO.out.mono ?_
      rintro e w8 ⟨A8, m8, c8, rfl, ho8, hb8, hnb⟩
      have hba := (Below.refl w8.heap.size w8).alloc (Nat.le_refl _) (.cells #[.int .i64 k, .int .i64 l, .slice A8 m8 c8] 37)
      have Q9 := Lib.hid (Q7.out.trans ((hb8.trans (hba.mono hb8.size)).mono Q7.out.size))
      have R9 := Lib.hid (R5.out.trans (Q9.out.mono R5.out.size))
      have O9 := Lib.hid (own_below ho8 hba)
      have T9 := Lib.hid (tri_nw w8 37 (.int .i64 k) (.int .i64 l) (.slice A8 m8 c8))
      have Z7 := Lib.hid Q7.out.size
      have NB := Lib.hid hnb
      have LT8 : Hid (w7.heap.size ≤ w8.heap.size) := hb8.size
      clear hb8 hba ho8 hnb DO t0 t1 t2 ht y0 y1 y2 hy
      obtain ⟨y0, y1, y2, _, _, _, hy⟩ := tri_all (own_below Y0.out (B4.out.trans (R9.out.mono B4.out.size)))
      go_upto_region 15 with fail
      generalize w8.alloc (.cells #[.int .i64 k, .int .i64 l, .slice A8 m8 c8] 37) = W9 at *
      go_wp2_with fail
      refine (LD.out _ Q9.out).mono ?_
      rintro e w10 ⟨rfl, p', g', h', hd10, hk10, _⟩
      have D10 := Lib.hid hd10
      have K10 := Lib.hid hk10
      have S9 := Lib.hid R9.out.size
      have B10 : Hid (Below W4.heap.size W9 w10) := K10.out.below (fun i _ f => (D5.out.lt i f).1) S9.out
      have T10 := Lib.hid (own_kp T9.out K10.out fun i e f => by
        simp only [Value.ownBlock, Option.some.injEq] at e
        have := (D5.out.lt i f).2
        have := Z7.out
        have := LT8.out
        omega)
      have O10 := Lib.hid (own_kp O9.out K10.out fun i e f => by
        have lt := D5.out.lt i f
        rcases NB.out with z | z
        · rw [z] at e
          have := LT4.out i e
          omega
        · have := z i e
          have := Z7.out
          omega)
      have RA := Lib.hid (R9.out.trans B10.out)
      clear hd10 hk10 LD y0 y1 y2 hy
      obtain ⟨t0, t1, t2, _, _, _, ht⟩ := tri_all T10.out
      go_wp2_with fail
      refine (blLike_any A8 m8 c8 _ D10.out (by have := LL.out; omega) (ownNd_nodes O10.out)).mono ?_
      rintro e w11 ⟨rfl, hb11⟩
      have R11 := Lib.hid (RA.out.trans (hb11.mono RA.out.size))
      clear hb11 t0 t1 t2 ht
      obtain ⟨x0, x1, x2, x3, _, _, _, _, hz⟩ := quad_all (own_below X0.out (B4.out.trans (R11.out.mono B4.out.size)))
      obtain ⟨t0, t1, t2, _, _, _, ht⟩ := tri_all (own_below T4.out R11.out)
      go_wp2_with fail
      refine (blLike_any A3 m3 c3 _ (D4.out.below R11.out) (by have := N4.out; omega) ((ownNd_nodes V4.out).below R11.out)).mono ?_
      rintro e w12 ⟨rfl, hb12⟩
      have R12 := Lib.hid (R11.out.trans (hb12.mono R11.out.size))
      clear hb12 x0 x1 x2 x3 hz t0 t1 t2 ht
      go_wp2_with (go_at_call 10; refine (KK.out.alive _).mono ?_; rintro e v7 ⟨rfl, hbv7⟩)
      go_ret
      have z2 := R12.out.trans (hbv7.mono R12.out.size)
      have z3 := B4.out.trans (z2.mono B4.out.size)
      exact ⟨rfl, HB0.out.trans (z3.mono HB0.out.size)⟩

end Go.Proofs.YtachfeclgdgbiaaGreat
