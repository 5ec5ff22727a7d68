/- The walk of the statement RankRises of layer rank, over the project's contracts: for every input it returns true, and nothing that was there before is changed. -/
import Derived.Test.YtfmgcabgbnfjlaaRnkLaw
import Derived.Deep.Cut
namespace Go.Proofs.Ytfmgcabgbnfjlaa
set_option linter.unusedVariables false
set_option maxRecDepth 100000
open Go.RowKit

theorem rnk_next {W a b : World} (h : Below W.heap.size W a) (hb : Below a.heap.size a b) : Below W.heap.size W b := h.trans (hb.mono h.size)
set_option maxHeartbeats 12800000 in
theorem walk_rankRisesK (K : RnkLH) (l k kd : Int) (A : Option Addr) (n c : Nat) (L : List Nd) (a b : Int) (L0 : -9223372036854775808 ≤ l) (L1 : l ≤ 9223372036854775807) (K0 : -9223372036854775808 ≤ k) (K1 : k ≤ 9223372036854775807) (D0 : -9223372036854775808 ≤ kd) (D1 : kd ≤ 9223372036854775807) (NB : NBds L) (m1 : n ≤ 9223372036854775807)
    (A0 : -9223372036854775808 ≤ a) (A1 : a ≤ 9223372036854775807) (B0 : -9223372036854775808 ≤ b) (B1 : b ≤ 9223372036854775807) (w : World) (hv : NodesAt w (.slice A n c) L) :
    Calls Try.prog 4 #[.agg #[.int .i64 l, .int .i64 k, .int .i64 kd, .slice A n c], .int .i64 a, .int .i64 b] w fun e w' => e = .returned (.bool true) ∧ Below w.heap.size w w' := by
  have HB0 : Hid (Below w.heap.size w (w.alloc (.cells #[.int .i64 l, .int .i64 k, .int .i64 kd, .slice A n c] 26))) := (Below.refl _ _).alloc (Nat.le_refl _) _
  have X0 := Lib.hid (quad_new w 26 (.int .i64 l) (.int .i64 k) (.int .i64 kd) (.slice A n c))
  obtain ⟨x0, x1, x2, x3, _, _, _, _, hz⟩ := quad_all X0.out
  have KK := Lib.hid K
  clear K K0 K1 D0 D1 m1
  cases hld : rnkLdB kd l k n L
  · have LD := Lib.hid (rnkLoad_no l k kd A n c L _ (hv.below HB0.out) NB L0 L1 hld)
    clear hld hv NB
    go_enter Try.func4, Try.ntmps4
    go_wp2_with fail
    generalize w.alloc (.cells #[.int .i64 l, .int .i64 k, .int .i64 kd, .slice A n c] 26) = W at *
    refine LD.out.mono ?_
    rintro e w1 ⟨rfl, hb1⟩
    have Q1 := Lib.hid (HB0.out.trans (hb1.mono HB0.out.size))
    have Q2 := Lib.hid (Q1.out.alloc Q1.out.size (.cells #[.int .i64 0, .int .i64 0, .slice none 0 0] 33))
    clear hb1 LD x0 x1 x2 x3 hz
    go_wp2_with (go_at_call 9; refine (rnkAlive_any KK.out _).mono ?_; rintro e v7 ⟨rfl, hbv7⟩)
    go_ret
    exact ⟨rfl, Q2.out.trans (hbv7.mono Q2.out.size)⟩
  · have LD := Lib.hid (rnkLoad_yes l k kd A n c L _ (hv.below HB0.out) NB L0 L1 hld)
    have VV := Lib.hid (dgLdE_zero' (of_decide_eq_true hld).2.2)
    clear hld hv NB
    go_enter Try.func4, Try.ntmps4
    go_wp2_with fail
    generalize w.alloc (.cells #[.int .i64 l, .int .i64 k, .int .i64 kd, .slice A n c] 26) = W at *
    refine LD.out.mono ?_
    rintro e w1 ⟨q, p, g, h, rfl, hd, hb1⟩
    have hba := (Below.refl w1.heap.size w1).alloc (Nat.le_refl _) (.cells #[.int .i64 k, .int .i64 l, .slice A n c] 33)
    have Q1 := Lib.hid (hb1.trans (hba.mono hb1.size))
    have D1 := Lib.hid (hd.below hba)
    have PN : ∀ w, (binOp .eql 29 (.pointer (some ⟨q, 0, none⟩)) (.pointer none)).run Try.prog w = .ok (.bool false) w := fun _ => by kernel_rfl
    obtain ⟨x0, x1, x2, x3, _, _, _, _, hz⟩ := quad_all (own_below X0.out Q1.out)
    clear hba hd hb1 LD
    go_upto_region 5 with fail
    generalize w1.alloc (.cells #[.int .i64 k, .int .i64 l, .slice A n c] 33) = W1 at *
    have u := D1.out.po.uni
    have roll := D1.out.v.roll
    have b1 : (2 : Int) ^ l.toNat ≤ 281474976710656 := two_le l.toNat 48 (by omega)
    have b0 : (0 : Int) < 2 ^ l.toNat := two_pos _
    have hab : min a b ≤ max a b := by omega
    have ma0 : -9223372036854775808 ≤ min a b := by omega
    have ma1 : min a b ≤ 9223372036854775807 := by omega
    have mb0 : -9223372036854775808 ≤ max a b := by omega
    have mb1 : max a b ≤ 9223372036854775807 := by omega
    clear A0 A1 B0 B1
    generalize min a b = a2 at *
    generalize max a b = b2 at *
    have lm := low_mono roll hab
    have hm := high_mono roll hab
    have lh := low_high roll a2
    have rla := fun z => rank_last roll (a := a2) z
    have rfi := fun z => rank_first roll (a := a2) z
    have LA := Lib.hid (fun v (hb : Below W1.heap.size W1 v) => KK.out.low a2 v (D1.out.below hb) (by omega) ma0 ma1)
    have LB := Lib.hid (fun v (hb : Below W1.heap.size W1 v) => KK.out.low b2 v (D1.out.below hb) (by omega) mb0 mb1)
    have HA := Lib.hid (fun v (hb : Below W1.heap.size W1 v) => KK.out.high a2 v (D1.out.below hb) (by omega) ma0 ma1)
    have HBb := Lib.hid (fun v (hb : Below W1.heap.size W1 v) => KK.out.high b2 v (D1.out.below hb) (by omega) mb0 mb1)
    have NN := Lib.hid (fun v (hb : Below W1.heap.size W1 v) => dgN_any v (D1.out.below hb).box (D1.out.below hb).po (by omega))
    clear roll ma0 ma1 mb0 mb1 hab
    generalize lowR l L a2 = la at *
    generalize lowR l L b2 = lb at *
    generalize highR l L a2 = ha at *
    generalize highR l L b2 = hb2 at *
    generalize sumC L = sN at *
    have g1 : decide (lb < la) = false := decide_eq_false (by omega)
    have g2 : decide (hb2 < ha) = false := decide_eq_false (by omega)
    have g3 : decide (ha < la) = false := decide_eq_false (by omega)
    clear lm hm lh
    have R8 := Lib.hid (Below.refl W1.heap.size W1)
    go_upto_region 6 with fail
    clear x0 x1 x2 x3 hz
    generalize (2 : Int) ^ l.toNat = P at *
    rcases (show P - 1 ≤ a2 ∨ (a2 < P - 1 ∧ 0 ≤ a2) ∨ (a2 < P - 1 ∧ a2 < 0) by omega) with c | ⟨c, c2⟩ | ⟨c, c2⟩
    case' inl =>
      obtain ⟨rfl, rfl⟩ := rla c
      have g4 : decide (P - 1 ≤ a2) = true := decide_eq_true c
      have g5 : decide (0 ≤ a2) = true := decide_eq_true (by omega)
      have g6 : (ha != ha) = false := by simp
      have g7 : decide (ha < ha) = false := by simp
      clear c rla rfi b0 b1 u
    case' inr.inl =>
      have g4 : decide (P - 1 ≤ a2) = false := decide_eq_false (by omega)
      have g5 : decide (0 ≤ a2) = true := decide_eq_true c2
      clear c c2 rla rfi b0 b1 u
    case' inr.inr =>
      obtain ⟨rfl, rfl⟩ := rfi c2
      have g4 : decide (P - 1 ≤ a2) = false := decide_eq_false (by omega)
      have g5 : decide (0 ≤ a2) = false := decide_eq_false (by omega)
      clear c c2 rla rfi b0 b1 u
    all_goals
      go_wp2_with (first
        | (go_at_call 5; (with_reducible refine (LA.out _ (by first | assumption | exact Below.refl _ _)).mono ?_); rintro e v ⟨rfl, hbv⟩; have hbx := rnk_next (W := W1) (by first | assumption | exact Below.refl _ _) hbv)
        | (go_at_call 5; (with_reducible refine (LB.out _ (by first | assumption | exact Below.refl _ _)).mono ?_); rintro e v ⟨rfl, hbv⟩; have hbx := rnk_next (W := W1) (by first | assumption | exact Below.refl _ _) hbv)
        | (go_at_call 6; (with_reducible refine (HA.out _ (by first | assumption | exact Below.refl _ _)).mono ?_); rintro e v ⟨rfl, hbv⟩; have hbx := rnk_next (W := W1) (by first | assumption | exact Below.refl _ _) hbv)
        | (go_at_call 6; (with_reducible refine (HBb.out _ (by first | assumption | exact Below.refl _ _)).mono ?_); rintro e v ⟨rfl, hbv⟩; have hbx := rnk_next (W := W1) (by first | assumption | exact Below.refl _ _) hbv)
        | (go_at_call 13; (with_reducible refine (NN.out _ (by first | assumption | exact Below.refl _ _)).mono ?_); rintro e v ⟨rfl, hbv⟩; have hbx := rnk_next (W := W1) (by first | assumption | exact Below.refl _ _) hbv)
        | (go_at_call 9; refine (rnkAlive_any KK.out _).mono ?_; rintro e v ⟨rfl, hbv⟩; have hbx := rnk_next (W := W1) (by first | assumption | exact Below.refl _ _) hbv))
      go_ret
      have z1 := Q1.out.trans (Below.mono (by assumption) Q1.out.size)
      exact ⟨rfl, HB0.out.trans (z1.mono HB0.out.size)⟩

end Go.Proofs.Ytfmgcabgbnfjlaa
