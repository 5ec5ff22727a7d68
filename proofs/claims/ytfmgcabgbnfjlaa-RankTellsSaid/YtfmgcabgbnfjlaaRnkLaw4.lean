/- The walk of the statement RankTells of layer rank, over the project's contracts: for every input it returns true, and nothing that was there before is changed. -/
import Derived.Test.YtfmgcabgbnfjlaaRnkLaw3
import Derived.Test.YtfmgcabgbnfjlaaRnkRef
import Derived.Deep.Cut
namespace Go.Proofs.Ytfmgcabgbnfjlaa
set_option linter.unusedVariables false
set_option maxRecDepth 100000
open Go.RowKit

theorem rnk_keep7 {W a b : World} {p q r s t o m : Addr} {x y z u v i j : Value} (h : a.cell? p = some x ∧ a.cell? q = some y ∧ a.cell? r = some z ∧ a.cell? s = some u ∧ a.cell? t = some v ∧ a.cell? o = some i ∧ a.cell? m = some j ∧ Below W.heap.size W a) (hb : Below a.heap.size a b)
    (hp : p.block < W.heap.size) (hq : q.block < W.heap.size) (hr : r.block < W.heap.size) (hs : s.block < W.heap.size) (ht : t.block < W.heap.size) (ho : o.block < W.heap.size) (hm : m.block < W.heap.size) :
    b.cell? p = some x ∧ b.cell? q = some y ∧ b.cell? r = some z ∧ b.cell? s = some u ∧ b.cell? t = some v ∧ b.cell? o = some i ∧ b.cell? m = some j ∧ Below W.heap.size W b := by
  obtain ⟨h1, h2, h3, h4, h5, h6, h7, h8⟩ := h
  have hz := h8.size
  exact ⟨(hb.cell (by omega)).trans h1, (hb.cell (by omega)).trans h2, (hb.cell (by omega)).trans h3, (hb.cell (by omega)).trans h4, (hb.cell (by omega)).trans h5, (hb.cell (by omega)).trans h6, (hb.cell (by omega)).trans h7, h8.trans (hb.mono hz)⟩
theorem rnk_below7 {W a : World} {p q r s t o m : Addr} {x y z u v i j : Value} (h : a.cell? p = some x ∧ a.cell? q = some y ∧ a.cell? r = some z ∧ a.cell? s = some u ∧ a.cell? t = some v ∧ a.cell? o = some i ∧ a.cell? m = some j ∧ Below W.heap.size W a) : Below W.heap.size W a := h.2.2.2.2.2.2.2
set_option maxHeartbeats 12800000 in
theorem walk_rankTellsK (K : RnkLH) (S : RnkS) (N : RnkN) (l k kd : Int) (A : Option Addr) (n c : Nat) (L : List Nd) (y : Int) (L0 : -9223372036854775808 ≤ l) (L1 : l ≤ 9223372036854775807) (K0 : -9223372036854775808 ≤ k) (K1 : k ≤ 9223372036854775807) (D0 : -9223372036854775808 ≤ kd) (D1 : kd ≤ 9223372036854775807) (NB : NBds L) (m1 : n ≤ 9223372036854775807)
    (Y0 : -9223372036854775808 ≤ y) (Y1 : y ≤ 9223372036854775807) (w : World) (hv : NodesAt w (.slice A n c) L) :
    Calls Try.prog 3 #[.agg #[.int .i64 l, .int .i64 k, .int .i64 kd, .slice A n c], .int .i64 y] w fun e w' => e = .returned (.bool true) ∧ Below w.heap.size w w' := by
  have HB0 : Hid (Below w.heap.size w (w.alloc (.cells #[.int .i64 l, .int .i64 k, .int .i64 kd, .slice A n c] 26))) := (Below.refl _ _).alloc (Nat.le_refl _) _
  have X0 := Lib.hid (quad_new w 26 (.int .i64 l) (.int .i64 k) (.int .i64 kd) (.slice A n c))
  have KK := Lib.hid K
  have KS := Lib.hid S
  have KN := Lib.hid N
  have HV := Lib.hid hv
  have HNB : Hid (NBds L) := NB
  have LL := Lib.hid (And.intro L0 L1)
  have YB := Lib.hid (And.intro Y0 Y1)
  clear K S N K0 K1 D0 D1 m1 hv NB L0 L1 Y0 Y1
  go_enter Try.func3, Try.ntmps3
  go_wp2_with fail
  generalize w.alloc (.cells #[.int .i64 l, .int .i64 k, .int .i64 kd, .slice A n c] 26) = W at *
  refine (KN.out.low_nil y _).mono ?_
  rintro e w1 ⟨rfl, hb1⟩
  have B1 := Lib.hid hb1
  clear hb1
  go_wp2_with fail
  refine (KN.out.high_nil y _).mono ?_
  rintro e w2 ⟨rfl, hb2⟩
  have B2 := Lib.hid (B1.out.trans (hb2.mono B1.out.size))
  clear hb2 B1
  go_wp2_with fail
  refine (KN.out.slack_nil _).mono ?_
  rintro e w3 ⟨rfl, hb3⟩
  have B3 := Lib.hid (B2.out.trans (hb3.mono B2.out.size))
  clear hb3 B2
  have W3 := Lib.hid (HB0.out.trans (B3.out.mono HB0.out.size))
  obtain ⟨x0, x1, x2, x3, _, _, _, _, hz⟩ := quad_all (own_below X0.out B3.out)
  cases hld : rnkLdB kd l k n L
  · have LD := Lib.hid (rnkLoad_no l k kd A n c L w3 (HV.out.below W3.out) HNB.out LL.out.1 LL.out.2 hld)
    clear hld
    go_wp2_with fail
    refine LD.out.mono ?_
    rintro e w7 ⟨rfl, hb7⟩
    have Q1 := Lib.hid (W3.out.trans (hb7.mono W3.out.size))
    have Q2 := Lib.hid (Q1.out.alloc Q1.out.size (.cells #[.int .i64 0, .int .i64 0, .slice none 0 0] 33))
    clear hb7 LD x0 x1 x2 x3 hz
    go_wp2_with (go_at_call 9; refine (rnkAlive_any KK.out _).mono ?_; rintro e v7 ⟨rfl, hbv7⟩)
    go_ret
    exact ⟨rfl, Q2.out.trans (hbv7.mono Q2.out.size)⟩
  · have LD := Lib.hid (rnkLoad_yes l k kd A n c L w3 (HV.out.below W3.out) HNB.out LL.out.1 LL.out.2 hld)
    have NL : Hid (¬ 150 < n) := (of_decide_eq_true hld).1
    clear hld
    go_wp2_with fail
    refine LD.out.mono ?_
    rintro e w7 ⟨q, p, g, h, rfl, hd7, hb7⟩
    have hba := (Below.refl w7.heap.size w7).alloc (Nat.le_refl _) (.cells #[.int .i64 k, .int .i64 l, .slice A n c] 33)
    have R8 := Lib.hid (B3.out.trans ((hb7.trans (hba.mono hb7.size)).mono B3.out.size))
    have D8 := Lib.hid (hd7.below hba)
    have Y8 := Lib.hid (tri_nw w7 33 (.int .i64 k) (.int .i64 l) (.slice A n c))
    have PN : ∀ w, (binOp .eql 29 (.pointer (some ⟨q, 0, none⟩)) (.pointer none)).run Try.prog w = .ok (.bool false) w := fun _ => by kernel_rfl
    clear hd7 hb7 hba LD x0 x1 x2 x3 hz
    go_upto_region 6 with fail
    generalize w7.alloc (.cells #[.int .i64 k, .int .i64 l, .slice A n c] 33) = W8 at *
    obtain ⟨x0, x1, x2, x3, _, _, _, _, hz⟩ := quad_all (own_below X0.out R8.out)
    obtain ⟨y0, y1, y2, _, _, _, hy⟩ := tri_all Y8.out
    have HX := Lib.hid hz
    have HY := Lib.hid hy
    have V8 := Lib.hid (HV.out.below (HB0.out.trans (R8.out.mono HB0.out.size)))
    have rl := D8.out.v.roll
    have LO := Lib.hid (fun v (hb : Below W8.heap.size W8 v) => KK.out.low y v (D8.out.below hb) (by omega) YB.out.1 YB.out.2)
    have HI := Lib.hid (fun v (hb : Below W8.heap.size W8 v) => KK.out.high y v (D8.out.below hb) (by omega) YB.out.1 YB.out.2)
    have SL := Lib.hid (fun v (hb : Below W8.heap.size W8 v) => KS.out.slack v (D8.out.below hb) (by omega))
    have RL := Lib.hid (fun v (hb : Below W8.heap.size W8 v) => rRnkLow_any (l := l) y A n c L v (V8.out.below hb) rl (by have := NL.out; omega) YB.out.1 YB.out.2)
    have RH := Lib.hid (fun v (hb : Below W8.heap.size W8 v) => rRnkHigh_any (l := l) y A n c L v (V8.out.below hb) rl (by have := NL.out; omega) YB.out.1 YB.out.2)
    have RS := Lib.hid (fun v (hb : Below W8.heap.size W8 v) => rRnkSlack_any l k A n c L v (V8.out.below hb) D8.out.v (by have := NL.out; omega))
    have AL := Lib.hid (fun v => rnkAlive_any KK.out v)
    clear rl
    generalize lowR l L y = lo at *
    generalize highR l L y = hi at *
    generalize slackN l k L = sl at *
    have s1 : (lo == lo) = true := by simp
    have s2 : (hi == hi) = true := by simp
    have s3 : (sl == sl) = true := by simp
    go_region_held3 (fun w' => w'.cell? ⟨w.heap.size, 0, none⟩ = some (.int .i64 l) ∧ w'.cell? ⟨w.heap.size, 1, none⟩ = some (.int .i64 k) ∧ w'.cell? ⟨w.heap.size, 2, none⟩ = some (.int .i64 kd) ∧ w'.cell? ⟨w.heap.size, 3, none⟩ = some (.slice A n c) ∧ w'.cell? ⟨w7.heap.size, 0, none⟩ = some (.int .i64 k) ∧ w'.cell? ⟨w7.heap.size, 1, none⟩ = some (.int .i64 l) ∧ w'.cell? ⟨w7.heap.size, 2, none⟩ = some (.slice A n c) ∧ Below W8.heap.size W8 w')
      (first | assumption | (exact rnk_keep7 (by assumption) (by assumption) HX.out HX.out HX.out HX.out HY.out HY.out HY.out) | (exact ⟨x0, x1, x2, x3, y0, y1, y2, below_drew _⟩))
      (first
        | (go_at_call 5; (with_reducible refine (LO.out _ (rnk_below7 (p := ⟨w.heap.size, 0, none⟩) (q := ⟨w.heap.size, 1, none⟩) (r := ⟨w.heap.size, 2, none⟩) (s := ⟨w.heap.size, 3, none⟩) (t := ⟨w7.heap.size, 0, none⟩) (o := ⟨w7.heap.size, 1, none⟩) (m := ⟨w7.heap.size, 2, none⟩) (x := .int .i64 l) (y := .int .i64 k) (z := .int .i64 kd) (u := .slice A n c) (v := .int .i64 k) (i := .int .i64 l) (j := .slice A n c) (by assumption))).mono ?_); rintro e u0 ⟨rfl, hbu0⟩)
        | (go_at_call 10; (with_reducible refine (RL.out _ (rnk_below7 (p := ⟨w.heap.size, 0, none⟩) (q := ⟨w.heap.size, 1, none⟩) (r := ⟨w.heap.size, 2, none⟩) (s := ⟨w.heap.size, 3, none⟩) (t := ⟨w7.heap.size, 0, none⟩) (o := ⟨w7.heap.size, 1, none⟩) (m := ⟨w7.heap.size, 2, none⟩) (x := .int .i64 l) (y := .int .i64 k) (z := .int .i64 kd) (u := .slice A n c) (v := .int .i64 k) (i := .int .i64 l) (j := .slice A n c) (by assumption))).mono ?_); rintro e u1 ⟨rfl, hbu1⟩)
        | (go_at_call 6; (with_reducible refine (HI.out _ (rnk_below7 (p := ⟨w.heap.size, 0, none⟩) (q := ⟨w.heap.size, 1, none⟩) (r := ⟨w.heap.size, 2, none⟩) (s := ⟨w.heap.size, 3, none⟩) (t := ⟨w7.heap.size, 0, none⟩) (o := ⟨w7.heap.size, 1, none⟩) (m := ⟨w7.heap.size, 2, none⟩) (x := .int .i64 l) (y := .int .i64 k) (z := .int .i64 kd) (u := .slice A n c) (v := .int .i64 k) (i := .int .i64 l) (j := .slice A n c) (by assumption))).mono ?_); rintro e u2 ⟨rfl, hbu2⟩)
        | (go_at_call 11; (with_reducible refine (RH.out _ (rnk_below7 (p := ⟨w.heap.size, 0, none⟩) (q := ⟨w.heap.size, 1, none⟩) (r := ⟨w.heap.size, 2, none⟩) (s := ⟨w.heap.size, 3, none⟩) (t := ⟨w7.heap.size, 0, none⟩) (o := ⟨w7.heap.size, 1, none⟩) (m := ⟨w7.heap.size, 2, none⟩) (x := .int .i64 l) (y := .int .i64 k) (z := .int .i64 kd) (u := .slice A n c) (v := .int .i64 k) (i := .int .i64 l) (j := .slice A n c) (by assumption))).mono ?_); rintro e u3 ⟨rfl, hbu3⟩)
        | (go_at_call 7; (with_reducible refine (SL.out _ (rnk_below7 (p := ⟨w.heap.size, 0, none⟩) (q := ⟨w.heap.size, 1, none⟩) (r := ⟨w.heap.size, 2, none⟩) (s := ⟨w.heap.size, 3, none⟩) (t := ⟨w7.heap.size, 0, none⟩) (o := ⟨w7.heap.size, 1, none⟩) (m := ⟨w7.heap.size, 2, none⟩) (x := .int .i64 l) (y := .int .i64 k) (z := .int .i64 kd) (u := .slice A n c) (v := .int .i64 k) (i := .int .i64 l) (j := .slice A n c) (by assumption))).mono ?_); rintro e u4 ⟨rfl, hbu4⟩)
        | (go_at_call 12; (with_reducible refine (RS.out _ (rnk_below7 (p := ⟨w.heap.size, 0, none⟩) (q := ⟨w.heap.size, 1, none⟩) (r := ⟨w.heap.size, 2, none⟩) (s := ⟨w.heap.size, 3, none⟩) (t := ⟨w7.heap.size, 0, none⟩) (o := ⟨w7.heap.size, 1, none⟩) (m := ⟨w7.heap.size, 2, none⟩) (x := .int .i64 l) (y := .int .i64 k) (z := .int .i64 kd) (u := .slice A n c) (v := .int .i64 k) (i := .int .i64 l) (j := .slice A n c) (by assumption))).mono ?_); rintro e u5 ⟨rfl, hbu5⟩)
        | (go_at_call 9; refine (AL.out _).mono ?_; rintro e u9 ⟨rfl, hbu9⟩))
    rename_i hH
    have B9 := Lib.hid (R8.out.trans (Below.mono hH.2.2.2.2.2.2.2 R8.out.size))
    clear hH
    go_wp2_with fail
    go_ret
    exact ⟨rfl, HB0.out.trans (B9.out.mono HB0.out.size)⟩

end Go.Proofs.Ytfmgcabgbnfjlaa
