/- The walk of the statement RankTables of layer rank, over the project's contracts: for every input it returns true, and nothing that was there before is changed. -/
import Derived.Test.YtfmgcabgbnfjlaaGreatRnkLaw
import Derived.Test.YtfmgcabgbnfjlaaGreatRnkRef2
import Derived.Test.YtfmgcabgbnfjlaaGreatDgL
import Derived.Test.YtfmgcabgbnfjlaaGreatTiSame
import Derived.Test.YtfmgcabgbnfjlaaGreatOpQ
import Derived.Laws.StructEq
import Derived.Deep.Cut
namespace Go.Proofs.YtfmgcabgbnfjlaaGreat
set_option linter.unusedVariables false
set_option maxRecDepth 100000
open Go.RowKit

theorem rnk_keep4 {W a b : World} {p q r s : Addr} {x y z u : Value} (h : a.cell? p = some x ∧ a.cell? q = some y ∧ a.cell? r = some z ∧ a.cell? s = some u ∧ Below W.heap.size W a) (hb : Below a.heap.size a b)
    (hp : p.block < W.heap.size) (hq : q.block < W.heap.size) (hr : r.block < W.heap.size) (hs : s.block < W.heap.size) : b.cell? p = some x ∧ b.cell? q = some y ∧ b.cell? r = some z ∧ b.cell? s = some u ∧ Below W.heap.size W b := by
  obtain ⟨h1, h2, h3, h4, h5⟩ := h
  have hz := h5.size
  exact ⟨(hb.cell (by omega)).trans h1, (hb.cell (by omega)).trans h2, (hb.cell (by omega)).trans h3, (hb.cell (by omega)).trans h4, h5.trans (hb.mono hz)⟩
theorem rnk_below4 {W a : World} {p q r s : Addr} {x y z u : Value} (h : a.cell? p = some x ∧ a.cell? q = some y ∧ a.cell? r = some z ∧ a.cell? s = some u ∧ Below W.heap.size W a) : Below W.heap.size W a := h.2.2.2.2
/-- two answers held against each other -/
theorem run_neq_both (i1 x1 i2 x2 : Int) (w : World) : (binOp .neq 35 (.agg #[.int .i64 i1, .int .i64 x1]) (.agg #[.int .i64 i2, .int .i64 x2])).run Tryz.prog w = .ok (.bool (!(i1 == i2 && x1 == x2))) w := by
  have i3 := fun (a b : Int) (w : World) => run_equalIn_int (P := Tryz.prog) w 9998 3 .i64 .i64 a b Tryz.underlying3
  rw [run_neq_struct, run_equalIn_agg _ _ _ _ _ (by kernel_rfl) (by kernel_rfl)]
  unfold Program.fieldsOf
  rw [Tryz.underlying35]
  have p0 : ∀ (a b : Value) w, (part 3 #[a, b] 0).run Tryz.prog w = .ok a w := fun _ _ _ => by kernel_rfl
  have p1 : ∀ (a b : Value) w, (part 3 #[a, b] 1).run Tryz.prog w = .ok b w := fun _ _ _ => by kernel_rfl
  simp only [Op.eqFields, Sem.run_bind, Sem.run_ite, p0, p1, Result.andThen_ok, i3]
  by_cases h1 : i1 = i2 <;> by_cases h2 : x1 = x2 <;> simp [h1, h2, Result.andThen]
set_option maxHeartbeats 25600000 in
theorem walk_rankTablesK {TB : World → Nat → Nat → Int → List Nd → Prop} (K : RnkLH) (R : RnkT TB) (l k kd : Int) (A : Option Addr) (n c : Nat) (L : List Nd) (A2 : Option Addr) (n2 c2 : Nat) (T2 : List Int) (oa ob oc : Int)
    (L0 : -9223372036854775808 ≤ l) (L1 : l ≤ 9223372036854775807) (K0 : -9223372036854775808 ≤ k) (K1 : k ≤ 9223372036854775807) (D0 : -9223372036854775808 ≤ kd) (D1 : kd ≤ 9223372036854775807) (NB : NBds L) (m1 : n ≤ 9223372036854775807)
    (BZ : BdZ T2) (m2 : n2 ≤ 9223372036854775807) (O0 : -9223372036854775808 ≤ oa) (O1 : oa ≤ 9223372036854775807) (O2 : -9223372036854775808 ≤ ob) (O3 : ob ≤ 9223372036854775807) (O4 : -9223372036854775808 ≤ oc) (O5 : oc ≤ 9223372036854775807) (w : World) (hv : NodesAt w (.slice A n c) L) (hy : IntsAt w (.slice A2 n2 c2) T2) :
    Calls Tryz.prog 3 #[.agg #[.int .i64 l, .int .i64 k, .int .i64 kd, .slice A n c], .slice A2 n2 c2, .agg #[.int .i64 oa, .int .i64 ob, .int .i64 oc]] w fun e w' => e = .returned (.bool true) ∧ Below w.heap.size w w' := by
  have e1 : (w.alloc (.cells #[.int .i64 l, .int .i64 k, .int .i64 kd, .slice A n c] 26)).heap.size = w.heap.size + 1 := by simp
  have X0 := Lib.hid ((quad_new w 26 (.int .i64 l) (.int .i64 k) (.int .i64 kd) (.slice A n c)).alloc (.cells #[.int .i64 oa, .int .i64 ob, .int .i64 oc] 29))
  have Y0 : Hid (((w.alloc (.cells #[.int .i64 l, .int .i64 k, .int .i64 kd, .slice A n c] 26)).alloc (.cells #[.int .i64 oa, .int .i64 ob, .int .i64 oc] 29)).ownsRow w.heap.size 29 3 (.slice (some ⟨w.heap.size + 1, 0, none⟩) 1 1) 1 [.int .i64 oa, .int .i64 ob, .int .i64 oc]) := by
    have z := tri_nw (w.alloc (.cells #[.int .i64 l, .int .i64 k, .int .i64 kd, .slice A n c] 26)) 29 (.int .i64 oa) (.int .i64 ob) (.int .i64 oc)
    rw [e1] at z
    exact own_low z (Nat.le_succ _)
  have HB0 : Hid (Below w.heap.size w ((w.alloc (.cells #[.int .i64 l, .int .i64 k, .int .i64 kd, .slice A n c] 26)).alloc (.cells #[.int .i64 oa, .int .i64 ob, .int .i64 oc] 29))) := ((Below.refl _ _).alloc (Nat.le_refl _) _).alloc (by simp) _
  have Z0 : Hid (((w.alloc (.cells #[.int .i64 l, .int .i64 k, .int .i64 kd, .slice A n c] 26)).alloc (.cells #[.int .i64 oa, .int .i64 ob, .int .i64 oc] 29)).heap.size = w.heap.size + 2) := by show _ = _; simp
  have KK := Lib.hid K
  have RR := Lib.hid R
  have HV := Lib.hid hv
  have HY := Lib.hid hy
  have HZ := Lib.hid BZ
  have BN : ∀ w, (binOp .neq 30 (.pointer none) (.pointer none)).run Tryz.prog w = .ok (.bool false) w := fun _ => by kernel_rfl
  have BO : ∀ w, (binOp .neq 35 (.agg #[.int .i64 0, .int .i64 0]) (.agg #[.int .i64 0, .int .i64 0])).run Tryz.prog w = .ok (.bool false) w := fun _ => by kernel_rfl
  have LL := Lib.hid (And.intro L0 L1)
  have HNB : Hid (NBds L) := NB
  clear K R hv hy BZ K0 K1 D0 D1 m1 m2 NB L0 L1
  go_enter Tryz.func3, Tryz.ntmps3
  go_wp2_with fail
  generalize (w.alloc (.cells #[.int .i64 l, .int .i64 k, .int .i64 kd, .slice A n c] 26)).alloc (.cells #[.int .i64 oa, .int .i64 ob, .int .i64 oc] 29) = W at *
  refine (RR.out.of_nil _).mono ?_
  rintro e w1 ⟨rfl, hb1⟩
  have B1 := Lib.hid hb1
  clear hb1
  go_wp2_with fail
  refine (RR.out.n_nil _).mono ?_
  rintro e w2 ⟨rfl, hb2⟩
  have B2 := Lib.hid (B1.out.trans (hb2.mono B1.out.size))
  clear hb2 B1
  go_wp2_with fail
  refine (RR.out.low_nil 1 _).mono ?_
  rintro e w3 ⟨rfl, hb3⟩
  have B3 := Lib.hid (B2.out.trans (hb3.mono B2.out.size))
  clear hb3 B2
  go_wp2_with fail
  refine (RR.out.high_nil 1 _).mono ?_
  rintro e w4 ⟨rfl, hb4⟩
  have B4 := Lib.hid (B3.out.trans (hb4.mono B3.out.size))
  clear hb4 B3
  go_wp2_with fail
  refine (RR.out.both_nil 1 _).mono ?_
  rintro e w5 ⟨rfl, hb5⟩
  have B5 := Lib.hid (B4.out.trans (hb5.mono B4.out.size))
  clear hb5 B4
  go_wp2_with fail
  refine (RR.out.steps_nil _).mono ?_
  rintro e w6 ⟨⟨As, cs, rfl⟩, hb6⟩
  have B6 := Lib.hid (B5.out.trans (hb6.mono B5.out.size))
  clear hb6 B5 BN BO
  obtain ⟨x0, x1, x2, x3, _, _, _, _, hz⟩ := quad_all (own_below X0.out B6.out)
  cases hld : rnkLdB kd l k n L
  · have LD := Lib.hid (rnkLoad_no l k kd A n c L w6 (HV.out.below (HB0.out.trans (B6.out.mono HB0.out.size))) HNB.out LL.out.1 LL.out.2 hld)
    clear hld
    go_wp2_with fail
    refine LD.out.mono ?_
    rintro e w7 ⟨rfl, hb7⟩
    have Q1 := Lib.hid ((HB0.out.trans (B6.out.mono HB0.out.size)).trans (hb7.mono (HB0.out.trans (B6.out.mono HB0.out.size)).size))
    have Q2 := Lib.hid (Q1.out.alloc Q1.out.size (.cells #[.int .i64 0, .int .i64 0, .slice none 0 0] 42))
    clear hb7 LD x0 x1 x2 x3 hz
    go_wp2_with (go_at_call 13; refine (rnkAlive_any KK.out _).mono ?_; rintro e v7 ⟨rfl, hbv7⟩)
    go_ret
    exact ⟨rfl, Q2.out.trans (hbv7.mono Q2.out.size)⟩
  have LD := Lib.hid (rnkLoad_yes l k kd A n c L w6 (HV.out.below (HB0.out.trans (B6.out.mono HB0.out.size))) HNB.out LL.out.1 LL.out.2 hld)
  have NL : Hid (¬ 150 < n) := (of_decide_eq_true hld).1
  clear hld
  go_wp2_with fail
  refine LD.out.mono ?_
  rintro e w7 ⟨q, p, g, h, rfl, hd7, hb7⟩
  have D7 := Lib.hid hd7
  have hba := (Below.refl w7.heap.size w7).alloc (Nat.le_refl _) (.cells #[.int .i64 k, .int .i64 l, .slice A n c] 42)
  have R8 := Lib.hid (B6.out.trans ((hb7.trans (hba.mono hb7.size)).mono B6.out.size))
  have D8 := Lib.hid (hd7.below hba)
  have S8 : Hid (w7.heap.size + 1 = (w7.alloc (.cells #[.int .i64 k, .int .i64 l, .slice A n c] 42)).heap.size) := by show _ = _; simp
  have PN : ∀ w, (binOp .eql 38 (.pointer (some ⟨q, 0, none⟩)) (.pointer none)).run Tryz.prog w = .ok (.bool false) w := fun _ => by kernel_rfl
  clear hd7 hb7 hba LD x0 x1 x2 x3 hz
  by_cases hn2 : 50 < n2
  · have g0 : decide (50 < (n2 : Int)) = true := decide_eq_true (by omega)
    clear hn2
    go_wp2_with (go_at_call 13; refine (rnkAlive_any KK.out _).mono ?_; rintro e v7 ⟨rfl, hbv7⟩)
    go_ret
    have z := HB0.out.trans (R8.out.mono HB0.out.size)
    exact ⟨rfl, z.trans (hbv7.mono z.size)⟩
  have g0 : decide (50 < (n2 : Int)) = false := decide_eq_false (by omega)
  go_wp2_with fail
  generalize w7.alloc (.cells #[.int .i64 k, .int .i64 l, .slice A n c] 42) = W8 at *
  refine (RR.out.of W8 D8.out (by omega)).mono ?_
  rintro e w9 ⟨⟨t, rfl, ht⟩, hb9⟩
  have T9 := Lib.hid ht
  have D9 := Lib.hid (D8.out.below hb9)
  have R9 := Lib.hid (R8.out.trans (hb9.mono R8.out.size))
  have Z9 := Lib.hid hb9.size
  clear ht hb9
  go_wp2_with fail
  refine (dgN_any w9 D9.out.box D9.out.po (by omega)).mono ?_
  rintro e w10 ⟨rfl, hb10⟩
  have T10 := Lib.hid (RR.out.kp T9.out (Kp.of (F := fun _ => False) hb10) fun _ f => f.elim)
  have D10 := Lib.hid (D9.out.below hb10)
  have R10 := Lib.hid (R9.out.trans (hb10.mono R9.out.size))
  obtain ⟨y0, y1, y2, _, _, _, hyz⟩ := tri_all (own_below Y0.out R10.out)
  clear hb10 T9 D9 R9
  go_wp2_with fail
  refine (dgLdo_any oa ob oc w10 D10.out (by omega) O2 O3 O4 O5).mono ?_
  rintro e w11 ⟨rfl, p', g', h', hd11, hk11, hn11⟩
  have lt := D8.out.lt
  have lo : Hid (∀ i, dgF q p g h i → W.heap.size ≤ i ∧ i < W8.heap.size) := fun i f => by
    have a := D7.out.lt i f
    have b := R8.out.size
    have c := B6.out.size
    have d := S8.out
    exact ⟨by omega, by omega⟩
  have T11 := Lib.hid (RR.out.kp T10.out hk11 fun i f => (lo.out i f).2)
  have R11 := Lib.hid (R10.out.trans (hk11.below (fun i _ f => (lo.out i f).1) R10.out.size))
  clear hd11 hk11 hn11 lt T10 R10 y0 y1 y2 hyz D8 D10
  have X11 := Lib.hid (own_below X0.out R11.out)
  have V11 := Lib.hid (HV.out.below (HB0.out.trans (R11.out.mono HB0.out.size)))
  have Y11 := Lib.hid (HY.out.below (HB0.out.trans (R11.out.mono HB0.out.size)))
  have TBv := Lib.hid (fun v (hb : Below w11.heap.size w11 v) => RR.out.kp T11.out (Kp.of (F := fun _ => False) hb) fun _ f => f.elim)
  have rl := D7.out.v.roll
  have NC := Lib.hid (fun v (hb : Below w11.heap.size w11 v) => RR.out.n v (TBv.out v hb))
  have SC := Lib.hid (fun v (hb : Below w11.heap.size w11 v) => (RR.out.steps v (TBv.out v hb)).mono (R' := fun e w' => ∃ A n c, e = .returned (.slice A n c) ∧ IntsAt w' (.slice A n c) (stepsN l L) ∧ n ≤ 1000 ∧ Below v.heap.size v w') fun e w' ⟨⟨A, n, c, a, b, d⟩, f⟩ => ⟨A, n, c, a, b, d, f⟩)
  have SR := Lib.hid (fun v (hb : Below w11.heap.size w11 v) => (rRnkSteps_any A n c L v (V11.out.below hb) rl (by have := NL.out; omega)).mono (R' := fun e w' => ∃ A n c, e = .returned (.slice A n c) ∧ IntsAt w' (.slice A n c) (stepsN l L) ∧ n ≤ 1000 ∧ Below v.heap.size v w') fun e w' ⟨A3, n3, c3, a, b, f⟩ => ⟨A3, n3, c3, a, ownI_ints b, by
    have x := (ints_cells (ownI_ints b)).1
    have y := steps_len l L L.length
    rw [List.take_length] at y
    have z := (nodes_cells V11.out).1
    have u := NL.out
    omega, f⟩)
  have LR := Lib.hid (fun v y (hb : Below w11.heap.size w11 v) (b0 : -9223372036854775808 ≤ y) (b1 : y ≤ 9223372036854775807) => rRnkLow_any (l := l) y A n c L v (V11.out.below hb) rl (by have := NL.out; omega) b0 b1)
  have HR := Lib.hid (fun v y (hb : Below w11.heap.size w11 v) (b0 : -9223372036854775808 ≤ y) (b1 : y ≤ 9223372036854775807) => rRnkHigh_any (l := l) y A n c L v (V11.out.below hb) rl (by have := NL.out; omega) b0 b1)
  have SS : decide (stepsN l L = stepsN l L) = true := by simp
  have sn : (sumC L != sumC L) = false := by simp
  have PT : ∀ w, (binOp .eql 30 (.pointer (some ⟨t, 0, none⟩)) (.pointer none)).run Tryz.prog w = .ok (.bool false) w := fun _ => by kernel_rfl
  obtain ⟨x0, x1, x2, x3, _, _, _, _, hz⟩ := quad_all X11.out
  have HX := Lib.hid hz
  have FIN : Hid (∀ v, Below w11.heap.size w11 v → Below w.heap.size w v) := fun v hb => HB0.out.trans ((R11.out.trans (hb.mono R11.out.size)).mono HB0.out.size)
  clear rl V11 D7 R8 B6 X0 Y0 HB0 Z0 S8 HNB HV HY
  generalize sumC L = sN at *
  generalize hst : stepsN l L = stN at *
  clear hst
  go_upto_region 10 with fail
  go_region_held3 (fun w' => w'.cell? ⟨w.heap.size, 0, none⟩ = some (.int .i64 l) ∧ w'.cell? ⟨w.heap.size, 1, none⟩ = some (.int .i64 k) ∧ w'.cell? ⟨w.heap.size, 2, none⟩ = some (.int .i64 kd) ∧ w'.cell? ⟨w.heap.size, 3, none⟩ = some (.slice A n c) ∧ Below w11.heap.size w11 w')
    (first | assumption | (exact rnk_keep4 (by assumption) (by assumption) HX.out HX.out HX.out HX.out) | (exact ⟨x0, x1, x2, x3, below_drew _⟩))
    (first
      | (go_at_call 7; (with_reducible refine (NC.out _ (rnk_below4 (p := ⟨w.heap.size, 0, none⟩) (q := ⟨w.heap.size, 1, none⟩) (r := ⟨w.heap.size, 2, none⟩) (s := ⟨w.heap.size, 3, none⟩) (x := .int .i64 l) (y := .int .i64 k) (z := .int .i64 kd) (u := .slice A n c) (by assumption))).mono ?_); rintro e v1 ⟨rfl, hbv1⟩)
      | (go_at_call 11; (with_reducible refine (SC.out _ (rnk_below4 (p := ⟨w.heap.size, 0, none⟩) (q := ⟨w.heap.size, 1, none⟩) (r := ⟨w.heap.size, 2, none⟩) (s := ⟨w.heap.size, 3, none⟩) (x := .int .i64 l) (y := .int .i64 k) (z := .int .i64 kd) (u := .slice A n c) (by assumption))).mono ?_); rintro e v2 ⟨A5, m5, c5, rfl, hi5, hm5, hbv2⟩)
      | (go_at_call 17; (with_reducible refine (SR.out _ (rnk_below4 (p := ⟨w.heap.size, 0, none⟩) (q := ⟨w.heap.size, 1, none⟩) (r := ⟨w.heap.size, 2, none⟩) (s := ⟨w.heap.size, 3, none⟩) (x := .int .i64 l) (y := .int .i64 k) (z := .int .i64 kd) (u := .slice A n c) (by assumption))).mono ?_); rintro e v3 ⟨A6, m6, c6, rfl, hi6, hm6, hbv3⟩)
      | (go_at_call 16; refine (same5_any A5 A6 m5 m6 c5 c6 stN stN _ (by first | exact hi5.below hbv3 | exact hi5) (by exact hi6) (by omega) (by omega)).mono ?_; rintro e v4 ⟨rfl, hbv4⟩))
  rename_i hH
  have B12 : Hid (Below w11.heap.size w11 v4) := hH.2.2.2.2
  clear hH x0 x1 x2 x3 hz NC SC SR SS sn
  have YL := Lib.hid (ints_cells Y11.out).1
  have YC := Lib.hid (ints_cells Y11.out).2
  go_upto_region 13 with fail
  go_loopw [87] (fun i wr => ∃ j : Nat, j ≤ n2 ∧ i = .int .i64 j ∧ Below v4.heap.size v4 wr) (fun i _ => n2 - (intOf i).toNat)
  case atStart => exact ⟨0, by omega, rfl, Below.refl _ _⟩
  case round =>
    obtain ⟨j, hj, rfl, hb⟩ := hrel
    have BR := Lib.hid (B12.out.trans (hb.mono B12.out.size))
    have BW := Lib.hid hb
    clear hb
    by_cases hlt : j < n2
    · have hk2 : j < T2.length := by have := YL.out; omega
      obtain ⟨b, o, rfl, hbl, hcell⟩ := YC.out (by omega)
      have e0 : wr.cell? ⟨b, o + j, none⟩ = some (.int .i64 (T2.getD j 0)) := (BR.out.cell (p := ⟨b, o + j, none⟩) hbl).trans (hcell j hk2)
      have yb := HZ.out _ (getD_mem hk2)
      have XR := Lib.hid (own_below X11.out BR.out)
      have j0 : (0 : Int) ≤ (j : Int) := Int.natCast_nonneg _
      have j1 : (j : Int) < (n2 : Int) := by omega
      clear hcell
      obtain ⟨y, hyy⟩ : ∃ y, y = T2.getD j 0 := ⟨_, rfl⟩
      rw [← hyy] at e0 yb
      clear hyy
      have LRv := Lib.hid (fun v (hb : Below wr.heap.size wr v) => LR.out v y (BR.out.trans (hb.mono BR.out.size)) yb.1 yb.2)
      have HRv := Lib.hid (fun v (hb : Below wr.heap.size wr v) => HR.out v y (BR.out.trans (hb.mono BR.out.size)) yb.1 yb.2)
      have TL := Lib.hid (fun v (hb : Below wr.heap.size wr v) => RR.out.low y v (TBv.out v (BR.out.trans (hb.mono BR.out.size))) yb.1 yb.2)
      have TH := Lib.hid (fun v (hb : Below wr.heap.size wr v) => RR.out.high y v (TBv.out v (BR.out.trans (hb.mono BR.out.size))) yb.1 yb.2)
      have TO := Lib.hid (fun v (hb : Below wr.heap.size wr v) => RR.out.both y v (TBv.out v (BR.out.trans (hb.mono BR.out.size))) yb.1 yb.2)
      clear yb
      generalize lowR l L y = lo2 at *
      generalize highR l L y = hi2 at *
      have s1 : (lo2 != lo2) = false := by simp
      have s2 : (hi2 != hi2) = false := by simp
      have s3 : ∀ w, (binOp .neq 35 (.agg #[.int .i64 lo2, .int .i64 hi2]) (.agg #[.int .i64 lo2, .int .i64 hi2])).run Tryz.prog w = .ok (.bool false) w := fun w => by rw [run_neq_both]; simp
      obtain ⟨x0, x1, x2, x3, _, _, _, _, hz⟩ := quad_all XR.out
      have HX2 := Lib.hid hz
      go_upto_region 15 with fail
      go_region_held3 (fun w' => w'.cell? ⟨w.heap.size, 0, none⟩ = some (.int .i64 l) ∧ w'.cell? ⟨w.heap.size, 1, none⟩ = some (.int .i64 k) ∧ w'.cell? ⟨w.heap.size, 2, none⟩ = some (.int .i64 kd) ∧ w'.cell? ⟨w.heap.size, 3, none⟩ = some (.slice A n c) ∧ Below wr.heap.size wr w')
        (first | assumption | (exact rnk_keep4 (by assumption) (by assumption) HX2.out HX2.out HX2.out HX2.out) | (exact ⟨x0, x1, x2, x3, below_drew _⟩))
        (first
          | (go_at_call 18; (with_reducible refine (LRv.out _ (rnk_below4 (p := ⟨w.heap.size, 0, none⟩) (q := ⟨w.heap.size, 1, none⟩) (r := ⟨w.heap.size, 2, none⟩) (s := ⟨w.heap.size, 3, none⟩) (x := .int .i64 l) (y := .int .i64 k) (z := .int .i64 kd) (u := .slice A n c) (by assumption))).mono ?_); rintro e u1 ⟨rfl, hbu1⟩)
          | (go_at_call 19; (with_reducible refine (HRv.out _ (rnk_below4 (p := ⟨w.heap.size, 0, none⟩) (q := ⟨w.heap.size, 1, none⟩) (r := ⟨w.heap.size, 2, none⟩) (s := ⟨w.heap.size, 3, none⟩) (x := .int .i64 l) (y := .int .i64 k) (z := .int .i64 kd) (u := .slice A n c) (by assumption))).mono ?_); rintro e u2 ⟨rfl, hbu2⟩))
      rename_i hH
      have C2 : Hid (Below wr.heap.size wr u2) := hH.2.2.2.2
      clear hH x0 x1 x2 x3 hz e0 LRv HRv
      go_wp2_with fail
      refine (TL.out _ C2.out).mono ?_
      rintro e u3 ⟨rfl, hbu3⟩
      have C3 := Lib.hid (C2.out.trans (hbu3.mono C2.out.size))
      clear hbu3 TL
      go_wp2_with fail
      refine (TH.out _ C3.out).mono ?_
      rintro e u4 ⟨rfl, hbu4⟩
      have C4 := Lib.hid (C3.out.trans (hbu4.mono C3.out.size))
      clear hbu4 TH
      go_wp2_with fail
      refine (TO.out _ C4.out).mono ?_
      rintro e u5 ⟨rfl, hbu5⟩
      have C5 := Lib.hid (C4.out.trans (hbu5.mono C4.out.size))
      have C6 := Lib.hid (BW.out.trans (C5.out.mono BW.out.size))
      clear hbu5 TO
      go_wp2_with fail
      go_roundw
      case rel => exact ⟨j + 1, by omega, by go_num, C6.out⟩
      case measure => simp [intOf]; omega
    · obtain rfl : j = n2 := by omega
      go_wp2_with (go_at_call 13; refine (rnkAlive_any KK.out _).mono ?_; rintro e v7 ⟨rfl, hbv7⟩)
      go_ret
      exact ⟨rfl, FIN.out _ (BR.out.trans (hbv7.mono BR.out.size))⟩

end Go.Proofs.YtfmgcabgbnfjlaaGreat
