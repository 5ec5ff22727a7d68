/- The project's package bound: Sum, Mean. -/
import Derived.Test.YtkoefclkpdpdpaaGreatBoP1
import Derived.Test.YtkoefclkpdpdpaaGreatRkPlus
import Derived.Test.YtkoefclkpdpdpaaGreatMmy
import Derived.Deep.RegionHeld3
import Derived.Deep.Cut
namespace Go.Proofs.YtkoefclkpdpdpaaGreat
set_option linter.unusedVariables false
set_option maxRecDepth 100000
open Go.RowKit

/-- two boxes with sums of two words -/
structure BoSm (T : TypeId) (W w : World) (bl bh : Nat) (x y : Int) : Prop where
  rl : w.ownsRow W.heap.size T 2 (.slice (some ⟨bl, 0, none⟩) 1 1) 1 [.int .u64 (x % 18446744073709551616), .int .u64 (x / 18446744073709551616)]
  rh : w.ownsRow W.heap.size T 2 (.slice (some ⟨bh, 0, none⟩) 1 1) 1 [.int .u64 (y % 18446744073709551616), .int .u64 (y / 18446744073709551616)]
  ne : bl ≠ bh
  hb : Below W.heap.size W w
section
variable {T : TypeId} {W w : World} {bl bh : Nat} {x y : Int}
theorem BoSm.below {w' : World} (h : BoSm T W w bl bh x y) (q : Below w.heap.size w w') : BoSm T W w' bl bh x y := ⟨own_below h.rl q, own_below h.rh q, h.ne, h.hb.trans (q.mono h.hb.size)⟩
theorem BoSm.setl (h : BoSm T W w bl bh x y) (u : Int) : BoSm T W ((w.setCell ⟨bl, 0, none⟩ (.int .u64 (u % 18446744073709551616))).setCell ⟨bl, 1, none⟩ (.int .u64 (u / 18446744073709551616))) bl bh u y := by
  have b := box_set h.rl (.int .u64 (u % 18446744073709551616)) (.int .u64 (u / 18446744073709551616))
  exact ⟨b.1, b.2.2.2 _ _ _ _ _ _ (fun e => h.ne (by simp [Value.ownBlock] at e; exact e.symm)) h.rh, h.ne, h.hb.trans b.2.2.1⟩
theorem BoSm.seth (h : BoSm T W w bl bh x y) (u : Int) : BoSm T W ((w.setCell ⟨bh, 0, none⟩ (.int .u64 (u % 18446744073709551616))).setCell ⟨bh, 1, none⟩ (.int .u64 (u / 18446744073709551616))) bl bh x u := by
  have b := box_set h.rh (.int .u64 (u % 18446744073709551616)) (.int .u64 (u / 18446744073709551616))
  exact ⟨b.2.2.2 _ _ _ _ _ _ (fun e => h.ne (by simp [Value.ownBlock] at e; exact e)) h.rl, b.1, h.ne, h.hb.trans b.2.2.1⟩
theorem BoSm.new (T : TypeId) (W : World) : BoSm T W ((W.alloc (.cells #[.int .u64 0, .int .u64 0] T)).alloc (.cells #[.int .u64 0, .int .u64 0] T)) W.heap.size (W.heap.size + 1) 0 0 := by
  have e : (W.alloc (.cells #[.int .u64 0, .int .u64 0] T)).heap.size = W.heap.size + 1 := by simp
  have b := box2 (W.alloc (.cells #[.int .u64 0, .int .u64 0] T)) T (.int .u64 0) (.int .u64 0)
  rw [e] at b
  exact ⟨(box2 W T _ _).alloc _, own_low b (by omega), by omega, ((Below.refl _ _).alloc (Nat.le_refl _) _).alloc (by simp) _⟩
end
theorem boPlus_any (x a b : Int) (w : World) (x0 : 0 ≤ x) (A0 : 0 ≤ a) (A1 : a ≤ 9223372036854775807) (B0 : 0 ≤ b) (B1 : b ≤ 9223372036854775807) (h : x + a * b ≤ 340282366920938463463374607431768211455) :
    Calls Tryz.prog 44 #[.agg #[.int .u64 (x % 18446744073709551616), .int .u64 (x / 18446744073709551616)], .int .i64 a, .int .i64 b] w fun e w' =>
      e = .returned (.tuple #[.agg #[.int .u64 ((x + a * b) % 18446744073709551616), .int .u64 ((x + a * b) / 18446744073709551616)], .bool true]) ∧ Below w.heap.size w w' := by
  have p := Int.mul_nonneg A0 B0
  refine (rpPlus_any (x % 18446744073709551616) (x / 18446744073709551616) a b w (by omega) (by omega) (by omega) (by omega) (by omega) A1 (by omega) B1).mono ?_
  rintro e w' ⟨lo, hi, rfl, hb, ⟨l0, l1⟩, ⟨h0, h1⟩, eq, _⟩
  rw [wide_whole] at *
  have t : rpB x a b = true := rp_yes ⟨A0, B0, h⟩
  have q := eq t
  rw [t]
  generalize x + a * b = s at *
  have e1 : lo = s % 18446744073709551616 := by omega
  have e2 : hi = s / 18446744073709551616 := by omega
  rw [e1, e2]
  exact ⟨rfl, hb⟩
set_option maxHeartbeats 1600000 in
theorem boSum1_any (a z c : Int) {W w : World} {bl bh : Nat} {x y : Int} (h : BoSm 46 W w bl bh x y) (x0 : 0 ≤ x) (y0 : 0 ≤ y) (a0 : 0 ≤ a) (a1 : a ≤ 9223372036854775807) (z0 : 0 ≤ z) (z1 : z ≤ 9223372036854775807) (c0 : 0 ≤ c) (c1 : c ≤ 9223372036854775807)
    (hx : x + a * c ≤ 340282366920938463463374607431768211455) (hy : y + z * c ≤ 340282366920938463463374607431768211455) :
    Calls Tryz.prog 43 #[.int .i64 a, .int .i64 z, .int .i64 c, .pointer (some ⟨bl, 0, none⟩), .pointer (some ⟨bh, 0, none⟩)] w fun e w' =>
      e = .returned (.tuple #[]) ∧ BoSm 46 W w' bl bh (x + a * c) (y + z * c) ∧ Kp (fun i => i = bl ∨ i = bh) w w' := by
  have S0 := Lib.hid h
  have P1 := Lib.hid (fun v => boPlus_any x a c v x0 a0 a1 c0 c1 hx)
  have P2 := Lib.hid (fun v => boPlus_any y z c v y0 z0 z1 c0 c1 hy)
  obtain ⟨l0, l1, lf0, lf1, lz⟩ := box_cells h.rl
  clear h hx hy
  generalize x + a * c = s at *
  generalize y + z * c = u at *
  have xa : 0 ≤ x % 18446744073709551616 ∧ x % 18446744073709551616 ≤ 18446744073709551615 := by omega
  go_enter Tryz.func43, Tryz.ntmps43
  go_wp2_with fail
  refine (P1.out _).mono ?_
  rintro e w1 ⟨rfl, hb1⟩
  have S1 := Lib.hid (S0.out.below hb1)
  obtain ⟨l0, l1, lf0, lf1, lz⟩ := box_cells S1.out.rl
  have S2 := Lib.hid (S1.out.setl s)
  have K2 : Hid (Kp (fun i => i = bl ∨ i = bh) w ((w1.setCell ⟨bl, 0, none⟩ (.int .u64 (s % 18446744073709551616))).setCell ⟨bl, 1, none⟩ (.int .u64 (s / 18446744073709551616)))) :=
    (Kp.of (F := fun i => i = bl ∨ i = bh) hb1).trans ((Kp.setCell _ ⟨bl, 0, none⟩ _).trans (Kp.setCell _ ⟨bl, 1, none⟩ _) fun _ _ q => q) fun _ _ q => .inl q
  obtain ⟨h0, h1, hf0, hf1, hz⟩ := box_cells S2.out.rh
  clear hb1
  go_wp2_with fail
  refine (P2.out _).mono ?_
  rintro e w2 ⟨rfl, hb2⟩
  have S3 := Lib.hid (S2.out.below hb2)
  obtain ⟨h0, h1, hf0, hf1, hz⟩ := box_cells S3.out.rh
  have S4 := Lib.hid (S3.out.seth u)
  have K4 := Lib.hid ((K2.out.trans (Kp.of (F := fun i => i = bl ∨ i = bh) hb2) fun _ _ q => q).trans ((Kp.setCell _ ⟨bh, 0, none⟩ (.int .u64 (u % 18446744073709551616))).trans (Kp.setCell _ ⟨bh, 1, none⟩ (.int .u64 (u / 18446744073709551616))) fun _ _ q => q) fun _ _ q => .inr q)
  clear hb2
  go_wp2_with fail
  go_end0
  exact ⟨rfl, S4.out, K4.out⟩
theorem boSum_nil (w : World) : Calls Tryz.prog 15 #[.pointer none] w fun e w' => e = .returned (.tuple #[.agg #[.int .u64 0, .int .u64 0], .agg #[.int .u64 0, .int .u64 0]]) ∧ Below w.heap.size w w' := by
  have mf : ∀ (fn : Fn) (first cap : Array Value) (w : World), (Instr.makeFunc fn first cap).run Tryz.prog w = .ok (.func fn first cap) w := fun _ _ _ _ => rfl
  have N0 := Lib.hid (BoSm.new 46 w)
  go_enter Tryz.func15, Tryz.ntmps15
  go_wp2_with fail
  refine (boEach_nil _ _).mono ?_
  rintro e w3 ⟨rfl, hb3⟩
  have N3 := Lib.hid (N0.out.below hb3)
  have N4 := Lib.hid ((N3.out.setl (0)).seth (0))
  obtain ⟨l0, l1, lf0, lf1, lz⟩ := box_cells N3.out.rl
  obtain ⟨h0, h1, hf0, hf1, hz⟩ := box_cells N3.out.rh
  obtain ⟨a0, a1, _, _, _⟩ := box_cells N4.out.rl
  obtain ⟨b0, b1, _, _, _⟩ := box_cells N4.out.rh
  have BE := Lib.hid (N4.out.hb.trans ((below_drew _).mono N4.out.hb.size))
  simp only [Int.zero_emod, Int.zero_ediv] at l0 l1 h0 h1 a0 a1 b0 b1 BE
  clear hb3 N3 N4 N0
  go_wp2_with fail
  go_region
  all_goals (go_wp2_with fail; exact bodyPost_ret (v := .tuple #[.agg #[.int .u64 0, .int .u64 0], .agg #[.int .u64 0, .int .u64 0]]) (by simp [results, Tryz.results15, go_sem, a0, a1, b0, b1]) rfl ⟨rfl, BE.out⟩)
set_option maxHeartbeats 1600000 in
theorem boSum_any {B q p g h : Nat} {kd l k : Int} {n : Nat} {L : List Nd} (w : World) (d : DgA w B q p g h kd l k n L) (hn : n ≤ 400) :
    Calls Tryz.prog 15 #[.pointer (some ⟨q, 0, none⟩)] w fun e w' => e = .returned (.tuple #[.agg #[.int .u64 (suF (loN l) L % 18446744073709551616), .int .u64 (suF (loN l) L / 18446744073709551616)], .agg #[.int .u64 (suF (hiN l) L % 18446744073709551616), .int .u64 (suF (hiN l) L / 18446744073709551616)]]) ∧ Below w.heap.size w w' := by
  have mf : ∀ (fn : Fn) (first cap : Array Value) (w : World), (Instr.makeFunc fn first cap).run Tryz.prog w = .ok (.func fn first cap) w := fun _ _ _ _ => rfl
  have N0 := Lib.hid (BoSm.new 46 w)
  have hz : ((w.alloc (.cells #[.int .u64 0, .int .u64 0] 46)).alloc (.cells #[.int .u64 0, .int .u64 0] 46)).heap.size = w.heap.size + 2 := by simp
  have EA := Lib.hid (boEach_any (F := 43) (caps := #[.pointer (some ⟨w.heap.size, 0, none⟩), .pointer (some ⟨w.heap.size + 1, 0, none⟩)]) (I := fun j v => BoSm 46 w v w.heap.size (w.heap.size + 1) (suF (loN l) (L.take j)) (suF (hiN l) (L.take j))) _ (d.below N0.out.hb) (by omega)
    ⟨enters_of Tryz.func43 (by kernel_rfl) rfl, fun _ _ _ h b => h.below b, fun j hj v b => by
      have rv := roll_val d.v.roll
      have m := nd_mem hj
      have s1 := suF_parts d.v.roll (loN l) rv.1 j
      have s2 := suF_parts d.v.roll (loN l) rv.1 (j + 1)
      have t1 := suF_parts d.v.roll (hiN l) rv.2 j
      have t2 := suF_parts d.v.roll (hiN l) rv.2 (j + 1)
      have a := rv.1 _ m
      have z := rv.2 _ m
      have c := (nbds_roll d.v.roll _ m).2
      have p := good_nonneg (roll_good d.v.roll) _ m
      rw [suF_take _ hj] at s2 t2
      refine (boSum1_any (loN l (L.getD j nz).1) (hiN l (L.getD j nz).1) (L.getD j nz).2 b s1.1 t1.1 a.1 (by omega) z.1 (by omega) p c.2 (by omega) (by omega)).mono ?_
      rintro e v' ⟨rfl, h1, h2⟩
      refine ⟨rfl, ?_, EachKp.kp h2 fun i q => by rw [hz]; omega⟩
      show BoSm _ _ _ _ _ _ _
      rw [suF_take _ hj, suF_take _ hj]
      exact h1⟩ N0.out)
  rw [List.take_length] at EA
  clear d
  go_enter Tryz.func15, Tryz.ntmps15
  go_wp2_with fail
  refine EA.out.mono ?_
  rintro e w3 ⟨rfl, hB⟩
  have N3 := Lib.hid (hB)
  have N4 := Lib.hid ((N3.out.setl (suF (loN l) L)).seth (suF (hiN l) L))
  obtain ⟨l0, l1, lf0, lf1, lz⟩ := box_cells N3.out.rl
  obtain ⟨h0, h1, hf0, hf1, hz⟩ := box_cells N3.out.rh
  obtain ⟨a0, a1, _, _, _⟩ := box_cells N4.out.rl
  obtain ⟨b0, b1, _, _, _⟩ := box_cells N4.out.rh
  have BE := Lib.hid (N4.out.hb.trans ((below_drew _).mono N4.out.hb.size))
  clear hB N3 N4 N0 EA
  go_wp2_with fail
  go_region
  all_goals (go_wp2_with fail; exact bodyPost_ret (v := .tuple #[.agg #[.int .u64 (suF (loN l) L % 18446744073709551616), .int .u64 (suF (loN l) L / 18446744073709551616)], .agg #[.int .u64 (suF (hiN l) L % 18446744073709551616), .int .u64 (suF (hiN l) L / 18446744073709551616)]]) (by simp [results, Tryz.results15, go_sem, a0, a1, b0, b1]) rfl ⟨rfl, BE.out⟩)
theorem boOver_any (x n : Int) (w : World) (x0 : 0 ≤ x) (x1 : x ≤ 340282366920938463463374607431768211455) (n0 : 1 ≤ n) (n1 : n ≤ 9223372036854775807) (h : x / n ≤ 9223372036854775807) :
    Calls Tryz.prog 47 #[.agg #[.int .u64 (x % 18446744073709551616), .int .u64 (x / 18446744073709551616)], .int .i64 n] w fun e w' =>
      e = .returned (.tuple #[.int .i64 (x / n), .bool (x % n != 0), .bool true]) ∧ Below w.heap.size w w' := by
  refine (over_any (x % 18446744073709551616) (x / 18446744073709551616) n w (by omega) (by omega) (by omega) (by omega) (by omega) n1).mono ?_
  rintro e w' ⟨rfl, hb⟩
  rw [wide_whole]
  obtain ⟨a, b, c⟩ := over_in n0 x0
  rw [a, b, c, (nrw_yes h).1, (nrw_yes h).2]
  exact ⟨rfl, hb⟩
theorem boMean_nil (w : World) : Calls Tryz.prog 19 #[.pointer none] w fun e w' => e = .returned (.tuple #[.agg #[.int .i64 0, .int .i64 0], .int .i64 1]) ∧ Below w.heap.size w w' := by
  have X0 := Lib.hid (box2 w 36 (.int .i64 0) (.int .i64 0))
  have B0 : Hid (Below w.heap.size w (w.alloc (.cells #[.int .i64 0, .int .i64 0] 36))) := below_one _ _
  go_enter Tryz.func19, Tryz.ntmps19
  go_wp2_with fail
  generalize w.alloc (.cells #[.int .i64 0, .int .i64 0] 36) = W at *
  refine (boRefused_nil _).mono ?_
  rintro e w1 ⟨rfl, hb1⟩
  have R4 := Lib.hid (own_below X0.out hb1)
  obtain ⟨c0, c1, f0, f1, hz⟩ := box_cells R4.out
  obtain ⟨t0, t1, tb⟩ := bo_res R4.out (.int .i64 0) (.int .i64 0)
  have BE := Lib.hid ((B0.out.trans (hb1.mono B0.out.size)).trans tb)
  clear hb1 tb
  go_wp2_with fail
  exact bodyPost_ret (v := .tuple #[.agg #[.int .i64 0, .int .i64 0], .int .i64 1]) (by simp [results, Tryz.results19, go_sem, t0, t1]) rfl ⟨rfl, BE.out⟩
set_option maxHeartbeats 3200000 in
theorem boMean_any {B q p g h : Nat} {kd l k : Int} {n : Nat} {L : List Nd} (w : World) (d : DgA w B q p g h kd l k n L) (hn : n ≤ 400) :
    Calls Tryz.prog 19 #[.pointer (some ⟨q, 0, none⟩)] w fun e w' => e = .returned (.tuple #[.agg #[.int .i64 (boV L (meL l L)), .int .i64 (boV L (meH l L))], .int .i64 (boE L)]) ∧ Below w.heap.size w w' := by
  have X0 := Lib.hid (box2 w 36 (.int .i64 0) (.int .i64 0))
  have B0 : Hid (Below w.heap.size w (w.alloc (.cells #[.int .i64 0, .int .i64 0] 36))) := below_one _ _
  have RF := Lib.hid (fun v (hb : Below w.heap.size w v) => boRefused_any v (d.below hb) hn)
  by_cases hs : sumC L = 0
  · obtain ⟨e1, e2⟩ := bo_no hs
    rw [e1] at RF
    rw [e1, e2, e2]
    clear d e1 e2 hs
    go_enter Tryz.func19, Tryz.ntmps19
    go_wp2_with fail
    generalize w.alloc (.cells #[.int .i64 0, .int .i64 0] 36) = W at *
    refine (RF.out _ B0.out).mono ?_
    rintro e w1 ⟨rfl, hb1⟩
    have R4 := Lib.hid (own_below X0.out hb1)
    obtain ⟨c0, c1, f0, f1, hz⟩ := box_cells R4.out
    obtain ⟨t0, t1, tb⟩ := bo_res R4.out (.int .i64 0) (.int .i64 0)
    have BE := Lib.hid ((B0.out.trans (hb1.mono B0.out.size)).trans tb)
    clear hb1 tb
    go_wp2_with fail
    exact bodyPost_ret (v := .tuple #[.agg #[.int .i64 0, .int .i64 0], .int .i64 7]) (by simp [results, Tryz.results19, go_sem, t0, t1]) rfl ⟨rfl, BE.out⟩
  · obtain ⟨e1, e2⟩ := bo_yes hs
    rw [e1] at RF
    rw [e1, e2, e2]
    have SU := Lib.hid (fun v (hb : Below w.heap.size w v) => boSum_any v (d.below hb) hn)
    have NN := Lib.hid (fun v (hb : Below w.heap.size w v) => dgN_any v (d.below hb).box (d.below hb).po (by omega))
    have rv := roll_val d.v.roll
    obtain ⟨n0, n1, s0, s1, q0, q1⟩ := mean_parts d.v.roll hs (loN l) rv.1
    obtain ⟨_, _, t0, t1, r0, r1⟩ := mean_parts d.v.roll hs (hiN l) rv.2
    have O1 := Lib.hid (fun v => boOver_any (suF (loN l) L) (sumC L) v s0 (by omega) n0 (by omega) (by omega))
    have O2 := Lib.hid (fun v => boOver_any (suF (hiN l) L) (sumC L) v t0 (by omega) n0 (by omega) (by omega))
    have ML : Hid (meL l L = suF (loN l) L / sumC L) := rfl
    have MH : Hid (meH l L = if suF (hiN l) L % sumC L = 0 then suF (hiN l) L / sumC L else suF (hiN l) L / sumC L + 1) := rfl
    rw [ML.out, MH.out]
    clear d e1 e2 hs rv ML MH s0 s1 t0 t1
    generalize suF (loN l) L / sumC L = ql at *
    generalize suF (hiN l) L / sumC L = qh at *
    generalize suF (loN l) L % sumC L = rl at *
    generalize suF (hiN l) L % sumC L = rh at *
    generalize suF (loN l) L % 18446744073709551616 = a0 at *
    generalize suF (loN l) L / 18446744073709551616 = a1 at *
    generalize suF (hiN l) L % 18446744073709551616 = b0 at *
    generalize suF (hiN l) L / 18446744073709551616 = b1 at *
    generalize sumC L = N at *
    have hw : IntKind.i64.wrap (qh + 1) = qh + 1 := wrap_lit rfl (by omega) (by omega)
    obtain ⟨mh, hmh⟩ : ∃ m, m = if rh = 0 then qh else qh + 1 := ⟨_, rfl⟩
    rw [← hmh]
    go_enter Tryz.func19, Tryz.ntmps19
    go_wp2_with fail
    generalize w.alloc (.cells #[.int .i64 0, .int .i64 0] 36) = W at *
    refine (RF.out _ B0.out).mono ?_
    rintro e w1 ⟨rfl, hb1⟩
    have R1 := Lib.hid (own_below X0.out hb1)
    have B1 := Lib.hid (B0.out.trans (hb1.mono B0.out.size))
    clear hb1
    go_wp2_with fail
    refine (SU.out _ B1.out).mono ?_
    rintro e w2 ⟨rfl, hb2⟩
    have H2 := (hb2.alloc hb2.size (.cells #[.int .u64 a0, .int .u64 a1] 46)).alloc (by simp; have := hb2.size; omega) (.cells #[.int .u64 b0, .int .u64 b1] 46)
    have R2 := Lib.hid (own_below R1.out H2)
    have B2 := Lib.hid (B1.out.trans (H2.mono B1.out.size))
    have e2 : (w2.alloc (.cells #[.int .u64 a0, .int .u64 a1] 46)).heap.size = w2.heap.size + 1 := by simp
    have S2 := Lib.hid ((box2 w2 46 (.int .u64 a0) (.int .u64 a1)).alloc (.cells #[.int .u64 b0, .int .u64 b1] 46))
    have T2 := Lib.hid (box2 (w2.alloc (.cells #[.int .u64 a0, .int .u64 a1] 46)) 46 (.int .u64 b0) (.int .u64 b1))
    rw [e2] at T2
    clear hb2 H2 e2
    go_wp2_with fail
    generalize (w2.alloc (.cells #[.int .u64 a0, .int .u64 a1] 46)).alloc (.cells #[.int .u64 b0, .int .u64 b1] 46) = W2 at *
    obtain ⟨x0, x1, _, _, xz⟩ := box_cells S2.out
    obtain ⟨y0, y1, _, _, yz⟩ := box_cells T2.out
    have XZ := Lib.hid xz
    have YZ := Lib.hid yz
    clear xz yz
    go_region_held3 (fun w' => w'.cell? ⟨w2.heap.size, 0, none⟩ = some (.int .u64 a0) ∧ w'.cell? ⟨w2.heap.size, 1, none⟩ = some (.int .u64 a1) ∧ w'.cell? ⟨w2.heap.size + 1, 0, none⟩ = some (.int .u64 b0) ∧ w'.cell? ⟨w2.heap.size + 1, 1, none⟩ = some (.int .u64 b1) ∧ Below W2.heap.size W2 w')
      (first | assumption | (exact held4 (by assumption) G2 XZ.out XZ.out YZ.out YZ.out) | (exact held4 (by assumption) G1 XZ.out XZ.out YZ.out YZ.out) | (exact ⟨x0, x1, y0, y1, below_drew _⟩))
      (first
        | ((with_reducible refine (NN.out _ (B2.out.trans ((held4B (by assumption)).mono B2.out.size))).mono ?_); rintro e Gv1 ⟨rfl, G1⟩)
        | ((with_reducible refine (O1.out _).mono ?_); rintro e Gv2 ⟨rfl, G2⟩))
    rename_i hH
    obtain ⟨z0, z1, u0, u1, BY⟩ := hH
    have BYH := Lib.hid BY
    clear BY x0 x1 y0 y1
    go_wp2_with fail
    go_region_held3 (fun w' => w'.cell? ⟨w2.heap.size, 0, none⟩ = some (.int .u64 a0) ∧ w'.cell? ⟨w2.heap.size, 1, none⟩ = some (.int .u64 a1) ∧ w'.cell? ⟨w2.heap.size + 1, 0, none⟩ = some (.int .u64 b0) ∧ w'.cell? ⟨w2.heap.size + 1, 1, none⟩ = some (.int .u64 b1) ∧ Below W2.heap.size W2 w')
      (first | assumption | (exact held4 (by assumption) H2 XZ.out XZ.out YZ.out YZ.out) | (exact held4 (by assumption) H1 XZ.out XZ.out YZ.out YZ.out) | (exact ⟨z0, z1, u0, u1, drewN_below BYH.out 1⟩))
      (first
        | ((with_reducible refine (NN.out _ (B2.out.trans ((held4B (by assumption)).mono B2.out.size))).mono ?_); rintro e Hv1 ⟨rfl, H1⟩)
        | ((with_reducible refine (O2.out _).mono ?_); rintro e Hv2 ⟨rfl, H2⟩))
    rename_i hH
    have BZ := hH.2.2.2.2
    have R3 := Lib.hid (own_below R2.out BZ)
    have B3 := Lib.hid (B2.out.trans (BZ.mono B2.out.size))
    clear hH BZ z0 z1 u0 u1 BYH
    obtain ⟨c0, c1, f0, f1, hz⟩ := box_cells R3.out
    obtain ⟨t0, t1, tb⟩ := bo_res R3.out (.int .i64 ql) (.int .i64 mh)
    have BE := Lib.hid (B3.out.trans tb)
    clear tb
    by_cases hr : rh = 0
    · have hr' : (rh != 0) = false := by simp [hr]
      rw [if_pos hr] at hmh
      subst hmh
      rw [hr']
      clear hr hr'
      go_wp2_with fail
      exact bodyPost_ret (v := .tuple #[.agg #[.int .i64 ql, .int .i64 mh], .int .i64 0]) (by simp [results, Tryz.results19, go_sem, t0, t1]) rfl ⟨rfl, BE.out⟩
    · have hr' : (rh != 0) = true := by simp [hr]
      rw [if_neg hr] at hmh
      subst hmh
      rw [hr']
      clear hr hr'
      go_wp2_with fail
      exact bodyPost_ret (v := .tuple #[.agg #[.int .i64 ql, .int .i64 (qh + 1)], .int .i64 0]) (by simp [results, Tryz.results19, go_sem, t0, t1]) rfl ⟨rfl, BE.out⟩

end Go.Proofs.YtkoefclkpdpdpaaGreat
