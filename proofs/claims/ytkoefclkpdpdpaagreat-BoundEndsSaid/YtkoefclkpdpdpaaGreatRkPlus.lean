/- The project's package reckon, for the layers above it: Plus, compare, Order. -/
import Derived.Test.YtkoefclkpdpdpaaGreatDvQ
namespace Go.Proofs.YtkoefclkpdpdpaaGreat
set_option linter.unusedVariables false
open Go.RowKit

def rpB (x a b : Int) : Bool := onB (0 ≤ a ∧ 0 ≤ b ∧ x + a * b ≤ 340282366920938463463374607431768211455)
theorem rp_yes {x a b : Int} (h : 0 ≤ a ∧ 0 ≤ b ∧ x + a * b ≤ 340282366920938463463374607431768211455) : rpB x a b = true := decide_eq_true h
theorem rp_no {x a b : Int} (h : ¬ (0 ≤ a ∧ 0 ≤ b ∧ x + a * b ≤ 340282366920938463463374607431768211455)) : rpB x a b = false := decide_eq_false h
theorem rp_seg_two (w : World) (a b : Int) (t : TypeId) (g : Nat) (hg : g = w.heap.size) : Seg (w.alloc (.cells #[.int .i64 a, .int .i64 b] t)) (.slice (some ⟨g, 0, none⟩) 2 2) [a, b] := by
  subst hg; exact seg_two w a b t

theorem rp_frozen_none (w : World) (a : Addr) (h : w.heap.size ≤ a.block) : w.frozen? a = false := by
  simp [World.frozen?, Array.getElem?_eq_none h]

theorem rp_two_set (w1 : World) (g : Nat) (x y u v : Value) (o : Obj) (h0 : w1.cell? ⟨g, 0, none⟩ = some x) (h1 : w1.cell? ⟨g, 1, none⟩ = some y) (hg : g < w1.heap.size) :
    (((w1.setCell ⟨g, 0, none⟩ u).setCell ⟨g, 1, none⟩ v).alloc o).cell? ⟨g, 0, none⟩ = some u ∧ (((w1.setCell ⟨g, 0, none⟩ u).setCell ⟨g, 1, none⟩ v).alloc o).cell? ⟨g, 1, none⟩ = some v := by
  constructor
  · rw [World.cell?_alloc_past _ _ _ (by simpa [World.setCell] using hg)]
    rw [World.cell?_setCell_other _ _ _ _ (by simp)]
    exact World.cell?_setCell_same _ _ _ h0
  · rw [World.cell?_alloc_past _ _ _ (by simpa [World.setCell] using hg)]
    refine World.cell?_setCell_same _ _ _ (u := y) ?_
    rw [World.cell?_setCell_other _ _ _ _ (by simp)]
    exact h1

/-- what the project's Plus answers -/
def RpPlus (x a b : Int) (w w' : World) (e : Ending) : Prop :=
  ∃ lo hi, e = .returned (.tuple #[.agg #[.int .u64 lo, .int .u64 hi], .bool (rpB x a b)]) ∧ Below w.heap.size w w' ∧ (0 ≤ lo ∧ lo ≤ 18446744073709551615) ∧ (0 ≤ hi ∧ hi ≤ 18446744073709551615) ∧
    (rpB x a b = true → hi * 18446744073709551616 + lo = x + a * b) ∧ (rpB x a b = false → lo = 0 ∧ hi = 0)
theorem rpAdd64_any (x y c : Int) (hx : 0 ≤ x) (hy : 0 ≤ y) (c0 : 0 ≤ c) (c1 : c ≤ 1) (w : World) :
    (callFunc 87 #[.int .u64 x, .int .u64 y, .int .u64 c]).run Tryz.prog w =
      .ok (.value (.tuple #[.int .u64 ((x + y + c) % 18446744073709551616), .int .u64 ((x + y + c) / 18446744073709551616)])) w := by
  obtain ⟨x, rfl⟩ := Int.eq_ofNat_of_zero_le hx
  obtain ⟨y, rfl⟩ := Int.eq_ofNat_of_zero_le hy
  obtain ⟨c, rfl⟩ := Int.eq_ofNat_of_zero_le c0
  refine (Any7.bits_Add64 Tryz.lays25 x y c (by omega) w).trans ?_
  rw [Int.natCast_emod, Int.natCast_ediv, Int.natCast_add, Int.natCast_add]
  rfl
theorem rpAdd64_none (x y : Int) (hx : 0 ≤ x) (hy : 0 ≤ y) (w : World) :
    (callFunc 87 #[.int .u64 x, .int .u64 y, .int .u64 0]).run Tryz.prog w =
      .ok (.value (.tuple #[.int .u64 ((x + y) % 18446744073709551616), .int .u64 ((x + y) / 18446744073709551616)])) w := by
  have h := rpAdd64_any x y 0 hx hy (by decide) (by decide) w
  rw [Int.add_zero] at h
  exact h

set_option maxHeartbeats 1600000 in
theorem rpPlus_any (lo hi a b : Int) (w : World) (l0 : 0 ≤ lo) (l1 : lo ≤ 18446744073709551615) (h0 : 0 ≤ hi) (h1 : hi ≤ 18446744073709551615)
    (A0 : -9223372036854775808 ≤ a) (A1 : a ≤ 9223372036854775807) (B0 : -9223372036854775808 ≤ b) (B1 : b ≤ 9223372036854775807) :
    Calls Tryz.prog 44 #[.agg #[.int .u64 lo, .int .u64 hi], .int .i64 a, .int .i64 b] w fun e w' => RpPlus (hi * 18446744073709551616 + lo) a b w w' e := by
  by_cases h : 0 ≤ a ∧ 0 ≤ b
  · have hc : cntB [a, b] = true := by rw [cnt_two]; exact decide_eq_true h
    obtain ⟨h1', h2'⟩ := h
    have p := mul_words h1' h2' A1 B1
    go_enter Tryz.func44, Tryz.ntmps44
    go_wp2_with fail
    refine (counts_any _ [a, b] _ (rp_seg_two _ _ _ _ _ (by simp)) (by simp)).mono ?_
    rintro e w' ⟨rfl, rfl⟩
    go_wp2_with fail
    refine (product_any _ _ _ (by omega) (by omega) (by omega) (by omega)).mono ?_
    rintro e w1 ⟨rfl, G1⟩
    have zz : (((w.alloc (.cells #[.int .u64 lo, .int .u64 hi] 46)).alloc (.cells #[.int .u64 0, .int .u64 0] 46)).alloc (.cells #[.int .i64 a, .int .i64 b] 3)).heap.size = w.heap.size + 3 := by simp
    have c0 : w1.cell? ⟨w.heap.size, 0, none⟩ = some (.int .u64 lo) := (G1.cell (p := ⟨w.heap.size, 0, none⟩) (by rw [zz]; show w.heap.size < _; omega)).trans (by rw [World.cell?_alloc_past _ _ _ (by simp; omega), World.cell?_alloc_past _ _ _ (by simp), World.cell?_alloc_at _ _ _ _ rfl]; rfl)
    have c1 : w1.cell? ⟨w.heap.size, 1, none⟩ = some (.int .u64 hi) := (G1.cell (p := ⟨w.heap.size, 1, none⟩) (by rw [zz]; show w.heap.size < _; omega)).trans (by rw [World.cell?_alloc_past _ _ _ (by simp; omega), World.cell?_alloc_past _ _ _ (by simp), World.cell?_alloc_at _ _ _ _ rfl]; rfl)
    have r0 : w1.cell? ⟨w.heap.size + 1, 0, none⟩ = some (.int .u64 0) := (G1.cell (p := ⟨w.heap.size + 1, 0, none⟩) (by rw [zz]; show w.heap.size + 1 < _; omega)).trans (by rw [World.cell?_alloc_past _ _ _ (by simp), World.cell?_alloc_at _ _ _ _ (by simp)]; rfl)
    have r1 : w1.cell? ⟨w.heap.size + 1, 1, none⟩ = some (.int .u64 0) := (G1.cell (p := ⟨w.heap.size + 1, 1, none⟩) (by rw [zz]; show w.heap.size + 1 < _; omega)).trans (by rw [World.cell?_alloc_past _ _ _ (by simp), World.cell?_alloc_at _ _ _ _ (by simp)]; rfl)
    have f0 : w1.frozen? ⟨w.heap.size + 1, 0, none⟩ = false := (G1.frozen (p := ⟨w.heap.size + 1, 0, none⟩) (by rw [zz]; show w.heap.size + 1 < _; omega)).trans (by rw [frozen?_alloc_cells, frozen?_alloc_cells, frozen?_alloc_cells]; exact rp_frozen_none _ _ (by simp))
    have f1 : w1.frozen? ⟨w.heap.size + 1, 1, none⟩ = false := (G1.frozen (p := ⟨w.heap.size + 1, 1, none⟩) (by rw [zz]; show w.heap.size + 1 < _; omega)).trans (by rw [frozen?_alloc_cells, frozen?_alloc_cells, frozen?_alloc_cells]; exact rp_frozen_none _ _ (by simp))
    have z1 := G1.size
    rw [zz] at z1
    have y0 : w.heap.size < w1.heap.size := by omega
    have y1 : w.heap.size + 1 < w1.heap.size := by omega
    have Bw1 : Below w.heap.size w w1 := (((below_one _ _).alloc (by simp) _).alloc (by simp; omega) _).trans (G1.mono (by rw [zz]; omega))
    clear G1 zz hc
    have HP : Hid (a * b / 18446744073709551616 * 18446744073709551616 + a * b % 18446744073709551616 = a * b) := wide_whole (a * b)
    have pl0 : 0 ≤ a * b % 18446744073709551616 := by omega
    have pl1 : a * b % 18446744073709551616 ≤ 18446744073709551615 := by omega
    have ph0 : 0 ≤ a * b / 18446744073709551616 := by omega
    have ph1 : a * b / 18446744073709551616 ≤ 4611686018427387904 := by omega
    clear p
    generalize a * b % 18446744073709551616 = pl at *
    generalize a * b / 18446744073709551616 = ph at *
    have k0 : 0 ≤ (lo + pl) / 18446744073709551616 := by omega
    have k1 : (lo + pl) / 18446744073709551616 ≤ 1 := by omega
    by_cases hv : (hi + ph + (lo + pl) / 18446744073709551616) / 18446744073709551616 = 0
    · have hv' : ((hi + ph + (lo + pl) / 18446744073709551616) / 18446744073709551616 != 0) = false := by simp [hv]
      have H := Lib.hid (rp_yes (x := hi * 18446744073709551616 + lo) (a := a) (b := b) ⟨h1', h2', by have := HP.out; omega⟩)
      have HX : Hid ((hi + ph + (lo + pl) / 18446744073709551616) % 18446744073709551616 * 18446744073709551616 + (lo + pl) % 18446744073709551616 = hi * 18446744073709551616 + lo + a * b) := by
        have := HP.out; show _ = _; omega
      clear hv
      go_wp2_with (first | simp only [rpAdd64_none lo pl l0 pl0] | simp only [rpAdd64_any hi ph _ h0 ph0 k0 k1])
      have T := rp_two_set w1 (w.heap.size + 1) _ _ (.int .u64 ((lo + pl) % 18446744073709551616)) (.int .u64 ((hi + ph + (lo + pl) / 18446744073709551616) % 18446744073709551616)) (.cells #[.int .u64 pl, .int .u64 ph] 46) r0 r1 y1
      refine bodyPost_ret (v := .tuple #[.agg #[.int .u64 ((lo + pl) % 18446744073709551616), .int .u64 ((hi + ph + (lo + pl) / 18446744073709551616) % 18446744073709551616)], .bool true]) (by simp [results, Tryz.results44, go_sem, T.1, T.2]) rfl ?_
      refine ⟨_, _, by rw [H.out], ?_, by omega, by omega, fun _ => HX.out, fun g => by rw [H.out] at g; cases g⟩
      exact ((Bw1.setCell (p := ⟨w.heap.size + 1, 0, none⟩) (by simp) _).setCell (p := ⟨w.heap.size + 1, 1, none⟩) (by simp) _).alloc (by simp [World.setCell]; omega) _
    · have hv' : ((hi + ph + (lo + pl) / 18446744073709551616) / 18446744073709551616 != 0) = true := by simp [hv]
      have H := Lib.hid (rp_no (x := hi * 18446744073709551616 + lo) (a := a) (b := b) (by have := HP.out; omega))
      clear hv
      go_wp2_with (first | simp only [rpAdd64_none lo pl l0 pl0] | simp only [rpAdd64_any hi ph _ h0 ph0 k0 k1])
      have T := rp_two_set w1 (w.heap.size + 1) _ _ (.int .u64 0) (.int .u64 0) (.cells #[.int .u64 pl, .int .u64 ph] 46) r0 r1 y1
      refine bodyPost_ret (v := .tuple #[.agg #[.int .u64 0, .int .u64 0], .bool false]) (by simp [results, Tryz.results44, go_sem, T.1, T.2]) rfl ?_
      refine ⟨0, 0, by rw [H.out], ?_, by omega, by omega, fun g => (by rw [H.out] at g; cases g), fun _ => ⟨rfl, rfl⟩⟩
      exact ((Bw1.setCell (p := ⟨w.heap.size + 1, 0, none⟩) (by simp) _).setCell (p := ⟨w.heap.size + 1, 1, none⟩) (by simp) _).alloc (by simp [World.setCell]; omega) _
  · have hc : cntB [a, b] = false := by rw [cnt_two]; exact decide_eq_false h
    have H := Lib.hid (rp_no (x := hi * 18446744073709551616 + lo) (a := a) (b := b) (fun g => h ⟨g.1, g.2.1⟩))
    clear h
    go_enter Tryz.func44, Tryz.ntmps44
    go_wp2_with fail
    refine (counts_any _ [a, b] _ (rp_seg_two _ _ _ _ _ (by simp)) (by simp)).mono ?_
    rintro e w' ⟨rfl, rfl⟩
    go_wp2_with fail
    refine bodyPost_ret (v := .tuple #[.agg #[.int .u64 0, .int .u64 0], .bool false]) (by simp [results, Tryz.results44, go_sem]) rfl ?_
    refine ⟨0, 0, by rw [H.out], ?_, by omega, by omega, fun g => (by rw [H.out] at g; cases g), fun _ => ⟨rfl, rfl⟩⟩
    exact ((below_one _ _).alloc (by simp) _).alloc (by simp; omega) _
set_option maxHeartbeats 1600000 in
theorem rpCompare_any (vl vh ul uh : Int) (w : World) (a0 : 0 ≤ vl) (a1 : vl ≤ 18446744073709551615) (b0 : 0 ≤ vh) (b1 : vh ≤ 18446744073709551615) (c0 : 0 ≤ ul) (c1 : ul ≤ 18446744073709551615) (d0 : 0 ≤ uh) (d1 : uh ≤ 18446744073709551615) :
    Calls Tryz.prog 95 #[.agg #[.int .u64 vl, .int .u64 vh], .agg #[.int .u64 ul, .int .u64 uh]] w fun e w' =>
      e = .returned (.int .i64 (cmp3 (vh * 18446744073709551616 + vl) (uh * 18446744073709551616 + ul))) ∧ Below w.heap.size w w' := by
  have i0 : ∀ w, (Instr.index 172 (.agg #[.int .i64 1, .int .i64 0]) (.int .i64 0)).run Tryz.prog w = .ok (.int .i64 1) w := fun _ => by kernel_rfl
  have i1 : ∀ w, (Instr.index 172 (.agg #[.int .i64 1, .int .i64 0]) (.int .i64 1)).run Tryz.prog w = .ok (.int .i64 0) w := fun _ => by kernel_rfl
  go_enter Tryz.func95, Tryz.ntmps95
  go_wp2_with fail
  have g0 : ((w.alloc (.cells #[.int .u64 vl, .int .u64 vh] 46)).alloc (.cells #[.int .u64 ul, .int .u64 uh] 46)).cell? ⟨w.heap.size, 0, none⟩ = some (.int .u64 vl) := by
    rw [World.cell?_alloc_past _ _ _ (by simp), World.cell?_alloc_at _ _ _ _ rfl]; rfl
  have g1 : ((w.alloc (.cells #[.int .u64 vl, .int .u64 vh] 46)).alloc (.cells #[.int .u64 ul, .int .u64 uh] 46)).cell? ⟨w.heap.size, 1, none⟩ = some (.int .u64 vh) := by
    rw [World.cell?_alloc_past _ _ _ (by simp), World.cell?_alloc_at _ _ _ _ rfl]; rfl
  have g2 : ((w.alloc (.cells #[.int .u64 vl, .int .u64 vh] 46)).alloc (.cells #[.int .u64 ul, .int .u64 uh] 46)).cell? ⟨w.heap.size + 1, 0, none⟩ = some (.int .u64 ul) := by
    rw [World.cell?_alloc_at _ _ _ _ (by simp)]; rfl
  have g3 : ((w.alloc (.cells #[.int .u64 vl, .int .u64 vh] 46)).alloc (.cells #[.int .u64 ul, .int .u64 uh] 46)).cell? ⟨w.heap.size + 1, 1, none⟩ = some (.int .u64 uh) := by
    rw [World.cell?_alloc_at _ _ _ _ (by simp)]; rfl
  have hb : Below w.heap.size w ((w.alloc (.cells #[.int .u64 vl, .int .u64 vh] 46)).alloc (.cells #[.int .u64 ul, .int .u64 uh] 46)) := (below_one _ _).alloc (by simp) _
  generalize (w.alloc (.cells #[.int .u64 vl, .int .u64 vh] 46)).alloc (.cells #[.int .u64 ul, .int .u64 uh] 46) = w0 at *
  go_loopw [8] (fun i wr => ∃ k : Int, i = .int .i64 k ∧ 0 ≤ k ∧ k ≤ 2 ∧ Hid (1 ≤ k → vh = uh) ∧ Hid (2 ≤ k → vl = ul) ∧ ∃ q, wr = w0.drewN q) (fun i _ => (2 - intOf i).toNat)
  case atStart => exact ⟨0, rfl, by decide, by decide, fun h => absurd h (by decide), fun h => absurd h (by decide), 0, rfl⟩
  case round =>
    obtain ⟨k, rfl, k0, k2, HH, HL, q, rfl⟩ := hrel
    rcases (show k = 0 ∨ k = 1 ∨ k = 2 by omega) with rfl | rfl | rfl
    · rcases (show vh < uh ∨ (¬ vh < uh ∧ uh < vh) ∨ (¬ vh < uh ∧ ¬ uh < vh) by omega) with h | h | h
      · have H := Lib.hid (cmp3_lt (show vh * 18446744073709551616 + vl < uh * 18446744073709551616 + ul by omega))
        clear HH HL
        go_wp2_with fail
        go_quiet (fail)
        go_wp2_with fail
        go_ret
        exact ⟨by rw [H.out]; rfl, by repeat (first | exact hb | refine below_drewN ?_ _)⟩
      · have H := Lib.hid (cmp3_gt (show uh * 18446744073709551616 + ul < vh * 18446744073709551616 + vl by omega))
        clear HH HL
        obtain ⟨h3, h4⟩ := h
        go_wp2_with fail
        go_quiet (fail)
        go_wp2_with fail
        go_quiet (fail)
        go_wp2_with fail
        go_ret
        exact ⟨by rw [H.out]; rfl, by repeat (first | exact hb | refine below_drewN ?_ _)⟩
      · obtain ⟨h3, h4⟩ := h
        clear HH HL
        go_wp2_with fail
        go_quiet (fail)
        go_wp2_with fail
        go_quiet (fail)
        go_wp2_with fail
        go_roundw
        case rel => exact ⟨1, rfl, by decide, by decide, fun _ => by omega, fun h => absurd h (by decide), _, rfl⟩
        case measure => simp [intOf]
    · rcases (show vl < ul ∨ (¬ vl < ul ∧ ul < vl) ∨ (¬ vl < ul ∧ ¬ ul < vl) by omega) with h | h | h
      · have H := Lib.hid (cmp3_lt (show vh * 18446744073709551616 + vl < uh * 18446744073709551616 + ul by have := HH.out (by decide); omega))
        go_wp2_with fail
        go_quiet (fail)
        go_wp2_with fail
        go_ret
        exact ⟨by rw [H.out]; rfl, by repeat (first | exact hb | refine below_drewN ?_ _)⟩
      · have H := Lib.hid (cmp3_gt (show uh * 18446744073709551616 + ul < vh * 18446744073709551616 + vl by have := HH.out (by decide); omega))
        obtain ⟨h3, h4⟩ := h
        go_wp2_with fail
        go_quiet (fail)
        go_wp2_with fail
        go_quiet (fail)
        go_wp2_with fail
        go_ret
        exact ⟨by rw [H.out]; rfl, by repeat (first | exact hb | refine below_drewN ?_ _)⟩
      · obtain ⟨h3, h4⟩ := h
        go_wp2_with fail
        go_quiet (fail)
        go_wp2_with fail
        go_quiet (fail)
        go_wp2_with fail
        go_roundw
        case rel => exact ⟨2, rfl, by decide, by decide, fun _ => HH.out (by decide), fun _ => by omega, _, rfl⟩
        case measure => simp [intOf]
    · have e := cmp3_eq (show vh * 18446744073709551616 + vl = uh * 18446744073709551616 + ul by rw [HH.out (by decide), HL.out (by decide)])
      have H := Lib.hid e
      clear e HH HL
      go_wp2_with fail
      go_ret
      exact ⟨by rw [H.out]; rfl, by repeat (first | exact hb | refine below_drewN ?_ _)⟩
set_option maxHeartbeats 800000 in
theorem rpOrder_any (a b c d : Int) (w : World) (A0 : -9223372036854775808 ≤ a) (A1 : a ≤ 9223372036854775807) (B0 : -9223372036854775808 ≤ b) (B1 : b ≤ 9223372036854775807) (C0 : -9223372036854775808 ≤ c) (C1 : c ≤ 9223372036854775807) (D0 : -9223372036854775808 ≤ d) (D1 : d ≤ 9223372036854775807) :
    Calls Tryz.prog 53 #[.int .i64 a, .int .i64 b, .int .i64 c, .int .i64 d] w fun e w' => Ans2 (ordN a b c d) (ordB a b c d) w w' e := by
  by_cases h : ordC a b c d
  · have hc : cntB [a, b, c, d] = true := by rw [cnt_four]; exact decide_eq_true h
    have H := Lib.hid (ord_yes h)
    obtain ⟨h1, h2, h3, h4⟩ := h
    have p := mul_words h1 h2 A1 B1
    have q := mul_words h3 h4 C1 D1
    go_enter Tryz.func53, Tryz.ntmps53
    go_wp2_with (go_at_call 85; refine (counts_any _ [a, b, c, d] _ (seg_four _ _ _ _ _ _) (by simp)).mono ?_; rintro e w' ⟨rfl, rfl⟩)
    refine (product_any _ _ _ (by omega) (by omega) (by omega) (by omega)).mono ?_
    rintro e w1 ⟨rfl, G1⟩
    go_wp2_with fail
    refine (product_any _ _ _ (by omega) (by omega) (by omega) (by omega)).mono ?_
    rintro e w2 ⟨rfl, G2⟩
    go_wp2_with fail
    refine (rpCompare_any _ _ _ _ _ (by omega) (by omega) (by omega) (by omega) (by omega) (by omega) (by omega) (by omega)).mono ?_
    rintro e w3 ⟨rfl, G3⟩
    rw [wide_whole (a * b), wide_whole (c * d)]
    go_wp2_with fail
    go_ret2
    have z1 := G1.size
    simp at z1
    have z2 := G2.size
    exact ans2 H.out ((((below_one _ _).trans (G1.mono (by simp))).trans (G2.mono (by omega))).trans (G3.mono (by omega)))
  · have hc : cntB [a, b, c, d] = false := by rw [cnt_four]; exact decide_eq_false h
    have H := Lib.hid (ord_no h)
    clear h
    go_enter Tryz.func53, Tryz.ntmps53
    go_wp2_with (go_at_call 85; refine (counts_any _ [a, b, c, d] _ (seg_four _ _ _ _ _ _) (by simp)).mono ?_; rintro e w' ⟨rfl, rfl⟩)
    go_ret2
    exact ans2 H.out (below_one _ _)

end Go.Proofs.YtkoefclkpdpdpaaGreat
