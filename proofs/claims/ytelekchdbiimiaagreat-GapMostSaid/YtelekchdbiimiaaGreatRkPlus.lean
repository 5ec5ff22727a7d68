/- The project's package reckon, for the layers above it: Plus, compare, Order. -/
import Derived.Test.YtelekchdbiimiaaGreatDvQ
namespace Go.Proofs.YtelekchdbiimiaaGreat
set_option linter.unusedVariables false
open Go.RowKit
set_option maxHeartbeats 1600000 in
theorem rpCompare_any (vl vh ul uh : Int) (w : World) (a0 : 0 ≤ vl) (a1 : vl ≤ 18446744073709551615) (b0 : 0 ≤ vh) (b1 : vh ≤ 18446744073709551615) (c0 : 0 ≤ ul) (c1 : ul ≤ 18446744073709551615) (d0 : 0 ≤ uh) (d1 : uh ≤ 18446744073709551615) :
    Calls Tryz.prog 145 #[.agg #[.int .u64 vl, .int .u64 vh], .agg #[.int .u64 ul, .int .u64 uh]] w fun e w' =>
      e = .returned (.int .i64 (cmp3 (vh * 18446744073709551616 + vl) (uh * 18446744073709551616 + ul))) ∧ Below w.heap.size w w' := by
  have i0 : ∀ w, (Instr.index 54 (.agg #[.int .i64 1, .int .i64 0]) (.int .i64 0)).run Tryz.prog w = .ok (.int .i64 1) w := fun _ => by kernel_rfl
  have i1 : ∀ w, (Instr.index 54 (.agg #[.int .i64 1, .int .i64 0]) (.int .i64 1)).run Tryz.prog w = .ok (.int .i64 0) w := fun _ => by kernel_rfl
  go_enter Tryz.func145, Tryz.ntmps145
  go_wp2_with fail
  have g0 : ((w.alloc (.cells #[.int .u64 vl, .int .u64 vh] 192)).alloc (.cells #[.int .u64 ul, .int .u64 uh] 192)).cell? ⟨w.heap.size, 0, none⟩ = some (.int .u64 vl) := by
    rw [World.cell?_alloc_past _ _ _ (by simp), World.cell?_alloc_at _ _ _ _ rfl]; rfl
  have g1 : ((w.alloc (.cells #[.int .u64 vl, .int .u64 vh] 192)).alloc (.cells #[.int .u64 ul, .int .u64 uh] 192)).cell? ⟨w.heap.size, 1, none⟩ = some (.int .u64 vh) := by
    rw [World.cell?_alloc_past _ _ _ (by simp), World.cell?_alloc_at _ _ _ _ rfl]; rfl
  have g2 : ((w.alloc (.cells #[.int .u64 vl, .int .u64 vh] 192)).alloc (.cells #[.int .u64 ul, .int .u64 uh] 192)).cell? ⟨w.heap.size + 1, 0, none⟩ = some (.int .u64 ul) := by
    rw [World.cell?_alloc_at _ _ _ _ (by simp)]; rfl
  have g3 : ((w.alloc (.cells #[.int .u64 vl, .int .u64 vh] 192)).alloc (.cells #[.int .u64 ul, .int .u64 uh] 192)).cell? ⟨w.heap.size + 1, 1, none⟩ = some (.int .u64 uh) := by
    rw [World.cell?_alloc_at _ _ _ _ (by simp)]; rfl
  have hb : Below w.heap.size w ((w.alloc (.cells #[.int .u64 vl, .int .u64 vh] 192)).alloc (.cells #[.int .u64 ul, .int .u64 uh] 192)) := (below_one _ _).alloc (by simp) _
  generalize (w.alloc (.cells #[.int .u64 vl, .int .u64 vh] 192)).alloc (.cells #[.int .u64 ul, .int .u64 uh] 192) = w0 at *
  go_loopw [8] (fun i wr => ∃ k : Int, i = .int .i64 k ∧ 0 ≤ k ∧ k ≤ 2 ∧ Hid (1 ≤ k → vh = uh) ∧ Hid (2 ≤ k → vl = ul) ∧ ∃ q, wr = w0.drewN q) (fun i _ => (2 - intOf i).toNat)
  case atStart => exact ⟨0, rfl, by decide, by decide, fun h => absurd h (by decide), fun h => absurd h (by decide), 0, rfl⟩
  case round =>
    obtain ⟨k, rfl, k0, k2, HH, HL, q, rfl⟩ := hrel
    rcases (show k = 0 ∨ k = 1 ∨ k = 2 by omega) with rfl | rfl | rfl
    · rcases (show vh < uh ∨ (¬ vh < uh ∧ uh < vh) ∨ (¬ vh < uh ∧ ¬ uh < vh) by omega) with h | h | h
      · have H := Lib.hid (cmp3_lt (show vh * 18446744073709551616 + vl < uh * 18446744073709551616 + ul by omega))
        clear HH HL
        go_wp2_with fail
        go_quiet (fail)
        go_wp2_with fail
        go_ret
        exact ⟨by rw [H.out]; rfl, by repeat (first | exact hb | refine below_drewN ?_ _)⟩
      · have H := Lib.hid (cmp3_gt (show uh * 18446744073709551616 + ul < vh * 18446744073709551616 + vl by omega))
        clear HH HL
        obtain ⟨h3, h4⟩ := h
        go_wp2_with fail
        go_quiet (fail)
        go_wp2_with fail
        go_quiet (fail)
        go_wp2_with fail
        go_ret
        exact ⟨by rw [H.out]; rfl, by repeat (first | exact hb | refine below_drewN ?_ _)⟩
      · obtain ⟨h3, h4⟩ := h
        clear HH HL
        go_wp2_with fail
        go_quiet (fail)
        go_wp2_with fail
        go_quiet (fail)
        go_wp2_with fail
        go_roundw
        case rel => exact ⟨1, rfl, by decide, by decide, fun _ => by omega, fun h => absurd h (by decide), _, rfl⟩
        case measure => simp [intOf]
    · rcases (show vl < ul ∨ (¬ vl < ul ∧ ul < vl) ∨ (¬ vl < ul ∧ ¬ ul < vl) by omega) with h | h | h
      · have H := Lib.hid (cmp3_lt (show vh * 18446744073709551616 + vl < uh * 18446744073709551616 + ul by have := HH.out (by decide); omega))
        go_wp2_with fail
        go_quiet (fail)
        go_wp2_with fail
        go_ret
        exact ⟨by rw [H.out]; rfl, by repeat (first | exact hb | refine below_drewN ?_ _)⟩
      · have H := Lib.hid (cmp3_gt (show uh * 18446744073709551616 + ul < vh * 18446744073709551616 + vl by have := HH.out (by decide); omega))
        obtain ⟨h3, h4⟩ := h
        go_wp2_with fail
        go_quiet (fail)
        go_wp2_with fail
        go_quiet (fail)
        go_wp2_with fail
        go_ret
        exact ⟨by rw [H.out]; rfl, by repeat (first | exact hb | refine below_drewN ?_ _)⟩
      · obtain ⟨h3, h4⟩ := h
        go_wp2_with fail
        go_quiet (fail)
        go_wp2_with fail
        go_quiet (fail)
        go_wp2_with fail
        go_roundw
        case rel => exact ⟨2, rfl, by decide, by decide, fun _ => HH.out (by decide), fun _ => by omega, _, rfl⟩
        case measure => simp [intOf]
    · have e := cmp3_eq (show vh * 18446744073709551616 + vl = uh * 18446744073709551616 + ul by rw [HH.out (by decide), HL.out (by decide)])
      have H := Lib.hid e
      clear e HH HL
      go_wp2_with fail
      go_ret
      exact ⟨by rw [H.out]; rfl, by repeat (first | exact hb | refine below_drewN ?_ _)⟩
set_option maxHeartbeats 800000 in
theorem rpOrder_any (a b c d : Int) (w : World) (A0 : -9223372036854775808 ≤ a) (A1 : a ≤ 9223372036854775807) (B0 : -9223372036854775808 ≤ b) (B1 : b ≤ 9223372036854775807) (C0 : -9223372036854775808 ≤ c) (C1 : c ≤ 9223372036854775807) (D0 : -9223372036854775808 ≤ d) (D1 : d ≤ 9223372036854775807) :
    Calls Tryz.prog 99 #[.int .i64 a, .int .i64 b, .int .i64 c, .int .i64 d] w fun e w' => Ans2 (ordN a b c d) (ordB a b c d) w w' e := by
  by_cases h : ordC a b c d
  · have hc : cntB [a, b, c, d] = true := by rw [cnt_four]; exact decide_eq_true h
    have H := Lib.hid (ord_yes h)
    obtain ⟨h1, h2, h3, h4⟩ := h
    have p := mul_words h1 h2 A1 B1
    have q := mul_words h3 h4 C1 D1
    go_enter Tryz.func99, Tryz.ntmps99
    go_wp2_with (go_at_call 144; refine (counts_any _ [a, b, c, d] _ (seg_four _ _ _ _ _ _) (by simp)).mono ?_; rintro e w' ⟨rfl, rfl⟩)
    refine (product_any _ _ _ (by omega) (by omega) (by omega) (by omega)).mono ?_
    rintro e w1 ⟨rfl, G1⟩
    go_wp2_with fail
    refine (product_any _ _ _ (by omega) (by omega) (by omega) (by omega)).mono ?_
    rintro e w2 ⟨rfl, G2⟩
    go_wp2_with fail
    refine (rpCompare_any _ _ _ _ _ (by omega) (by omega) (by omega) (by omega) (by omega) (by omega) (by omega) (by omega)).mono ?_
    rintro e w3 ⟨rfl, G3⟩
    rw [wide_whole (a * b), wide_whole (c * d)]
    go_wp2_with fail
    go_ret2
    have z1 := G1.size
    simp at z1
    have z2 := G2.size
    exact ans2 H.out ((((below_one _ _).trans (G1.mono (by simp))).trans (G2.mono (by omega))).trans (G3.mono (by omega)))
  · have hc : cntB [a, b, c, d] = false := by rw [cnt_four]; exact decide_eq_false h
    have H := Lib.hid (ord_no h)
    clear h
    go_enter Tryz.func99, Tryz.ntmps99
    go_wp2_with (go_at_call 144; refine (counts_any _ [a, b, c, d] _ (seg_four _ _ _ _ _ _) (by simp)).mono ?_; rintro e w' ⟨rfl, rfl⟩)
    go_ret2
    exact ans2 H.out (below_one _ _)
end Go.Proofs.YtelekchdbiimiaaGreat
