/- The project's package reckon: Over, share, Part, PartUp, compare, Order: each answers what the plain numbers say, and nothing that was there before is changed. -/
import Derived.Test.YtjhkflkffbdafaaRec
namespace Go.Proofs.Ytjhkflkffbdafaa
set_option linter.unusedVariables false
open Go.RowKit

/-- how often n goes into x, whether there is a rest, and whether that often is a count -/
def overN (x n : Int) : Int := if 1 ≤ n then quotN x n else 0
def overR (x n : Int) : Bool := if 1 ≤ n then quotR x n else false
def overB (x n : Int) : Bool := if 1 ≤ n then quotB x n else false
theorem over_yes {x n : Int} (h : 1 ≤ n) : overN x n = quotN x n ∧ overR x n = quotR x n ∧ overB x n = quotB x n := ⟨if_pos h, if_pos h, if_pos h⟩
theorem over_no {x n : Int} (h : ¬ 1 ≤ n) : overN x n = 0 ∧ overR x n = false ∧ overB x n = false := ⟨if_neg h, if_neg h, if_neg h⟩
theorem over_big {x n : Int} (h : 1 ≤ n) (hx : ¬ x < 9223372036854775808 * n) : overN x n = 0 ∧ overR x n = false ∧ overB x n = false := by
  rw [(over_yes h).1, (over_yes h).2.1, (over_yes h).2.2]
  unfold quotN quotR quotB
  rw [if_neg hx, decide_eq_false hx]
  exact ⟨rfl, rfl, rfl⟩
theorem over_in {x n : Int} (h : 1 ≤ n) (h0 : 0 ≤ x) : overN x n = nrwN (x / n) ∧ overR x n = (nrwB (x / n) && (x % n != 0)) ∧ overB x n = nrwB (x / n) := by
  rw [(over_yes h).1, (over_yes h).2.1, (over_yes h).2.2]
  have e : (x < 9223372036854775808 * n) ↔ x / n ≤ 9223372036854775807 := by
    constructor
    · intro g
      have := Int.ediv_lt_of_lt_mul (show 0 < n by omega) g; omega
    · intro g
      have h1 := Int.lt_ediv_add_one_mul_self x (show 0 < n by omega)
      have h2 := Int.mul_le_mul_of_nonneg_right (show x / n + 1 ≤ 9223372036854775808 by omega) (show 0 ≤ n by omega)
      omega
  unfold quotN quotR quotB nrwN nrwB onN onB
  refine ⟨?_, ?_, decide_eq_decide.2 e⟩
  · by_cases g : x < 9223372036854775808 * n
    · rw [if_pos g, if_pos (e.1 g)]
    · rw [if_neg g, if_neg (fun k => g (e.2 k))]
  · rw [decide_eq_decide.2 e]
    congr 1
    rw [Bool.eq_iff_iff]; simp

/-- a number, whether there is a rest, and whether it is one; nothing that was there before is changed -/
def Ans3 (n : Int) (r b : Bool) (w w' : World) (e : Ending) : Prop := e = .returned (.tuple #[.int .i64 n, .bool r, .bool b]) ∧ Below w.heap.size w w'
theorem ans3 {n m : Int} {r s b c : Bool} {w w' : World} (h : n = m ∧ r = s ∧ b = c) (hb : Below w.heap.size w w') : Ans3 n r b w w' (.returned (.tuple #[.int .i64 m, .bool s, .bool c])) := by
  obtain ⟨rfl, rfl, rfl⟩ := h; exact ⟨rfl, hb⟩

set_option maxHeartbeats 1600000 in
theorem over_any (lo hi n : Int) (w : World) (l0 : 0 ≤ lo) (l1 : lo ≤ 18446744073709551615) (h0 : 0 ≤ hi) (h1 : hi ≤ 18446744073709551615) (N0 : -9223372036854775808 ≤ n) (N1 : n ≤ 9223372036854775807) :
    Calls Try.prog 36 #[.agg #[.int .u64 lo, .int .u64 hi], .int .i64 n] w fun e w' =>
      Ans3 (overN (hi * 18446744073709551616 + lo) n) (overR (hi * 18446744073709551616 + lo) n) (overB (hi * 18446744073709551616 + lo) n) w w' e := by
  by_cases hn : 1 ≤ n
  · by_cases hh : n ≤ hi
    · have H := Lib.hid (over_big (x := hi * 18446744073709551616 + lo) hn (by omega))
      go_enter Try.func36, Try.ntmps36
      go_wp2_with fail
      go_ret3
      exact ans3 H.out (below_one _ _)
    · have H := Lib.hid (over_in (x := hi * 18446744073709551616 + lo) hn (by omega))
      have q0 : 0 ≤ (hi * 18446744073709551616 + lo) / n := Int.ediv_nonneg (by omega) (by omega)
      have q1 : (hi * 18446744073709551616 + lo) / n ≤ 18446744073709551615 := by
        have := Int.ediv_lt_of_lt_mul (show 0 < n by omega) (show hi * 18446744073709551616 + lo < 18446744073709551616 * n by omega); omega
      go_enter Try.func36, Try.ntmps36
      go_wp2_with fail
      refine (div64_any hi lo n _ h0 (by omega) (by omega) l0 l1).mono ?_
      rintro e w' ⟨rfl, k, rfl⟩
      generalize (hi * 18446744073709551616 + lo) / n = q at *
      generalize (hi * 18446744073709551616 + lo) % n = r at *
      go_wp2_with fail
      refine (narrow_any q _ q0 q1).mono ?_
      rintro e w' ⟨rfl, rfl⟩
      by_cases hb : nrwB q = true
      · go_wp2_with fail
        go_ret3
        exact ans3 (by rw [H.out.1, H.out.2.1, H.out.2.2, hb]; exact ⟨rfl, rfl, rfl⟩) (below_drewN (below_one _ _) _)
      · have hb' : nrwB q = false := by simpa using hb
        clear hb
        go_wp2_with fail
        go_ret3
        exact ans3 (by rw [H.out.1, H.out.2.1, H.out.2.2, hb']; exact ⟨rfl, rfl, rfl⟩) (below_drewN (below_one _ _) _)
  · have H := Lib.hid (over_no (x := hi * 18446744073709551616 + lo) hn)
    go_enter Try.func36, Try.ntmps36
    go_wp2_with fail
    go_ret3
    exact ans3 H.out (below_one _ _)

theorem wide_whole (x : Int) : x / 18446744073709551616 * 18446744073709551616 + x % 18446744073709551616 = x := Int.ediv_mul_add_emod x _

set_option maxHeartbeats 800000 in
theorem share_any (n m d : Int) (w : World) (N0 : -9223372036854775808 ≤ n) (N1 : n ≤ 9223372036854775807) (M0 : -9223372036854775808 ≤ m) (M1 : m ≤ 9223372036854775807) (D0 : -9223372036854775808 ≤ d) (D1 : d ≤ 9223372036854775807) :
    Calls Try.prog 45 #[.int .i64 n, .int .i64 m, .int .i64 d] w fun e w' => Ans3 (partN n m d) (partR n m d) (partB n m d) w w' e := by
  by_cases h : 0 ≤ n ∧ 0 ≤ m
  · have hc : cntB [n, m] = true := by rw [cnt_two]; exact decide_eq_true h
    obtain ⟨h1, h2⟩ := h
    have p := mul_words h1 h2 N1 M1
    have H : Hid (partN n m d = overN (n * m) d ∧ partR n m d = overR (n * m) d ∧ partB n m d = overB (n * m) d) := by
      by_cases hd : 1 ≤ d
      · have a := part_yes (n := n) (m := m) (d := d) ⟨h1, h2, hd⟩
        have b := over_yes (x := n * m) hd
        exact ⟨a.1.trans b.1.symm, a.2.1.trans b.2.1.symm, a.2.2.trans b.2.2.symm⟩
      · have a := part_no (n := n) (m := m) (d := d) (fun g => hd g.2.2)
        have b := over_no (x := n * m) hd
        exact ⟨a.1.trans b.1.symm, a.2.1.trans b.2.1.symm, a.2.2.trans b.2.2.symm⟩
    go_enter Try.func45, Try.ntmps45
    go_wp2_with (go_at_call 38; refine (counts_any _ [n, m] _ (seg_two _ _ _ _) (by simp)).mono ?_; rintro e w' ⟨rfl, rfl⟩)
    refine (product_any _ _ _ (by omega) (by omega) (by omega) (by omega)).mono ?_
    rintro e w1 ⟨rfl, B1⟩
    go_wp2_with fail
    refine (over_any _ _ _ _ (by omega) (by omega) (by omega) (by omega) (by omega) (by omega)).mono ?_
    rintro e w2 ⟨rfl, B2⟩
    rw [wide_whole (n * m)]
    go_wp2_with fail
    go_ret3
    exact ans3 H.out (((below_one _ _).trans (B1.mono (by simp))).trans (B2.mono (by have := B1.size; simp at this; omega)))
  · have hc : cntB [n, m] = false := by rw [cnt_two]; exact decide_eq_false h
    have H := Lib.hid (part_no (n := n) (m := m) (d := d) (fun g => h ⟨g.1, g.2.1⟩))
    clear h
    go_enter Try.func45, Try.ntmps45
    go_wp2_with (go_at_call 38; refine (counts_any _ [n, m] _ (seg_two _ _ _ _) (by simp)).mono ?_; rintro e w' ⟨rfl, rfl⟩)
    go_ret3
    exact ans3 H.out (below_one _ _)

set_option maxHeartbeats 400000 in
theorem part_any (n m d : Int) (w : World) (N0 : -9223372036854775808 ≤ n) (N1 : n ≤ 9223372036854775807) (M0 : -9223372036854775808 ≤ m) (M1 : m ≤ 9223372036854775807) (D0 : -9223372036854775808 ≤ d) (D1 : d ≤ 9223372036854775807) :
    Calls Try.prog 22 #[.int .i64 n, .int .i64 m, .int .i64 d] w fun e w' => Ans2 (partN n m d) (partB n m d) w w' e := by
  go_enter Try.func22, Try.ntmps22
  go_wp2_with (go_at_call 45; refine (share_any n m d _ N0 N1 M0 M1 D0 D1).mono ?_; rintro e w' ⟨rfl, B1⟩)
  go_ret2
  exact ans2 ⟨rfl, rfl⟩ B1

set_option maxHeartbeats 400000 in
theorem partUp_any (n m d : Int) (w : World) (N0 : -9223372036854775808 ≤ n) (N1 : n ≤ 9223372036854775807) (M0 : -9223372036854775808 ≤ m) (M1 : m ≤ 9223372036854775807) (D0 : -9223372036854775808 ≤ d) (D1 : d ≤ 9223372036854775807) :
    Calls Try.prog 24 #[.int .i64 n, .int .i64 m, .int .i64 d] w fun e w' => Ans2 (partUpN n m d) (partUpB n m d) w w' e := by
  have bd := part_bd n m d
  by_cases hr : partR n m d = true
  · have H := Lib.hid (partUp_rest hr)
    go_enter Try.func24, Try.ntmps24
    go_wp2_with (go_at_call 45; refine (share_any n m d _ N0 N1 M0 M1 D0 D1).mono ?_; rintro e w' ⟨rfl, B1⟩)
    refine (add_any _ _ _ (by omega) (by omega) (by omega) (by omega)).mono ?_
    rintro e w2 ⟨rfl, B2⟩
    go_wp2_with fail
    go_ret2
    exact ans2 H.out (B1.trans (B2.mono B1.size))
  · have hr' : partR n m d = false := by simpa using hr
    have H := Lib.hid (partUp_flat hr')
    clear hr
    go_enter Try.func24, Try.ntmps24
    go_wp2_with (go_at_call 45; refine (share_any n m d _ N0 N1 M0 M1 D0 D1).mono ?_; rintro e w' ⟨rfl, B1⟩)
    go_ret2
    exact ans2 H.out B1

set_option maxHeartbeats 1600000 in
theorem compare_any (vl vh ul uh : Int) (w : World) (a0 : 0 ≤ vl) (a1 : vl ≤ 18446744073709551615) (b0 : 0 ≤ vh) (b1 : vh ≤ 18446744073709551615) (c0 : 0 ≤ ul) (c1 : ul ≤ 18446744073709551615) (d0 : 0 ≤ uh) (d1 : uh ≤ 18446744073709551615) :
    Calls Try.prog 46 #[.agg #[.int .u64 vl, .int .u64 vh], .agg #[.int .u64 ul, .int .u64 uh]] w fun e w' =>
      e = .returned (.int .i64 (cmp3 (vh * 18446744073709551616 + vl) (uh * 18446744073709551616 + ul))) ∧ Below w.heap.size w w' := by
  have i0 : ∀ w, (Instr.index 61 (.agg #[.int .i64 1, .int .i64 0]) (.int .i64 0)).run Try.prog w = .ok (.int .i64 1) w := fun _ => by kernel_rfl
  have i1 : ∀ w, (Instr.index 61 (.agg #[.int .i64 1, .int .i64 0]) (.int .i64 1)).run Try.prog w = .ok (.int .i64 0) w := fun _ => by kernel_rfl
  go_enter Try.func46, Try.ntmps46
  go_wp2_with fail
  have g0 : ((w.alloc (.cells #[.int .u64 vl, .int .u64 vh] 34)).alloc (.cells #[.int .u64 ul, .int .u64 uh] 34)).cell? ⟨w.heap.size, 0, none⟩ = some (.int .u64 vl) := by
    rw [World.cell?_alloc_past _ _ _ (by simp), World.cell?_alloc_at _ _ _ _ rfl]; rfl
  have g1 : ((w.alloc (.cells #[.int .u64 vl, .int .u64 vh] 34)).alloc (.cells #[.int .u64 ul, .int .u64 uh] 34)).cell? ⟨w.heap.size, 1, none⟩ = some (.int .u64 vh) := by
    rw [World.cell?_alloc_past _ _ _ (by simp), World.cell?_alloc_at _ _ _ _ rfl]; rfl
  have g2 : ((w.alloc (.cells #[.int .u64 vl, .int .u64 vh] 34)).alloc (.cells #[.int .u64 ul, .int .u64 uh] 34)).cell? ⟨w.heap.size + 1, 0, none⟩ = some (.int .u64 ul) := by
    rw [World.cell?_alloc_at _ _ _ _ (by simp)]; rfl
  have g3 : ((w.alloc (.cells #[.int .u64 vl, .int .u64 vh] 34)).alloc (.cells #[.int .u64 ul, .int .u64 uh] 34)).cell? ⟨w.heap.size + 1, 1, none⟩ = some (.int .u64 uh) := by
    rw [World.cell?_alloc_at _ _ _ _ (by simp)]; rfl
  have hb : Below w.heap.size w ((w.alloc (.cells #[.int .u64 vl, .int .u64 vh] 34)).alloc (.cells #[.int .u64 ul, .int .u64 uh] 34)) := (below_one _ _).alloc (by simp) _
  generalize (w.alloc (.cells #[.int .u64 vl, .int .u64 vh] 34)).alloc (.cells #[.int .u64 ul, .int .u64 uh] 34) = w0 at *
  go_loopw [8] (fun i wr => ∃ k : Int, i = .int .i64 k ∧ 0 ≤ k ∧ k ≤ 2 ∧ Hid (1 ≤ k → vh = uh) ∧ Hid (2 ≤ k → vl = ul) ∧ ∃ q, wr = w0.drewN q) (fun i _ => (2 - intOf i).toNat)
  case atStart => exact ⟨0, rfl, by decide, by decide, fun h => absurd h (by decide), fun h => absurd h (by decide), 0, rfl⟩
  case round =>
    obtain ⟨k, rfl, k0, k2, HH, HL, q, rfl⟩ := hrel
    rcases (show k = 0 ∨ k = 1 ∨ k = 2 by omega) with rfl | rfl | rfl
    · rcases (show vh < uh ∨ (¬ vh < uh ∧ uh < vh) ∨ (¬ vh < uh ∧ ¬ uh < vh) by omega) with h | h | h
      · have H := Lib.hid (cmp3_lt (show vh * 18446744073709551616 + vl < uh * 18446744073709551616 + ul by omega))
        clear HH HL
        go_wp2_with fail
        go_quiet (fail)
        go_wp2_with fail
        go_ret
        exact ⟨by rw [H.out]; rfl, by repeat (first | exact hb | refine below_drewN ?_ _)⟩
      · have H := Lib.hid (cmp3_gt (show uh * 18446744073709551616 + ul < vh * 18446744073709551616 + vl by omega))
        clear HH HL
        obtain ⟨h3, h4⟩ := h
        go_wp2_with fail
        go_quiet (fail)
        go_wp2_with fail
        go_quiet (fail)
        go_wp2_with fail
        go_ret
        exact ⟨by rw [H.out]; rfl, by repeat (first | exact hb | refine below_drewN ?_ _)⟩
      · obtain ⟨h3, h4⟩ := h
        clear HH HL
        go_wp2_with fail
        go_quiet (fail)
        go_wp2_with fail
        go_quiet (fail)
        go_wp2_with fail
        go_roundw
        case rel => exact ⟨1, rfl, by decide, by decide, fun _ => by omega, fun h => absurd h (by decide), _, rfl⟩
        case measure => simp [intOf]
    · rcases (show vl < ul ∨ (¬ vl < ul ∧ ul < vl) ∨ (¬ vl < ul ∧ ¬ ul < vl) by omega) with h | h | h
      · have H := Lib.hid (cmp3_lt (show vh * 18446744073709551616 + vl < uh * 18446744073709551616 + ul by have := HH.out (by decide); omega))
        go_wp2_with fail
        go_quiet (fail)
        go_wp2_with fail
        go_ret
        exact ⟨by rw [H.out]; rfl, by repeat (first | exact hb | refine below_drewN ?_ _)⟩
      · have H := Lib.hid (cmp3_gt (show uh * 18446744073709551616 + ul < vh * 18446744073709551616 + vl by have := HH.out (by decide); omega))
        obtain ⟨h3, h4⟩ := h
        go_wp2_with fail
        go_quiet (fail)
        go_wp2_with fail
        go_quiet (fail)
        go_wp2_with fail
        go_ret
        exact ⟨by rw [H.out]; rfl, by repeat (first | exact hb | refine below_drewN ?_ _)⟩
      · obtain ⟨h3, h4⟩ := h
        go_wp2_with fail
        go_quiet (fail)
        go_wp2_with fail
        go_quiet (fail)
        go_wp2_with fail
        go_roundw
        case rel => exact ⟨2, rfl, by decide, by decide, fun _ => HH.out (by decide), fun _ => by omega, _, rfl⟩
        case measure => simp [intOf]
    · have e := cmp3_eq (show vh * 18446744073709551616 + vl = uh * 18446744073709551616 + ul by rw [HH.out (by decide), HL.out (by decide)])
      have H := Lib.hid e
      clear e HH HL
      go_wp2_with fail
      go_ret
      exact ⟨by rw [H.out]; rfl, by repeat (first | exact hb | refine below_drewN ?_ _)⟩

end Go.Proofs.Ytjhkflkffbdafaa
