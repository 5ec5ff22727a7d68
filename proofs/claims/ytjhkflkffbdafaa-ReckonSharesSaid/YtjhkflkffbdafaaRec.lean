/- The project's package reckon: counts, narrow, product, Add, Sub, Mul, Div, Up: each answers what the plain numbers say, and nothing that was there before is changed. -/
import Derived.Test.YtjhkflkffbdafaaDivAny
import Derived.Test.YtjhkflkffbdafaaRefs
namespace Go.Proofs.Ytjhkflkffbdafaa
set_option linter.unusedVariables false
open Go.RowKit

theorem seg_two (w : World) (a b : Int) (t : TypeId) : Seg (w.alloc (.cells #[.int .i64 a, .int .i64 b] t)) (.slice (some ⟨w.heap.size, 0, none⟩) 2 2) [a, b] :=
  ⟨_, 2, rfl, fun _ => ⟨w.heap.size, 0, rfl, by simp, fun k hk => by
    match k, hk with
    | 0, _ => rw [World.cell?_alloc_at _ _ _ _ rfl]; rfl
    | 1, _ => rw [World.cell?_alloc_at _ _ _ _ rfl]; rfl⟩⟩
theorem seg_four (w : World) (a b c d : Int) (t : TypeId) : Seg (w.alloc (.cells #[.int .i64 a, .int .i64 b, .int .i64 c, .int .i64 d] t)) (.slice (some ⟨w.heap.size, 0, none⟩) 4 4) [a, b, c, d] :=
  ⟨_, 4, rfl, fun _ => ⟨w.heap.size, 0, rfl, by simp, fun k hk => by
    match k, hk with
    | 0, _ => rw [World.cell?_alloc_at _ _ _ _ rfl]; rfl
    | 1, _ => rw [World.cell?_alloc_at _ _ _ _ rfl]; rfl
    | 2, _ => rw [World.cell?_alloc_at _ _ _ _ rfl]; rfl
    | 3, _ => rw [World.cell?_alloc_at _ _ _ _ rfl]; rfl⟩⟩

/-- is none of a list below 0? -/
def cntB (l : List Int) : Bool := l.all fun x => decide (0 ≤ x)
theorem cnt_dg {l : List Int} (k : Nat) (hk : k < l.length) (h : dg l k < 0) : cntB l = false := by
  unfold cntB
  rw [List.all_eq_false]
  refine ⟨l[k], List.getElem_mem hk, ?_⟩
  have e : dg l k = l[k] := by simp [dg, List.getD_eq_getElem?_getD, List.getElem?_eq_getElem hk]
  rw [e] at h
  simp; omega
theorem cnt_all {l : List Int} (h : ∀ k, k < l.length → 0 ≤ dg l k) : cntB l = true := by
  unfold cntB
  rw [List.all_eq_true]
  intro x hx
  obtain ⟨k, hk, rfl⟩ := List.mem_iff_getElem.1 hx
  have e : dg l k = l[k] := by simp [dg, List.getD_eq_getElem?_getD, List.getElem?_eq_getElem hk]
  have := h k hk
  rw [e] at this
  simpa using this
theorem cnt_two (a b : Int) : cntB [a, b] = decide (0 ≤ a ∧ 0 ≤ b) := by simp [cntB]
theorem cnt_four (a b c d : Int) : cntB [a, b, c, d] = decide (ordC a b c d) := by
  rw [Bool.eq_iff_iff, decide_eq_true_iff]; simp [cntB, ordC]

set_option maxHeartbeats 800000 in
theorem counts_any (v : Value) (l : List Int) (w : World) (h : Seg w v l) (hl : l.length ≤ 1000) :
    Calls Try.prog 38 #[v] w fun e w' => e = .returned (.bool (cntB l)) ∧ w = w' := by
  have S := h
  obtain ⟨A, c, rfl, hc⟩ := h
  have HC := Lib.hid hc
  clear hc
  go_enter Try.func38, Try.ntmps38
  go_wp2
  go_loop [4, 7] (fun x i => ∃ k : Nat, i = .int .i64 k ∧ k ≤ l.length ∧ Hid (∀ j, j < k → 0 ≤ dg l j)) (fun _ i => l.length - (intOf i).toNat)
  case atStart => exact ⟨0, rfl, by omega, fun j hj => absurd hj (by omega)⟩
  case round =>
    obtain ⟨k, rfl, hk, HA⟩ := hrel
    by_cases hlt : k < l.length
    · obtain ⟨b, o, rfl, _, hcell⟩ := HC.out (by omega)
      have hck := hcell k hlt
      clear hcell
      by_cases hn : dg l k < 0
      · have H := Lib.hid (cnt_dg k hlt hn)
        go_wp2
        go_ret
        exact ⟨by rw [H.out]; rfl, rfl⟩
      · have HN : Hid (∀ j, j < k + 1 → 0 ≤ dg l j) := fun j hj => by
          by_cases e : j = k
          · subst e; omega
          · exact HA.out j (by omega)
        go_wp2
        go_round
        case rel => exact ⟨k + 1, by go_num, by omega, HN.out⟩
        case measure => simp [intOf]; omega
    · have H := Lib.hid (cnt_all (l := l) fun j hj => HA.out j (by omega))
      go_wp2
      go_ret
      exact ⟨by rw [H.out]; rfl, rfl⟩

/-- a number of one word as a count -/
def nrwN (n : Int) : Int := onN (n ≤ 9223372036854775807) n
def nrwB (n : Int) : Bool := onB (n ≤ 9223372036854775807)
theorem nrw_yes {n : Int} (h : n ≤ 9223372036854775807) : nrwN n = n ∧ nrwB n = true := on_yes h _
theorem nrw_no {n : Int} (h : ¬ n ≤ 9223372036854775807) : nrwN n = 0 ∧ nrwB n = false := on_no h _
set_option maxHeartbeats 400000 in
theorem narrow_any (n : Int) (w : World) (h0 : 0 ≤ n) (h1 : n ≤ 18446744073709551615) :
    Calls Try.prog 39 #[.int .u64 n] w fun e w' => e = .returned (.tuple #[.int .i64 (nrwN n), .bool (nrwB n)]) ∧ w = w' := by
  by_cases h : n ≤ 9223372036854775807
  · have H := Lib.hid (nrw_yes h)
    go_enter Try.func39, Try.ntmps39
    go_wp2
    go_ret2
    exact ⟨by rw [H.out.1, H.out.2]; rfl, rfl⟩
  · have H := Lib.hid (nrw_no h)
    go_enter Try.func39, Try.ntmps39
    go_wp2
    go_ret2
    exact ⟨by rw [H.out.1, H.out.2]; rfl, rfl⟩

theorem mul64_any (x y : Int) (w : World) (x0 : 0 ≤ x) (x1 : x ≤ 18446744073709551615) (y0 : 0 ≤ y) (y1 : y ≤ 18446744073709551615) :
    Calls Try.prog 52 #[.int .u64 x, .int .u64 y] w fun e w' => e = .returned (.tuple #[.int .u64 (x * y / 18446744073709551616), .int .u64 (x * y % 18446744073709551616)]) ∧ w = w' := by
  obtain ⟨x, rfl⟩ := Int.eq_ofNat_of_zero_le x0
  obtain ⟨y, rfl⟩ := Int.eq_ofNat_of_zero_le y0
  refine (Try.bits_Mul64 x y (by omega) (by omega) w).mono ?_
  rintro e w' ⟨rfl, rfl⟩
  exact ⟨by rw [Int.natCast_ediv, Int.natCast_emod, Int.natCast_mul]; rfl, rfl⟩

/-- a wide number's two words, the low one first -/
def wideV (x : Int) : Value := .agg #[.int .u64 (x % 18446744073709551616), .int .u64 (x / 18446744073709551616)]
set_option maxHeartbeats 400000 in
theorem product_any (a b : Int) (w : World) (a0 : 0 ≤ a) (a1 : a ≤ 9223372036854775807) (b0 : 0 ≤ b) (b1 : b ≤ 9223372036854775807) :
    Calls Try.prog 41 #[.int .i64 a, .int .i64 b] w fun e w' => e = .returned (.agg #[.int .u64 (a * b % 18446744073709551616), .int .u64 (a * b / 18446744073709551616)]) ∧ Below w.heap.size w w' := by
  go_enter Try.func41, Try.ntmps41
  go_wp2_with (go_at_call 52; refine (mul64_any _ _ _ (by omega) (by omega) (by omega) (by omega)).mono ?_; rintro e w' ⟨rfl, rfl⟩)
  exact bodyPost_ret (v := .agg #[.int .u64 (a * b % 18446744073709551616), .int .u64 (a * b / 18446744073709551616)]) (by simp [results, Try.results41, go_sem]) rfl ⟨rfl, (Below.refl _ _).alloc (Nat.le_refl _) _⟩

theorem below_one (w : World) (o : Obj) : Below w.heap.size w (w.alloc o) := (Below.refl _ _).alloc (Nat.le_refl _) o

set_option maxHeartbeats 800000 in
theorem add_any (a b : Int) (w : World) (A0 : -9223372036854775808 ≤ a) (A1 : a ≤ 9223372036854775807) (B0 : -9223372036854775808 ≤ b) (B1 : b ≤ 9223372036854775807) :
    Calls Try.prog 11 #[.int .i64 a, .int .i64 b] w fun e w' => Ans2 (sumN a b) (sumB a b) w w' e := by
  by_cases h : 0 ≤ a ∧ 0 ≤ b
  · have hc : cntB [a, b] = true := by rw [cnt_two]; exact decide_eq_true h
    have H : Hid (sumN a b = nrwN (a + b) ∧ sumB a b = nrwB (a + b)) := by
      by_cases hs : a + b ≤ 9223372036854775807
      · exact ⟨(sum_yes (by omega)).1.trans (nrw_yes hs).1.symm, (sum_yes (by omega)).2.trans (nrw_yes hs).2.symm⟩
      · exact ⟨(sum_no (by omega)).1.trans (nrw_no hs).1.symm, (sum_no (by omega)).2.trans (nrw_no hs).2.symm⟩
    obtain ⟨h1, h2⟩ := h
    go_enter Try.func11, Try.ntmps11
    go_wp2_with (first | (go_at_call 38; refine (counts_any _ [a, b] _ (seg_two _ _ _ _) (by simp)).mono ?_; rintro e w' ⟨rfl, rfl⟩) | (go_at_call 39; refine (narrow_any _ _ (by omega) (by omega)).mono ?_; rintro e w' ⟨rfl, rfl⟩))
    go_ret2
    exact ans2 H.out (below_one _ _)
  · have hc : cntB [a, b] = false := by rw [cnt_two]; exact decide_eq_false h
    have H := Lib.hid (sum_no (a := a) (b := b) (by omega))
    clear h
    go_enter Try.func11, Try.ntmps11
    go_wp2_with (go_at_call 38; refine (counts_any _ [a, b] _ (seg_two _ _ _ _) (by simp)).mono ?_; rintro e w' ⟨rfl, rfl⟩)
    go_ret2
    exact ans2 H.out (below_one _ _)

set_option maxHeartbeats 800000 in
theorem sub_any (a b : Int) (w : World) (A0 : -9223372036854775808 ≤ a) (A1 : a ≤ 9223372036854775807) (B0 : -9223372036854775808 ≤ b) (B1 : b ≤ 9223372036854775807) :
    Calls Try.prog 13 #[.int .i64 a, .int .i64 b] w fun e w' => Ans2 (subN a b) (subB a b) w w' e := by
  by_cases h : 0 ≤ a ∧ 0 ≤ b
  · have hc : cntB [a, b] = true := by rw [cnt_two]; exact decide_eq_true h
    obtain ⟨h1, h2⟩ := h
    by_cases hs : a < b
    · have H := Lib.hid (sub_no (a := a) (b := b) (by omega))
      go_enter Try.func13, Try.ntmps13
      go_wp2_with (go_at_call 38; refine (counts_any _ [a, b] _ (seg_two _ _ _ _) (by simp)).mono ?_; rintro e w' ⟨rfl, rfl⟩)
      go_ret2
      exact ans2 H.out (below_one _ _)
    · have H := Lib.hid (sub_yes (a := a) (b := b) (by omega))
      go_enter Try.func13, Try.ntmps13
      go_wp2_with (go_at_call 38; refine (counts_any _ [a, b] _ (seg_two _ _ _ _) (by simp)).mono ?_; rintro e w' ⟨rfl, rfl⟩)
      go_ret2
      exact ans2 H.out (below_one _ _)
  · have hc : cntB [a, b] = false := by rw [cnt_two]; exact decide_eq_false h
    have H := Lib.hid (sub_no (a := a) (b := b) (by omega))
    clear h
    go_enter Try.func13, Try.ntmps13
    go_wp2_with (go_at_call 38; refine (counts_any _ [a, b] _ (seg_two _ _ _ _) (by simp)).mono ?_; rintro e w' ⟨rfl, rfl⟩)
    go_ret2
    exact ans2 H.out (below_one _ _)

set_option maxHeartbeats 400000 in
theorem div_any (a b : Int) (w : World) (A0 : -9223372036854775808 ≤ a) (A1 : a ≤ 9223372036854775807) (B0 : -9223372036854775808 ≤ b) (B1 : b ≤ 9223372036854775807) :
    Calls Try.prog 18 #[.int .i64 a, .int .i64 b] w fun e w' => e = .returned (.tuple #[.int .i64 (quoN a b), .bool (quoB a b)]) ∧ w = w' := by
  rcases (show a < 0 ∨ (0 ≤ a ∧ b < 1) ∨ (0 ≤ a ∧ 1 ≤ b) by omega) with h | h | h
  · have H := Lib.hid (quo_no (a := a) (b := b) (by omega))
    go_enter Try.func18, Try.ntmps18
    go_wp2
    go_ret2
    exact ⟨by rw [H.out.1, H.out.2]; rfl, rfl⟩
  · have H := Lib.hid (quo_no (a := a) (b := b) (by omega))
    obtain ⟨h1, h2⟩ := h
    go_enter Try.func18, Try.ntmps18
    go_wp2
    go_ret2
    exact ⟨by rw [H.out.1, H.out.2]; rfl, rfl⟩
  · have H := Lib.hid (quo_yes (a := a) (b := b) (by omega))
    obtain ⟨h1, h2⟩ := h
    go_enter Try.func18, Try.ntmps18
    go_wp2
    go_ret2
    exact ⟨by rw [H.out.1, H.out.2]; rfl, rfl⟩

set_option maxHeartbeats 400000 in
theorem up_any (a b : Int) (w : World) (A0 : -9223372036854775808 ≤ a) (A1 : a ≤ 9223372036854775807) (B0 : -9223372036854775808 ≤ b) (B1 : b ≤ 9223372036854775807) :
    Calls Try.prog 20 #[.int .i64 a, .int .i64 b] w fun e w' => e = .returned (.tuple #[.int .i64 (upN a b), .bool (upB a b)]) ∧ w = w' := by
  by_cases h : 0 ≤ a ∧ 1 ≤ b
  · have Q := quo_yes h
    have hq := Q.2
    have QN := Lib.hid Q.1
    obtain ⟨h1, h2⟩ := h
    obtain ⟨D0, D1, D2, D3, D4⟩ := div_bd h1 h2
    have q0 : 0 ≤ quoN a b := by rw [Q.1]; exact D0
    by_cases hr : 0 < a % b
    · have H := Lib.hid (up_more ⟨h1, h2⟩ hr)
      have q1 : quoN a b ≤ 9223372036854775806 := by rw [Q.1]; have := D4 hr; omega
      have hr' : (a % b != 0) = true := by rw [bne_iff_ne]; omega
      clear Q D4
      go_enter Try.func20, Try.ntmps20
      go_wp2_with (go_at_call 18; refine (div_any _ _ _ (by omega) (by omega) (by omega) (by omega)).mono ?_; rintro e w' ⟨rfl, rfl⟩)
      go_ret2
      exact ⟨by rw [H.out.1, H.out.2, ← QN.out]; rfl, rfl⟩
    · have H := Lib.hid (up_flat ⟨h1, h2⟩ (show a % b = 0 by omega))
      have hr' : (a % b != 0) = false := by simp; omega
      clear Q D4
      go_enter Try.func20, Try.ntmps20
      go_wp2_with (go_at_call 18; refine (div_any _ _ _ (by omega) (by omega) (by omega) (by omega)).mono ?_; rintro e w' ⟨rfl, rfl⟩)
      go_ret2
      exact ⟨by rw [H.out.1, H.out.2, ← QN.out]; rfl, rfl⟩
  · have Q := quo_no h
    have hq := Q.2
    have QN := Lib.hid Q.1
    have H := Lib.hid (up_no h)
    clear Q h
    go_enter Try.func20, Try.ntmps20
    go_wp2_with (go_at_call 18; refine (div_any _ _ _ (by omega) (by omega) (by omega) (by omega)).mono ?_; rintro e w' ⟨rfl, rfl⟩)
    go_ret2
    exact ⟨by rw [H.out.1, H.out.2, ← QN.out]; rfl, rfl⟩

theorem below_prod {w w1 : World} {o o' : Obj} (B1 : Below (w.alloc o).heap.size (w.alloc o) w1) : Below w.heap.size w (w1.alloc o') :=
  ((below_one w o).trans (B1.mono (by simp))).alloc (by have := B1.size; simp at this; omega) o'

theorem mul_words {a b : Int} (h1 : 0 ≤ a) (h2 : 0 ≤ b) (a1 : a ≤ 9223372036854775807) (b1 : b ≤ 9223372036854775807) :
    0 ≤ a * b ∧ a * b ≤ 85070591730234615847396907784232501249 := by
  have p0 := Int.mul_nonneg h1 h2
  have p1 := Int.mul_le_mul a1 b1 h2 (show (0 : Int) ≤ 9223372036854775807 by decide)
  exact ⟨p0, by omega⟩

set_option maxHeartbeats 800000 in
theorem mul_any (a b : Int) (w : World) (A0 : -9223372036854775808 ≤ a) (A1 : a ≤ 9223372036854775807) (B0 : -9223372036854775808 ≤ b) (B1 : b ≤ 9223372036854775807) :
    Calls Try.prog 16 #[.int .i64 a, .int .i64 b] w fun e w' => Ans2 (mulN a b) (mulB a b) w w' e := by
  by_cases h : 0 ≤ a ∧ 0 ≤ b
  · have hc : cntB [a, b] = true := by rw [cnt_two]; exact decide_eq_true h
    obtain ⟨h1, h2⟩ := h
    have p := mul_words h1 h2 A1 B1
    by_cases hw : a * b / 18446744073709551616 = 0
    · have hw' : (a * b / 18446744073709551616 != 0) = false := by simp [hw]
      have H : Hid (mulN a b = nrwN (a * b % 18446744073709551616) ∧ mulB a b = nrwB (a * b % 18446744073709551616)) := by
        have e : a * b % 18446744073709551616 = a * b := by omega
        rw [e]
        by_cases hs : a * b ≤ 9223372036854775807
        · exact ⟨(mul_yes ⟨h1, h2, hs⟩).1.trans (nrw_yes hs).1.symm, (mul_yes ⟨h1, h2, hs⟩).2.trans (nrw_yes hs).2.symm⟩
        · exact ⟨(mul_no fun h => hs h.2.2).1.trans (nrw_no hs).1.symm, (mul_no fun h => hs h.2.2).2.trans (nrw_no hs).2.symm⟩
      clear hw
      go_enter Try.func16, Try.ntmps16
      go_wp2_with (first | (go_at_call 38; refine (counts_any _ [a, b] _ (seg_two _ _ _ _) (by simp)).mono ?_; rintro e w' ⟨rfl, rfl⟩) | (go_at_call 41; refine (product_any _ _ _ (by omega) (by omega) (by omega) (by omega)).mono ?_; rintro e w' ⟨rfl, B1⟩) | (go_at_call 39; refine (narrow_any _ _ (by omega) (by omega)).mono ?_; rintro e w' ⟨rfl, rfl⟩))
      go_ret2
      exact ans2 H.out (below_prod B1)
    · have hw' : (a * b / 18446744073709551616 != 0) = true := by simp [hw]
      have H := Lib.hid (mul_no (a := a) (b := b) (by omega))
      clear hw
      go_enter Try.func16, Try.ntmps16
      go_wp2_with (first | (go_at_call 38; refine (counts_any _ [a, b] _ (seg_two _ _ _ _) (by simp)).mono ?_; rintro e w' ⟨rfl, rfl⟩) | (go_at_call 41; refine (product_any _ _ _ (by omega) (by omega) (by omega) (by omega)).mono ?_; rintro e w' ⟨rfl, B1⟩))
      go_ret2
      exact ans2 H.out (below_prod B1)
  · have hc : cntB [a, b] = false := by rw [cnt_two]; exact decide_eq_false h
    have H := Lib.hid (mul_no (a := a) (b := b) (fun g => h ⟨g.1, g.2.1⟩))
    clear h
    go_enter Try.func16, Try.ntmps16
    go_wp2_with (go_at_call 38; refine (counts_any _ [a, b] _ (seg_two _ _ _ _) (by simp)).mono ?_; rintro e w' ⟨rfl, rfl⟩)
    go_ret2
    exact ans2 H.out (below_one _ _)

end Go.Proofs.Ytjhkflkffbdafaa
