/- The walks of the statements of layer span that are stated: for every input each returns true, and nothing that was there before is changed. -/
import Derived.Test.YtbkhepbplplfjaaSp
import Derived.Test.YtbkhepbplplfjaaTwRef
import Derived.OpenShut
namespace Go.Proofs.Ytbkhepbplplfjaa
set_option linter.unusedVariables false
open Go.RowKit

theorem int_bd {a : Int} (h : (Lit.int .i64 a).wf = true) : -9223372036854775808 ≤ a ∧ a ≤ 9223372036854775807 := by
  have := bounds_i64 h; omega

theorem bcell {W w1 : World} (hb : Below W.heap.size W w1) : (∀ b o, b < W.heap.size → w1.cell? ⟨b, o, none⟩ = W.cell? ⟨b, o, none⟩) ∧ (∀ b o, b < W.heap.size → w1.frozen? ⟨b, o, none⟩ = W.frozen? ⟨b, o, none⟩) :=
  ⟨fun b o h => hb.cell (p := ⟨b, o, none⟩) h, fun b o h => hb.frozen (p := ⟨b, o, none⟩) h⟩

set_option maxHeartbeats 400000 in
theorem rspOf_any (lo hi : Int) (w : World) (l0 : -9223372036854775808 ≤ lo) (l1 : lo ≤ 9223372036854775807) (x0 : -9223372036854775808 ≤ hi) (x1 : hi ≤ 9223372036854775807) :
    Calls Try.prog 6 #[.int .i64 lo, .int .i64 hi] w fun e w' => e = .returned (.tuple #[.agg #[.float .f64 (spA lo hi), .float .f64 (spZ lo hi)], .bool (spB lo hi)]) ∧ Below w.heap.size w w' := by
  rcases (show lo < 0 ∨ (0 ≤ lo ∧ hi < lo) ∨ (0 ≤ lo ∧ lo ≤ hi ∧ 281474976710655 < hi) ∨ (0 ≤ lo ∧ lo ≤ hi ∧ hi ≤ 281474976710655) by omega) with h | h | h | h
  · obtain ⟨e1, e2, e3⟩ := sp_no (lo := lo) (hi := hi) (by unfold SpC; omega)
    rw [e1, e2, e3]
    clear e1 e2 e3
    have st := fun (w : World) (a : Addr) (b : Nat) (m : Mode) => run_store Try.prog w a (.float .f64 b) m rfl
    go_enter Try.func6, Try.ntmps6
    go_wp2_with fail
    exact bodyPost_ret (v := .tuple #[.agg #[.float .f64 0, .float .f64 0], .bool false]) (by simp [results, Try.results6, go_sem]) rfl ⟨rfl, (Below.refl _ _).alloc (Nat.le_refl _) _⟩
  · obtain ⟨e1, e2, e3⟩ := sp_no (lo := lo) (hi := hi) (by unfold SpC; omega)
    rw [e1, e2, e3]
    clear e1 e2 e3
    obtain ⟨g1, g2⟩ := h
    have st := fun (w : World) (a : Addr) (b : Nat) (m : Mode) => run_store Try.prog w a (.float .f64 b) m rfl
    go_enter Try.func6, Try.ntmps6
    go_wp2_with fail
    exact bodyPost_ret (v := .tuple #[.agg #[.float .f64 0, .float .f64 0], .bool false]) (by simp [results, Try.results6, go_sem]) rfl ⟨rfl, (Below.refl _ _).alloc (Nat.le_refl _) _⟩
  · obtain ⟨e1, e2, e3⟩ := sp_no (lo := lo) (hi := hi) (by unfold SpC; omega)
    rw [e1, e2, e3]
    clear e1 e2 e3
    obtain ⟨g1, g2, g3⟩ := h
    have st := fun (w : World) (a : Addr) (b : Nat) (m : Mode) => run_store Try.prog w a (.float .f64 b) m rfl
    go_enter Try.func6, Try.ntmps6
    go_wp2_with fail
    exact bodyPost_ret (v := .tuple #[.agg #[.float .f64 0, .float .f64 0], .bool false]) (by simp [results, Try.results6, go_sem]) rfl ⟨rfl, (Below.refl _ _).alloc (Nat.le_refl _) _⟩
  · obtain ⟨e1, e2, e3⟩ := sp_yes (lo := lo) (hi := hi) h
    rw [e1, e2, e3]
    clear e1 e2 e3
    obtain ⟨g1, g2, g3⟩ := h
    have st := fun (w : World) (a : Addr) (b : Nat) (m : Mode) => run_store Try.prog w a (.float .f64 b) m rfl
    go_enter Try.func6, Try.ntmps6
    go_wp2_with fail
    exact bodyPost_ret (v := .tuple #[.agg #[.float .f64 (floatOfInt .f64 lo), .float .f64 (floatOfInt .f64 hi)], .bool true]) (by simp [results, Try.results6, go_sem]) rfl ⟨rfl, (Below.refl _ _).alloc (Nat.le_refl _) _⟩

set_option maxHeartbeats 400000 in
theorem made_any (a b : Nat) (w : World) :
    Calls Try.prog 7 #[.agg #[.float .f64 a, .float .f64 b]] w fun e w' => e = .returned (.complex .f64 a b) ∧ Below w.heap.size w w' := by
  go_enter Try.func7, Try.ntmps7
  go_wp2_with fail
  go_ret
  exact ⟨rfl, (Below.refl _ _).alloc (Nat.le_refl _) _⟩

set_option maxHeartbeats 400000 in
theorem rspNode_any (l id : Int) (w : World) (L0 : -9223372036854775808 ≤ l) (L1 : l ≤ 9223372036854775807) (N0 : -9223372036854775808 ≤ id) (N1 : id ≤ 9223372036854775807) :
    Calls Try.prog 12 #[.int .i64 l, .int .i64 id] w fun e w' => e = .returned (.tuple #[.agg #[.float .f64 (ndA l id), .float .f64 (ndZ l id)], .bool (endB l id)]) ∧ Below w.heap.size w w' := by
  have hb := end_bd l id N1
  by_cases h : RightC l id
  · have he := (end_yes h).2.2
    obtain ⟨e1, e2, e3⟩ := nd_sp h N1
    rw [e1, e2]
    rw [he] at e3
    have H := Lib.hid e3
    clear e1 e2 e3
    have st := fun (w : World) (a : Addr) (b : Nat) (m : Mode) => run_store Try.prog w a (.float .f64 b) m rfl
    go_enter Try.func12, Try.ntmps12
    go_wp2_with (go_at_call 17; refine (rends_any _ _ _ L0 L1 N0 N1).mono ?_; rintro e w1 ⟨rfl, rfl⟩)
    refine (rspOf_any _ _ _ (by omega) (by omega) (by omega) (by omega)).mono ?_
    rintro e w1 ⟨rfl, hb1⟩
    obtain ⟨hc, hf⟩ := bcell hb1
    go_wp2_with fail
    have c0 : w1.cell? ⟨w.heap.size, 0, none⟩ = some (.float .f64 0) := (hc _ _ (by simp)).trans (by rw [World.cell?_alloc_at _ _ _ _ rfl]; rfl)
    have c1 : w1.cell? ⟨w.heap.size, 1, none⟩ = some (.float .f64 0) := (hc _ _ (by simp)).trans (by rw [World.cell?_alloc_at _ _ _ _ rfl]; rfl)
    exact bodyPost_ret (v := .tuple #[.agg #[.float .f64 (spA (loN l id) (hiN l id)), .float .f64 (spZ (loN l id) (hiN l id))], .bool (spB (loN l id) (hiN l id))]) (by simp [results, Try.results12, go_sem, c0, c1]) rfl
      ⟨by rw [he, H.out], ((((Below.refl _ _).alloc (Nat.le_refl _) _).trans (hb1.mono (by simp))).setCell (by simp) _).setCell (by simp) _⟩
  · have he := (end_no h).2.2
    obtain ⟨e1, e2⟩ := nd_no h
    rw [e1, e2]
    clear e1 e2
    have st := fun (w : World) (a : Addr) (b : Nat) (m : Mode) => run_store Try.prog w a (.float .f64 b) m rfl
    go_enter Try.func12, Try.ntmps12
    go_wp2_with (go_at_call 17; refine (rends_any _ _ _ L0 L1 N0 N1).mono ?_; rintro e w1 ⟨rfl, rfl⟩)
    exact bodyPost_ret (v := .tuple #[.agg #[.float .f64 0, .float .f64 0], .bool false]) (by simp [results, Try.results12, go_sem]) rfl ⟨by rw [he], (Below.refl _ _).alloc (Nat.le_refl _) _⟩
theorem alive_facts : (FloatKind.f64.format.order (floatOfInt .f64 2) 4611686018427387904 == some .eq) = true ∧ (FloatKind.f64.format.order (floatOfInt .f64 3) 4613937818241073152 == some .eq) = true ∧
    (FloatKind.f64.format.order (floatOfInt .f64 4) 4616189618054758400 == some .eq) = true ∧ (FloatKind.f64.format.order (floatOfInt .f64 7) 4619567317775286272 == some .eq) = true ∧
    (FloatKind.f64.format.order (floatOfInt .f64 6) 4618441417868443648 == some .eq) = true := by decide +kernel
theorem alive_nums : 4618441417868443648 = floatOfInt .f64 6 ∧ 4621256167635550208 = floatOfInt .f64 9 ∧ spA (max 4 6) (min 7 9) = floatOfInt .f64 6 ∧ spZ (max 4 6) (min 7 9) = floatOfInt .f64 7 ∧ spB (max 4 6) (min 7 9) = true ∧
    spA 2 3 = floatOfInt .f64 2 ∧ spZ 2 3 = floatOfInt .f64 3 ∧ spB 2 3 = true := by decide +kernel
theorem spCut_ex (w : World) : Calls Try.prog 15 #[.complex .f64 (floatOfInt .f64 4) (floatOfInt .f64 7), .complex .f64 4618441417868443648 4621256167635550208] w
      fun e w' => e = .returned (.tuple #[.complex .f64 (floatOfInt .f64 6) (floatOfInt .f64 7), .bool true]) ∧ w = w' := by
  obtain ⟨e1, e2, e3, e4, e5, _⟩ := alive_nums
  have := spCut_yes 4 7 6 9 w (by omega) (by omega) (by omega) (by omega) (by omega) (by omega)
  rw [e3, e4, e5, ← e1, ← e2] at this
  rw [e1]
  rw [e1] at this
  exact this
theorem spOf_yes (lo hi : Int) (w : World) (h : SpC lo hi) :
    Calls Try.prog 5 #[.int .i64 lo, .int .i64 hi] w fun e w' => e = .returned (.tuple #[.complex .f64 (floatOfInt .f64 lo) (floatOfInt .f64 hi), .bool true]) ∧ w = w' := by
  obtain ⟨e1, e2, e3⟩ := sp_yes h
  have hh := h
  unfold SpC at hh
  have := spOf_any lo hi w (by omega) (by omega) (by omega) (by omega)
  rw [e1, e2, e3] at this; exact this
theorem spOf_no (lo hi : Int) (w : World) (h : ¬ SpC lo hi) (l0 : -9223372036854775808 ≤ lo) (l1 : lo ≤ 9223372036854775807) (x0 : -9223372036854775808 ≤ hi) (x1 : hi ≤ 9223372036854775807) :
    Calls Try.prog 5 #[.int .i64 lo, .int .i64 hi] w fun e w' => e = .returned (.tuple #[.complex .f64 0 0, .bool false]) ∧ w = w' := by
  obtain ⟨e1, e2, e3⟩ := sp_no h
  have := spOf_any lo hi w l0 l1 x0 x1
  rw [e1, e2, e3] at this; exact this
theorem sends_zero (w : World) : Calls Try.prog 8 #[.complex .f64 0 0] w fun e w' => e = .returned (.tuple #[.int .i64 0, .int .i64 0, .bool true]) ∧ w = w' := by
  have := sends_yes 0 0 w (by omega) (by omega) (by omega)
  rw [flo_zero] at this; exact this
set_option maxHeartbeats 400000 in
theorem alive_any (w : World) : Calls Try.prog 10 #[] w fun e w' => e = .returned (.bool true) ∧ w = w' := by
  obtain ⟨x1, x2, x3, x4, x5⟩ := alive_facts
  go_enter Try.func10, Try.ntmps10
  go_wp2_with (first
    | (go_at_call 5; refine (spOf_yes _ _ _ (by decide)).mono ?_; rintro e w1 ⟨rfl, rfl⟩)
    | (go_at_call 14; refine (grow_ex _).mono ?_; rintro e w1 ⟨rfl, rfl⟩)
    | (go_at_call 15; refine (spCut_ex _).mono ?_; rintro e w1 ⟨rfl, rfl⟩))
  go_ret
  exact ⟨rfl, rfl⟩

set_option maxHeartbeats 800000 in
theorem walk_spanOf (lo hi x : Int) (L0 : -9223372036854775808 ≤ lo) (L1 : lo ≤ 9223372036854775807) (N0 : -9223372036854775808 ≤ hi) (N1 : hi ≤ 9223372036854775807) (X0 : -9223372036854775808 ≤ x) (X1 : x ≤ 9223372036854775807) (w : World) :
    Calls Try.prog 3 #[.int .i64 lo, .int .i64 hi, .int .i64 x] w fun e w' => e = .returned (.bool true) ∧ Below w.heap.size w w' := by
  by_cases h : SpC lo hi
  · obtain ⟨e1, e2, e3⟩ := sp_yes h
    have hr := fun w => rspOf_any lo hi w L0 L1 N0 N1
    rw [e1, e2, e3] at hr
    have HR := Lib.hid hr
    have HO := Lib.hid (fun w => spOf_yes lo hi w h)
    clear hr e1 e2 e3
    obtain ⟨h1, h2, h3⟩ := h
    have o1 : FloatKind.f64.format.order (floatOfInt .f64 lo) (floatOfInt .f64 lo) = some .eq := by have := flo_order h1 (show lo < 9007199254740992 by omega) h1 (by omega); rw [Int.compare_eq_eq.2 rfl] at this; exact this
    have o2 : FloatKind.f64.format.order (floatOfInt .f64 hi) (floatOfInt .f64 hi) = some .eq := by have := flo_order (show 0 ≤ hi by omega) (show hi < 9007199254740992 by omega) (show 0 ≤ hi by omega) (by omega); rw [Int.compare_eq_eq.2 rfl] at this; exact this
    have st := fun (w : World) (a : Addr) (b : Nat) (m : Mode) => run_store Try.prog w a (.float .f64 b) m rfl
    have hh := fun w => sholds_yes lo hi x w h1 h2 h3 X0 X1
    rcases (show x < lo ∨ (lo ≤ x ∧ hi < x) ∨ (lo ≤ x ∧ x ≤ hi) by omega) with g | ⟨g, g'⟩ | ⟨g, g'⟩
    · rw [show decide (lo ≤ x ∧ x ≤ hi) = false by simp; omega] at hh
      have HH := Lib.hid hh
      clear hh
      go_enter Try.func3, Try.ntmps3
      go_wp2_with (go_at_call 5; refine (HO.out _).mono ?_; rintro e w1 ⟨rfl, rfl⟩)
      refine (HR.out _).mono ?_
      rintro e w1 ⟨rfl, hb1⟩
      go_wp2_with fail
      refine (made_any _ _ _).mono ?_
      rintro e w2 ⟨rfl, hb2⟩
      go_wp2_with (first
        | (go_at_call 8; refine (sends_yes _ _ _ h1 h2 h3).mono ?_; rintro e w3 ⟨rfl, rfl⟩)
        | (go_at_call 9; refine (HH.out _).mono ?_; rintro e w3 ⟨rfl, rfl⟩)
        | (go_at_call 10; refine (alive_any _).mono ?_; rintro e w3 ⟨rfl, rfl⟩))
      go_ret
      exact ⟨rfl, (hb1.alloc (by exact hb1.size) _).trans (hb2.mono (by have := hb1.size; simp; omega))⟩
    · rw [show decide (lo ≤ x ∧ x ≤ hi) = false by simp; omega] at hh
      have HH := Lib.hid hh
      clear hh
      go_enter Try.func3, Try.ntmps3
      go_wp2_with (go_at_call 5; refine (HO.out _).mono ?_; rintro e w1 ⟨rfl, rfl⟩)
      refine (HR.out _).mono ?_
      rintro e w1 ⟨rfl, hb1⟩
      go_wp2_with fail
      refine (made_any _ _ _).mono ?_
      rintro e w2 ⟨rfl, hb2⟩
      go_wp2_with (first
        | (go_at_call 8; refine (sends_yes _ _ _ h1 h2 h3).mono ?_; rintro e w3 ⟨rfl, rfl⟩)
        | (go_at_call 9; refine (HH.out _).mono ?_; rintro e w3 ⟨rfl, rfl⟩)
        | (go_at_call 10; refine (alive_any _).mono ?_; rintro e w3 ⟨rfl, rfl⟩))
      go_ret
      exact ⟨rfl, (hb1.alloc (by exact hb1.size) _).trans (hb2.mono (by have := hb1.size; simp; omega))⟩
    · rw [show decide (lo ≤ x ∧ x ≤ hi) = true by simp; omega] at hh
      have HH := Lib.hid hh
      clear hh
      go_enter Try.func3, Try.ntmps3
      go_wp2_with (go_at_call 5; refine (HO.out _).mono ?_; rintro e w1 ⟨rfl, rfl⟩)
      refine (HR.out _).mono ?_
      rintro e w1 ⟨rfl, hb1⟩
      go_wp2_with fail
      refine (made_any _ _ _).mono ?_
      rintro e w2 ⟨rfl, hb2⟩
      go_wp2_with (first
        | (go_at_call 8; refine (sends_yes _ _ _ h1 h2 h3).mono ?_; rintro e w3 ⟨rfl, rfl⟩)
        | (go_at_call 9; refine (HH.out _).mono ?_; rintro e w3 ⟨rfl, rfl⟩)
        | (go_at_call 10; refine (alive_any _).mono ?_; rintro e w3 ⟨rfl, rfl⟩))
      go_ret
      exact ⟨rfl, (hb1.alloc (by exact hb1.size) _).trans (hb2.mono (by have := hb1.size; simp; omega))⟩
  · obtain ⟨e1, e2, e3⟩ := sp_no h
    have hr := fun w => rspOf_any lo hi w L0 L1 N0 N1
    rw [e1, e2, e3] at hr
    have HR := Lib.hid hr
    have HO := Lib.hid (fun w => spOf_no lo hi w h L0 L1 N0 N1)
    clear hr e1 e2 e3
    have oz : FloatKind.f64.format.order 0 0 = some .eq := by decide +kernel
    have st := fun (w : World) (a : Addr) (b : Nat) (m : Mode) => run_store Try.prog w a (.float .f64 b) m rfl
    go_enter Try.func3, Try.ntmps3
    go_wp2_with (go_at_call 5; refine (HO.out _).mono ?_; rintro e w1 ⟨rfl, rfl⟩)
    refine (HR.out _).mono ?_
    rintro e w1 ⟨rfl, hb1⟩
    go_wp2_with fail
    refine (made_any _ _ _).mono ?_
    rintro e w2 ⟨rfl, hb2⟩
    go_wp2_with (first
      | (go_at_call 8; refine (sends_zero _).mono ?_; rintro e w3 ⟨rfl, rfl⟩)
      | (go_at_call 10; refine (alive_any _).mono ?_; rintro e w3 ⟨rfl, rfl⟩))
    go_ret
    exact ⟨rfl, (hb1.alloc (by exact hb1.size) _).trans (hb2.mono (by have := hb1.size; simp; omega))⟩

theorem flo_same {n : Int} (h0 : 0 ≤ n) (h1 : n ≤ 281474976710655) : FloatKind.f64.format.order (floatOfInt .f64 n) (floatOfInt .f64 n) = some .eq := by
  have := flo_order h0 (show n < 9007199254740992 by omega) h0 (by omega); rw [Int.compare_eq_eq.2 rfl] at this; exact this
theorem nd_same (l id : Int) (h1 : id ≤ 9223372036854775807) : FloatKind.f64.format.order (ndA l id) (ndA l id) = some .eq ∧ FloatKind.f64.format.order (ndZ l id) (ndZ l id) = some .eq := by
  have hb := end_bd l id h1
  by_cases h : RightC l id
  · rw [(nd_yes h).1, (nd_yes h).2]; exact ⟨flo_same hb.1 hb.2.1, flo_same hb.2.2.1 hb.2.2.2⟩
  · rw [(nd_no h).1, (nd_no h).2]; decide +kernel
set_option maxHeartbeats 800000 in
theorem walk_spanNodes (l id : Int) (L0 : -9223372036854775808 ≤ l) (L1 : l ≤ 9223372036854775807) (N0 : -9223372036854775808 ≤ id) (N1 : id ≤ 9223372036854775807) (w : World) :
    Calls Try.prog 4 #[.int .i64 l, .int .i64 id] w fun e w' => e = .returned (.bool true) ∧ Below w.heap.size w w' := by
  obtain ⟨o1, o2⟩ := nd_same l id N1
  have st := fun (w : World) (a : Addr) (b : Nat) (m : Mode) => run_store Try.prog w a (.float .f64 b) m rfl
  go_enter Try.func4, Try.ntmps4
  go_wp2_with (go_at_call 11; refine (spNode_any _ _ _ L0 L1 N0 N1).mono ?_; rintro e w1 ⟨rfl, rfl⟩)
  refine (rspNode_any _ _ _ L0 L1 N0 N1).mono ?_
  rintro e w1 ⟨rfl, hb1⟩
  go_wp2_with fail
  refine (made_any _ _ _).mono ?_
  rintro e w2 ⟨rfl, hb2⟩
  go_wp2_with (go_at_call 10; refine (alive_any _).mono ?_; rintro e w3 ⟨rfl, rfl⟩)
  go_ret
  exact ⟨rfl, (hb1.alloc (by exact hb1.size) _).trans (hb2.mono (by have := hb1.size; simp; omega))⟩

end Go.Proofs.Ytbkhepbplplfjaa
