/- The project's package sample, and the document's answer: complex numbers as readings and readings as complex numbers; readings of whatever kind; each call answers what the plain numbers say; nothing that was there before is changed. -/
import Derived.Test.YtondnligmagomaaSm2
import Derived.Test.YtondnligmagomaaFlt2
namespace Go.Proofs.Ytondnligmagomaa
set_option linter.unusedVariables false
open Go.RowKit

set_option maxHeartbeats 400000 in
theorem smWhole_yes (x : Nat) (n : Int) (w : World) (h : WholeF x n) (n0 : 0 ≤ n) (n1 : n ≤ 9223372036854775807) :
    Calls Try.prog 20 #[.float .f64 x] w fun e w' => e = .returned (.tuple #[.int .i64 n, .bool true]) ∧ w = w' := by
  obtain ⟨f1, f2, f3, f4⟩ := h
  have hc := fun (w : World) => run_convert_float_int (P := Try.prog) w 31 3 .f64 .i64 x n (by rw [Try.underlying31]; rfl) Try.underlying3 f3
  clear f3
  go_enter Try.func20, Try.ntmps20
  go_wp2_with fail
  go_ret2
  exact ⟨rfl, rfl⟩
set_option maxHeartbeats 400000 in
theorem smUnpack_yes (x y : Nat) (a b : Int) (w : World) (hx : WholeF x a) (a0 : 0 ≤ a) (a1 : a ≤ 9007199254740992) (hy : WholeF y b) (b0 : 0 ≤ b) (b1 : b ≤ 9007199254740992) :
    Calls Try.prog 19 #[.complex .f64 x y] w fun e w' => e = .returned (.tuple #[.agg #[.int .i64 a, .int .i64 b], .bool true]) ∧ Below w.heap.size w w' := by
  have HX := Lib.hid (fun w => smWhole_yes x a w hx a0 (by omega))
  have HY := Lib.hid (fun w => smWhole_yes y b w hy b0 (by omega))
  clear hx hy
  go_enter Try.func19, Try.ntmps19
  go_wp2_with fail
  refine (HX.out _).mono ?_
  rintro e w1 ⟨rfl, rfl⟩
  go_wp2_with fail
  refine (HY.out _).mono ?_
  rintro e w1 ⟨rfl, rfl⟩
  go_wp2_with fail
  exact bodyPost_ret (v := .tuple #[.agg #[.int .i64 a, .int .i64 b], .bool true]) (by simp [results, Try.results19, go_sem]) rfl ⟨rfl, (Below.refl _ _).alloc (Nat.le_refl _) _⟩
set_option maxHeartbeats 400000 in
theorem held_complex (x y : Nat) (a b : Int) (hx : WholeF x a) (a0 : 0 ≤ a) (a1 : a ≤ 9007199254740992) (hy : WholeF y b) (b0 : 0 ≤ b) (b1 : b ≤ 9007199254740992) :
    HeldAs (.iface 38 (.complex .f64 x y)) a b true := by
  intro w
  have HU := Lib.hid (fun w => smUnpack_yes x y a b w hx a0 a1 hy b0 b1)
  clear hx hy
  have h1 := fun w => asI_no 38 (.complex .f64 x y) w (by decide)
  have h2 := fun w => asP_no 38 (.complex .f64 x y) w (by decide)
  have h3 := asC_yes (.complex .f64 x y)
  go_enter Try.func18, Try.ntmps18
  go_wp2_with fail
  refine (HU.out _).mono ?_
  rintro e w1 ⟨rfl, hb⟩
  obtain ⟨hc, hf⟩ := bcell hb
  have hz : w.heap.size + 1 < w1.heap.size := by have := hb.size; simp at this; omega
  have k0 : w1.cell? ⟨w.heap.size, 0, none⟩ = some (.int .i64 0) := by rw [hc _ _ (by simp; omega)]; simp
  have k1 : w1.cell? ⟨w.heap.size, 1, none⟩ = some (.int .i64 0) := by rw [hc _ _ (by simp; omega)]; simp
  obtain ⟨s0, s1⟩ := set_two k0 k1
  go_wp2_with fail
  exact bodyPost_ret (v := .tuple #[.agg #[.int .i64 a, .int .i64 b], .bool true]) (by simp [results, Try.results18, go_sem, s0, s1]) rfl
    ⟨rfl, (((((Below.refl _ _).alloc (Nat.le_refl _) _).alloc (by simp) _).trans (hb.mono (by simp; omega))).setCell (by simp) _).setCell (by simp) _⟩
/-- what a held value comes as -/
def ComesAs (v : Value) (a b : Int) (ok : Bool) : Prop := ∀ w, Calls Try.prog 8 #[v] w fun e w' => e = .returned (.tuple #[.agg #[.int .i64 a, .int .i64 b], .bool ok]) ∧ Below w.heap.size w w'
set_option maxHeartbeats 800000 in
theorem of_held {v : Value} {a b : Int} (h : HeldAs v a b true) : ComesAs v (rdV a b) (rdX a b) (rdB a b) := by
  intro w
  have HH := Lib.hid (show ∀ w, Calls Try.prog 18 #[v] w fun e w' => e = .returned (.tuple #[.agg #[.int .i64 a, .int .i64 b], .bool true]) ∧ Below w.heap.size w w' from h)
  clear h
  have HR := Lib.hid (fun w => smRight_any a b w)
  by_cases h : RdC a b
  · obtain ⟨e1, e2, e3⟩ := rd_yes h
    rw [e1, e2, e3]
    have E3 := Lib.hid e3
    clear e1 e2 e3 h
    go_enter Try.func8, Try.ntmps8
    go_wp2_with fail
    refine (HH.out _).mono ?_
    rintro e w1 ⟨rfl, hb⟩
    obtain ⟨hc, hf⟩ := bcell hb
    have hz : w.heap.size < w1.heap.size := by have := hb.size; simp at this; omega
    have k0 : w1.cell? ⟨w.heap.size, 0, none⟩ = some (.int .i64 0) := by rw [hc _ _ (by simp)]; simp
    have k1 : w1.cell? ⟨w.heap.size, 1, none⟩ = some (.int .i64 0) := by rw [hc _ _ (by simp)]; simp
    go_wp2_with fail
    refine (HR.out _).mono ?_
    rw [E3.out]
    rintro e w2 ⟨rfl, hb2⟩
    obtain ⟨hc2, hf2⟩ := bcell hb2
    have hz2 : w1.heap.size < w2.heap.size := by have := hb2.size; simp at this; omega
    have j0 : w2.cell? ⟨w.heap.size, 0, none⟩ = some (.int .i64 0) := by rw [hc2 _ _ (by simp; omega)]; simp [World.cell?_alloc_lt, hz, k0]
    have j1 : w2.cell? ⟨w.heap.size, 1, none⟩ = some (.int .i64 0) := by rw [hc2 _ _ (by simp; omega)]; simp [World.cell?_alloc_lt, hz, k1]
    obtain ⟨s0, s1⟩ := set_two j0 j1
    go_wp2_with fail
    exact bodyPost_ret (v := .tuple #[.agg #[.int .i64 a, .int .i64 b], .bool true]) (by simp [results, Try.results8, go_sem, s0, s1]) rfl
      ⟨rfl, (((((Below.refl _ _).alloc (Nat.le_refl _) _).trans (hb.mono (by simp))).alloc (by omega) _).trans (hb2.mono (by simp; omega))).setCell (by simp) _ |>.setCell (by simp) _⟩
  · obtain ⟨e1, e2, e3⟩ := rd_no h
    rw [e1, e2, e3]
    have E3 := Lib.hid e3
    clear e1 e2 e3 h
    go_enter Try.func8, Try.ntmps8
    go_wp2_with fail
    refine (HH.out _).mono ?_
    rintro e w1 ⟨rfl, hb⟩
    obtain ⟨hc, hf⟩ := bcell hb
    have hz : w.heap.size < w1.heap.size := by have := hb.size; simp at this; omega
    have k0 : w1.cell? ⟨w.heap.size, 0, none⟩ = some (.int .i64 0) := by rw [hc _ _ (by simp)]; simp
    have k1 : w1.cell? ⟨w.heap.size, 1, none⟩ = some (.int .i64 0) := by rw [hc _ _ (by simp)]; simp
    go_wp2_with fail
    refine (HR.out _).mono ?_
    rw [E3.out]
    rintro e w2 ⟨rfl, hb2⟩
    obtain ⟨hc2, hf2⟩ := bcell hb2
    have hz2 : w1.heap.size < w2.heap.size := by have := hb2.size; simp at this; omega
    have j0 : w2.cell? ⟨w.heap.size, 0, none⟩ = some (.int .i64 0) := by rw [hc2 _ _ (by simp; omega)]; simp [World.cell?_alloc_lt, hz, k0]
    have j1 : w2.cell? ⟨w.heap.size, 1, none⟩ = some (.int .i64 0) := by rw [hc2 _ _ (by simp; omega)]; simp [World.cell?_alloc_lt, hz, k1]
    obtain ⟨s0, s1⟩ := set_two j0 j1
    go_wp2_with fail
    exact bodyPost_ret (v := .tuple #[.agg #[.int .i64 0, .int .i64 0], .bool false]) (by simp [results, Try.results8, go_sem, s0, s1]) rfl
      ⟨rfl, (((((Below.refl _ _).alloc (Nat.le_refl _) _).trans (hb.mono (by simp))).alloc (by omega) _).trans (hb2.mono (by simp; omega))).setCell (by simp) _ |>.setCell (by simp) _⟩
set_option maxHeartbeats 800000 in
theorem of_strange {v : Value} (h : Strange v) : ComesAs v 0 0 false := by
  intro w
  have HH := Lib.hid (show ∀ w, Calls Try.prog 18 #[v] w fun e w' => e = .returned (.tuple #[.agg #[.int .i64 0, .int .i64 0], .bool false]) ∧ Below w.heap.size w w' from held_strange v h)
  clear h
  go_enter Try.func8, Try.ntmps8
  go_wp2_with fail
  refine (HH.out _).mono ?_
  rintro e w1 ⟨rfl, hb⟩
  obtain ⟨hc, hf⟩ := bcell hb
  have hz : w.heap.size < w1.heap.size := by have := hb.size; simp at this; omega
  have k0 : w1.cell? ⟨w.heap.size, 0, none⟩ = some (.int .i64 0) := by rw [hc _ _ (by simp)]; simp
  have k1 : w1.cell? ⟨w.heap.size, 1, none⟩ = some (.int .i64 0) := by rw [hc _ _ (by simp)]; simp
  obtain ⟨s0, s1⟩ := set_two k0 k1
  go_wp2_with fail
  exact bodyPost_ret (v := .tuple #[.agg #[.int .i64 0, .int .i64 0], .bool false]) (by simp [results, Try.results8, go_sem, s0, s1, World.cell?_alloc_lt, hz]) rfl
    ⟨rfl, ((((Below.refl _ _).alloc (Nat.le_refl _) _).trans (hb.mono (by simp))).setCell (by simp) _ |>.setCell (by simp) _).alloc (by simp; omega) _⟩
/-- may the reading be packed? -/
def PkC (v x : Int) : Prop := RdC v x ∧ x ≤ 9007199254740992
instance (v x : Int) : Decidable (PkC v x) := by unfold PkC; infer_instance
def pkA (v x : Int) : Nat := if PkC v x then floatOfInt .f64 v else 0
def pkZ (v x : Int) : Nat := if PkC v x then floatOfInt .f64 x else 0
def pkB (v x : Int) : Bool := decide (PkC v x)
theorem pk_yes {v x : Int} (h : PkC v x) : pkA v x = floatOfInt .f64 v ∧ pkZ v x = floatOfInt .f64 x ∧ pkB v x = true := ⟨if_pos h, if_pos h, decide_eq_true h⟩
theorem pk_no {v x : Int} (h : ¬ PkC v x) : pkA v x = 0 ∧ pkZ v x = 0 ∧ pkB v x = false := ⟨if_neg h, if_neg h, decide_eq_false h⟩
set_option maxHeartbeats 800000 in
theorem smPack_any (v x : Int) (w : World) :
    Calls Try.prog 15 #[.agg #[.int .i64 v, .int .i64 x]] w fun e w' => e = .returned (.tuple #[.complex .f64 (pkA v x) (pkZ v x), .bool (pkB v x)]) ∧ Below w.heap.size w w' := by
  have HR := Lib.hid (fun w => smRight_any v x w)
  by_cases h : RdC v x
  · have E3 := Lib.hid (rd_yes h).2.2
    by_cases g : x ≤ 9007199254740992
    · obtain ⟨e1, e2, e3⟩ := pk_yes (v := v) (x := x) ⟨h, g⟩
      rw [e1, e2, e3]
      clear e1 e2 e3
      obtain ⟨r1, r2, r3, r4⟩ := h
      go_enter Try.func15, Try.ntmps15
      go_wp2_with fail
      refine (HR.out _).mono ?_
      rw [E3.out]
      rintro e w1 ⟨rfl, hb⟩
      obtain ⟨hc, hf⟩ := bcell hb
      have k0 : w1.cell? ⟨w.heap.size, 0, none⟩ = some (.int .i64 v) := by rw [hc _ _ (by simp)]; simp
      have k1 : w1.cell? ⟨w.heap.size, 1, none⟩ = some (.int .i64 x) := by rw [hc _ _ (by simp)]; simp
      go_wp2_with fail
      go_ret2
      exact ⟨rfl, ((Below.refl _ _).alloc (Nat.le_refl _) _).trans (hb.mono (by simp))⟩
    · obtain ⟨e1, e2, e3⟩ := pk_no (v := v) (x := x) (fun k => g k.2)
      rw [e1, e2, e3]
      clear e1 e2 e3
      obtain ⟨r1, r2, r3, r4⟩ := h
      go_enter Try.func15, Try.ntmps15
      go_wp2_with fail
      refine (HR.out _).mono ?_
      rw [E3.out]
      rintro e w1 ⟨rfl, hb⟩
      obtain ⟨hc, hf⟩ := bcell hb
      have k0 : w1.cell? ⟨w.heap.size, 0, none⟩ = some (.int .i64 v) := by rw [hc _ _ (by simp)]; simp
      have k1 : w1.cell? ⟨w.heap.size, 1, none⟩ = some (.int .i64 x) := by rw [hc _ _ (by simp)]; simp
      go_wp2_with fail
      go_ret2
      exact ⟨rfl, ((Below.refl _ _).alloc (Nat.le_refl _) _).trans (hb.mono (by simp))⟩
  · have E3 := Lib.hid (rd_no h).2.2
    obtain ⟨e1, e2, e3⟩ := pk_no (v := v) (x := x) (fun k => h k.1)
    rw [e1, e2, e3]
    clear e1 e2 e3 h
    go_enter Try.func15, Try.ntmps15
    go_wp2_with fail
    refine (HR.out _).mono ?_
    rw [E3.out]
    rintro e w1 ⟨rfl, hb⟩
    go_wp2_with fail
    go_ret2
    exact ⟨rfl, ((Below.refl _ _).alloc (Nat.le_refl _) _).trans (hb.mono (by simp))⟩
set_option maxHeartbeats 800000 in
theorem rsPack_any (v x : Int) (w : World) :
    Calls Try.prog 16 #[.agg #[.int .i64 v, .int .i64 x]] w fun e w' => e = .returned (.tuple #[.agg #[.float .f64 (pkA v x), .float .f64 (pkZ v x)], .bool (pkB v x)]) ∧ Below w.heap.size w w' := by
  have HR := Lib.hid (fun w => rsRight_any v x w)
  have st := fun (w : World) (a : Addr) (b : Nat) (m : Mode) => run_store Try.prog w a (.float .f64 b) m rfl
  by_cases h : RdC v x
  · have E3 := Lib.hid (rd_yes h).2.2
    by_cases g : x ≤ 9007199254740992
    · obtain ⟨e1, e2, e3⟩ := pk_yes (v := v) (x := x) ⟨h, g⟩
      rw [e1, e2, e3]
      clear e1 e2 e3
      obtain ⟨r1, r2, r3, r4⟩ := h
      go_enter Try.func16, Try.ntmps16
      go_wp2_with fail
      refine (HR.out _).mono ?_
      rw [E3.out]
      rintro e w1 ⟨rfl, hb⟩
      obtain ⟨hc, hf⟩ := bcell hb
      have hz : w.heap.size + 1 < w1.heap.size := by have := hb.size; simp at this; omega
      have k0 : w1.cell? ⟨w.heap.size, 0, none⟩ = some (.int .i64 v) := by rw [hc _ _ (by simp; omega)]; simp
      have k1 : w1.cell? ⟨w.heap.size, 1, none⟩ = some (.int .i64 x) := by rw [hc _ _ (by simp; omega)]; simp
      have j0 : w1.cell? ⟨w.heap.size + 1, 0, none⟩ = some (.float .f64 0) := by rw [hc _ _ (by simp)]; simp
      have j1 : w1.cell? ⟨w.heap.size + 1, 1, none⟩ = some (.float .f64 0) := by rw [hc _ _ (by simp)]; simp
      obtain ⟨s0, s1⟩ := set_two j0 j1
      have z0 : w1.frozen? ⟨w.heap.size + 1, 0, none⟩ = false := by rw [hf _ _ (by simp)]; simp
      have z1 : ∀ u, (w1.setCell ⟨w.heap.size + 1, 0, none⟩ u).frozen? ⟨w.heap.size + 1, 1, none⟩ = false := by intro u; rw [World.frozen?_setCell]; rw [hf _ _ (by simp)]; simp
      go_wp2_with fail
      exact bodyPost_ret (v := .tuple #[.agg #[.float .f64 (floatOfInt .f64 v), .float .f64 (floatOfInt .f64 x)], .bool true]) (by simp [results, Try.results16, go_sem, s0, s1]) rfl
        ⟨rfl, (((((Below.refl _ _).alloc (Nat.le_refl _) _).alloc (by simp) _).trans (hb.mono (by simp; omega))).setCell (by simp) _).setCell (by simp) _⟩
    · obtain ⟨e1, e2, e3⟩ := pk_no (v := v) (x := x) (fun k => g k.2)
      rw [e1, e2, e3]
      clear e1 e2 e3
      obtain ⟨r1, r2, r3, r4⟩ := h
      go_enter Try.func16, Try.ntmps16
      go_wp2_with fail
      refine (HR.out _).mono ?_
      rw [E3.out]
      rintro e w1 ⟨rfl, hb⟩
      obtain ⟨hc, hf⟩ := bcell hb
      have hz : w.heap.size + 1 < w1.heap.size := by have := hb.size; simp at this; omega
      have k0 : w1.cell? ⟨w.heap.size, 0, none⟩ = some (.int .i64 v) := by rw [hc _ _ (by simp; omega)]; simp
      have k1 : w1.cell? ⟨w.heap.size, 1, none⟩ = some (.int .i64 x) := by rw [hc _ _ (by simp; omega)]; simp
      have j0 : w1.cell? ⟨w.heap.size + 1, 0, none⟩ = some (.float .f64 0) := by rw [hc _ _ (by simp)]; simp
      have j1 : w1.cell? ⟨w.heap.size + 1, 1, none⟩ = some (.float .f64 0) := by rw [hc _ _ (by simp)]; simp
      obtain ⟨s0, s1⟩ := set_two j0 j1
      have z0 : w1.frozen? ⟨w.heap.size + 1, 0, none⟩ = false := by rw [hf _ _ (by simp)]; simp
      have z1 : ∀ u, (w1.setCell ⟨w.heap.size + 1, 0, none⟩ u).frozen? ⟨w.heap.size + 1, 1, none⟩ = false := by intro u; rw [World.frozen?_setCell]; rw [hf _ _ (by simp)]; simp
      go_wp2_with fail
      exact bodyPost_ret (v := .tuple #[.agg #[.float .f64 0, .float .f64 0], .bool false]) (by simp [results, Try.results16, go_sem, s0, s1]) rfl
        ⟨rfl, (((((Below.refl _ _).alloc (Nat.le_refl _) _).alloc (by simp) _).trans (hb.mono (by simp; omega))).setCell (by simp) _).setCell (by simp) _⟩
  · have E3 := Lib.hid (rd_no h).2.2
    obtain ⟨e1, e2, e3⟩ := pk_no (v := v) (x := x) (fun k => h k.1)
    rw [e1, e2, e3]
    clear e1 e2 e3 h
    go_enter Try.func16, Try.ntmps16
    go_wp2_with fail
    refine (HR.out _).mono ?_
    rw [E3.out]
    rintro e w1 ⟨rfl, hb⟩
    obtain ⟨hc, hf⟩ := bcell hb
    have hz : w.heap.size + 1 < w1.heap.size := by have := hb.size; simp at this; omega
    have j0 : w1.cell? ⟨w.heap.size + 1, 0, none⟩ = some (.float .f64 0) := by rw [hc _ _ (by simp)]; simp
    have j1 : w1.cell? ⟨w.heap.size + 1, 1, none⟩ = some (.float .f64 0) := by rw [hc _ _ (by simp)]; simp
    obtain ⟨s0, s1⟩ := set_two j0 j1
    have z0 : w1.frozen? ⟨w.heap.size + 1, 0, none⟩ = false := by rw [hf _ _ (by simp)]; simp
    have z1 : ∀ u, (w1.setCell ⟨w.heap.size + 1, 0, none⟩ u).frozen? ⟨w.heap.size + 1, 1, none⟩ = false := by intro u; rw [World.frozen?_setCell]; rw [hf _ _ (by simp)]; simp
    go_wp2_with fail
    exact bodyPost_ret (v := .tuple #[.agg #[.float .f64 0, .float .f64 0], .bool false]) (by simp [results, Try.results16, go_sem, s0, s1]) rfl
      ⟨rfl, (((((Below.refl _ _).alloc (Nat.le_refl _) _).alloc (by simp) _).trans (hb.mono (by simp; omega))).setCell (by simp) _).setCell (by simp) _⟩
theorem of_five : ComesAs (.iface 3 (.int .i64 5)) 5 1 true := by
  have := of_held (held_int 5)
  rwa [show rdV 5 1 = 5 from by decide, show rdX 5 1 = 1 from by decide, show rdB 5 1 = true from by decide] at this
theorem of_compl : ComesAs (.iface 38 (.complex .f64 4617315517961601024 4613937818241073152)) 5 3 true := by
  have := of_held (held_complex 4617315517961601024 4613937818241073152 5 3 (by unfold WholeF; decide +kernel) (by omega) (by omega) (by unfold WholeF; decide +kernel) (by omega) (by omega))
  rwa [show rdV 5 3 = 5 from by decide, show rdX 5 3 = 3 from by decide, show rdB 5 3 = true from by decide] at this
theorem of_text (s : ByteArray) : ComesAs (.iface 9 (.string s)) 0 0 false :=
  of_strange (.inr ⟨_, _, rfl, by decide, by decide, by decide, by decide⟩)
/-- the contract, for the walk -/
theorem ComesAs.out {v : Value} {a b : Int} {ok : Bool} (h : ComesAs v a b ok) (w : World) : Calls Try.prog 8 #[v] w fun e w' => e = .returned (.tuple #[.agg #[.int .i64 a, .int .i64 b], .bool ok]) ∧ Below w.heap.size w w' := h w
set_option maxHeartbeats 800000 in
theorem smAlive_any (w : World) : Calls Try.prog 11 #[] w fun e w' => e = .returned (.bool true) ∧ Below w.heap.size w w' := by
  go_enter Try.func11, Try.ntmps11
  go_wp2_with fail
  refine (of_five.out _).mono ?_
  rintro e w1 ⟨rfl, hb1⟩
  go_wp2_with fail
  refine (of_compl.out _).mono ?_
  rintro e w2 ⟨rfl, hb2⟩
  obtain ⟨hc2, hf2⟩ := bcell hb2
  have hz2 : w1.heap.size < w2.heap.size := by have := hb2.size; simp at this; omega
  have k20 : w2.cell? ⟨w1.heap.size, 0, none⟩ = some (.int .i64 5) := by rw [hc2 _ _ (by simp)]; simp
  have k21 : w2.cell? ⟨w1.heap.size, 1, none⟩ = some (.int .i64 1) := by rw [hc2 _ _ (by simp)]; simp
  go_wp2_with fail
  refine ((of_text _).out _).mono ?_
  rintro e w3 ⟨rfl, hb3⟩
  obtain ⟨hc3, hf3⟩ := bcell hb3
  have hz3 : w2.heap.size < w3.heap.size := by have := hb3.size; simp at this; omega
  have k30 : w3.cell? ⟨w1.heap.size, 0, none⟩ = some (.int .i64 5) := by rw [hc3 _ _ (by simp; omega)]; simp [World.cell?_alloc_lt, hz2, k20]
  have k31 : w3.cell? ⟨w1.heap.size, 1, none⟩ = some (.int .i64 1) := by rw [hc3 _ _ (by simp; omega)]; simp [World.cell?_alloc_lt, hz2, k21]
  have j30 : w3.cell? ⟨w2.heap.size, 0, none⟩ = some (.int .i64 5) := by rw [hc3 _ _ (by simp)]; simp
  have j31 : w3.cell? ⟨w2.heap.size, 1, none⟩ = some (.int .i64 3) := by rw [hc3 _ _ (by simp)]; simp
  have hz4 : w1.heap.size < w3.heap.size := by omega
  clear hc2 hf2 hc3 hf3 k20 k21
  go_wp2_with fail
  go_ret
  exact ⟨rfl, (((hb1.alloc hb1.size _).trans (hb2.mono (by have := hb1.size; simp; omega))).alloc (by have := hb1.size; omega) _ |>.trans (hb3.mono (by have := hb1.size; simp; omega))).alloc (by have := hb1.size; omega) _⟩

end Go.Proofs.Ytondnligmagomaa
