/- The walk of SamplePacks: for every input it returns true, and nothing that was there before is changed. -/
import Derived.Test.YtondnligmagomaaSm3
import Derived.Deep.RegionHeld3
import Derived.Deep.DrawnRows
namespace Go.Proofs.Ytondnligmagomaa
set_option linter.unusedVariables false
open Go.RowKit

theorem of_packed {v x : Int} (h : PkC v x) : ComesAs (.iface 38 (.complex .f64 (floatOfInt .f64 v) (floatOfInt .f64 x))) v x true := by
  obtain ⟨r, g⟩ := h
  have e := rd_yes r
  obtain ⟨r1, r2, r3, r4⟩ := r
  have := of_held (held_complex _ _ v x (whole_flo r1 (by omega)) r1 (by omega) (whole_flo (by omega) g) (by omega) g)
  rwa [e.1, e.2.1, e.2.2] at this
theorem of_empty : ComesAs (.iface 38 (.complex .f64 0 0)) 0 0 false := by
  have := of_held (held_complex 0 0 0 0 (by unfold WholeF; decide +kernel) (by omega) (by omega) (by unfold WholeF; decide +kernel) (by omega) (by omega))
  rwa [show rdV 0 0 = 0 from by decide, show rdX 0 0 = 0 from by decide, show rdB 0 0 = false from by decide] at this
attribute [local go_sem ↓] Go.wp_at_zero Go.wp_at_succ
set_option maxHeartbeats 1600000 in
theorem walk_samplePacks (v x : Int) (L0 : -9223372036854775808 ≤ v) (L1 : v ≤ 9223372036854775807) (M0 : -9223372036854775808 ≤ x) (M1 : x ≤ 9223372036854775807) (w : World) :
    Calls Try.prog 7 #[.agg #[.int .i64 v, .int .i64 x]] w fun e w' => e = .returned (.bool true) ∧ Below w.heap.size w w' := by
  by_cases h : PkC v x
  · have E := Lib.hid (pk_yes h)
    have o1 := flo_same53 h.1.1 (by have := h.1.2.1; omega)
    have o2 := flo_same53 (n := x) (by have := h.1.2.2.1; omega) h.2
    have F := Lib.hid h
    clear h
    have HP := Lib.hid (fun w => smPack_any v x w)
    have HQ := Lib.hid (fun w => rsPack_any v x w)
    have HF := Lib.hid (of_packed F.out)
    go_enter Try.func7, Try.ntmps7
    go_wp2_with fail
    refine (HP.out _).mono ?_
    rw [E.out.1, E.out.2.1, E.out.2.2]
    rintro e w1 ⟨rfl, hb1⟩
    obtain ⟨hc1, hf1⟩ := bcell hb1
    have z1 : w.heap.size < w1.heap.size := by have := hb1.size; simp at this; omega
    have k10 : w1.cell? ⟨w.heap.size, 0, none⟩ = some (.int .i64 v) := by rw [hc1 _ _ (by simp)]; simp
    have k11 : w1.cell? ⟨w.heap.size, 1, none⟩ = some (.int .i64 x) := by rw [hc1 _ _ (by simp)]; simp
    clear hc1 hf1
    go_wp2_with fail
    refine (HQ.out _).mono ?_
    rw [E.out.1, E.out.2.1, E.out.2.2]
    rintro e w2 ⟨rfl, hb2⟩
    obtain ⟨hc2, hf2⟩ := bcell hb2
    have z2 : w1.heap.size ≤ w2.heap.size := hb2.size
    have y2 : w.heap.size < w2.heap.size := by omega
    have k20 : w2.cell? ⟨w.heap.size, 0, none⟩ = some (.int .i64 v) := by rw [hc2 _ _ (by omega)]; exact k10
    have k21 : w2.cell? ⟨w.heap.size, 1, none⟩ = some (.int .i64 x) := by rw [hc2 _ _ (by omega)]; exact k11
    clear hc2 hf2 k10 k11
    have st := fun (w : World) (a : Addr) (b : Nat) (m : Mode) => run_store Try.prog w a (.float .f64 b) m rfl
    go_wp2_with fail
    go_region_held3 (fun w' => w'.cell? ⟨w.heap.size, 0, none⟩ = some (.int .i64 v) ∧ w'.cell? ⟨w.heap.size, 1, none⟩ = some (.int .i64 x) ∧ w'.cell? ⟨w2.heap.size, 0, none⟩ = some (.float .f64 (floatOfInt .f64 v)) ∧ w'.cell? ⟨w2.heap.size, 1, none⟩ = some (.float .f64 (floatOfInt .f64 x)) ∧ w2.heap.size < w'.heap.size ∧ Below w2.heap.size w2 w')
      (first | (exact keep_four (by assumption) (by assumption) (by dsimp only; omega) (by dsimp only; omega) (by dsimp only; omega) (by dsimp only; omega)) | (refine ⟨?_, ?_, ?_, ?_, ?_, ?_⟩ <;> (first | (simp [World.cell?_alloc_lt, y2, k20, k21]; done) | exact ((Below.refl _ _).alloc (Nat.le_refl _) _).trans ((below_drew _).mono (by simp)))))
      (first
        | (go_at_call 17; refine (smRight_any v x _).mono ?_; rintro e w' ⟨rfl, hb⟩)
        | (go_at_call 13; refine (rsRight_any v x _).mono ?_; rintro e w' ⟨rfl, hb⟩))
    rename_i hH
    obtain ⟨k30, k31, _, _, h5, hb3⟩ := hH
    clear k20 k21 hb st
    have hN : w.heap.size < w'.heap.size := by omega
    go_wp2_with fail
    refine (HF.out.out _).mono ?_
    rintro e w4 ⟨rfl, hb4⟩
    obtain ⟨hc4, hf4⟩ := bcell hb4
    have z4 : w'.heap.size ≤ w4.heap.size := hb4.size
    have y4 : w.heap.size < w4.heap.size := by omega
    have k40 : w4.cell? ⟨w.heap.size, 0, none⟩ = some (.int .i64 v) := by rw [hc4 _ _ (by omega)]; exact k30
    have k41 : w4.cell? ⟨w.heap.size, 1, none⟩ = some (.int .i64 x) := by rw [hc4 _ _ (by omega)]; exact k31
    clear hc4 hf4 k30 k31
    go_wp2_with (go_at_call 11; refine (smAlive_any _).mono ?_; rintro e w5 ⟨rfl, hb5⟩)
    go_ret
    exact ⟨rfl, (((((((Below.refl _ _).alloc (Nat.le_refl _) _).trans (hb1.mono (by simp))).trans (hb2.mono (by omega))).trans (hb3.mono (by omega))).trans (hb4.mono (by omega))).alloc (by omega) _).trans (hb5.mono (by simp; omega))⟩
  · have E := Lib.hid (pk_no h)
    clear h
    have o1 : FloatKind.f64.format.order 0 0 = some .eq := by decide +kernel
    have HP := Lib.hid (fun w => smPack_any v x w)
    have HQ := Lib.hid (fun w => rsPack_any v x w)
    have HF := Lib.hid (of_empty)
    go_enter Try.func7, Try.ntmps7
    go_wp2_with fail
    refine (HP.out _).mono ?_
    rw [E.out.1, E.out.2.1, E.out.2.2]
    rintro e w1 ⟨rfl, hb1⟩
    obtain ⟨hc1, hf1⟩ := bcell hb1
    have z1 : w.heap.size < w1.heap.size := by have := hb1.size; simp at this; omega
    have k10 : w1.cell? ⟨w.heap.size, 0, none⟩ = some (.int .i64 v) := by rw [hc1 _ _ (by simp)]; simp
    have k11 : w1.cell? ⟨w.heap.size, 1, none⟩ = some (.int .i64 x) := by rw [hc1 _ _ (by simp)]; simp
    clear hc1 hf1
    go_wp2_with fail
    refine (HQ.out _).mono ?_
    rw [E.out.1, E.out.2.1, E.out.2.2]
    rintro e w2 ⟨rfl, hb2⟩
    obtain ⟨hc2, hf2⟩ := bcell hb2
    have z2 : w1.heap.size ≤ w2.heap.size := hb2.size
    have y2 : w.heap.size < w2.heap.size := by omega
    have k20 : w2.cell? ⟨w.heap.size, 0, none⟩ = some (.int .i64 v) := by rw [hc2 _ _ (by omega)]; exact k10
    have k21 : w2.cell? ⟨w.heap.size, 1, none⟩ = some (.int .i64 x) := by rw [hc2 _ _ (by omega)]; exact k11
    clear hc2 hf2 k10 k11
    have st := fun (w : World) (a : Addr) (b : Nat) (m : Mode) => run_store Try.prog w a (.float .f64 b) m rfl
    go_wp2_with fail
    go_region_held3 (fun w' => w'.cell? ⟨w.heap.size, 0, none⟩ = some (.int .i64 v) ∧ w'.cell? ⟨w.heap.size, 1, none⟩ = some (.int .i64 x) ∧ w'.cell? ⟨w2.heap.size, 0, none⟩ = some (.float .f64 (0)) ∧ w'.cell? ⟨w2.heap.size, 1, none⟩ = some (.float .f64 (0)) ∧ w2.heap.size < w'.heap.size ∧ Below w2.heap.size w2 w')
      (first | (exact keep_four (by assumption) (by assumption) (by dsimp only; omega) (by dsimp only; omega) (by dsimp only; omega) (by dsimp only; omega)) | (refine ⟨?_, ?_, ?_, ?_, ?_, ?_⟩ <;> (first | (simp [World.cell?_alloc_lt, y2, k20, k21]; done) | exact ((Below.refl _ _).alloc (Nat.le_refl _) _).trans ((below_drew _).mono (by simp)))))
      (first
        | (go_at_call 17; refine (smRight_any v x _).mono ?_; rintro e w' ⟨rfl, hb⟩)
        | (go_at_call 13; refine (rsRight_any v x _).mono ?_; rintro e w' ⟨rfl, hb⟩))
    rename_i hH
    obtain ⟨k30, k31, _, _, h5, hb3⟩ := hH
    clear k20 k21 hb st
    have hN : w.heap.size < w'.heap.size := by omega
    go_wp2_with fail
    refine (HF.out.out _).mono ?_
    rintro e w4 ⟨rfl, hb4⟩
    obtain ⟨hc4, hf4⟩ := bcell hb4
    have z4 : w'.heap.size ≤ w4.heap.size := hb4.size
    have y4 : w.heap.size < w4.heap.size := by omega
    have k40 : w4.cell? ⟨w.heap.size, 0, none⟩ = some (.int .i64 v) := by rw [hc4 _ _ (by omega)]; exact k30
    have k41 : w4.cell? ⟨w.heap.size, 1, none⟩ = some (.int .i64 x) := by rw [hc4 _ _ (by omega)]; exact k31
    clear hc4 hf4 k30 k31
    go_wp2_with (go_at_call 11; refine (smAlive_any _).mono ?_; rintro e w5 ⟨rfl, hb5⟩)
    go_ret
    exact ⟨rfl, (((((((Below.refl _ _).alloc (Nat.le_refl _) _).trans (hb1.mono (by simp))).trans (hb2.mono (by omega))).trans (hb3.mono (by omega))).trans (hb4.mono (by omega))).alloc (by omega) _).trans (hb5.mono (by simp; omega))⟩

end Go.Proofs.Ytondnligmagomaa
