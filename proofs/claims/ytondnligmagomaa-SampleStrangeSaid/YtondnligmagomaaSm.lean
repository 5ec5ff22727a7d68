/- The project's package sample and the document's answer for it: each call answers what the plain numbers say; nothing that was there before is changed. -/
import Derived.Test.YtondnligmagomaaCore
import Derived.Test.YtondnligmagomaaFlt
import Derived.Test.YtondnligmagomaaChecked
namespace Go.Proofs.Ytondnligmagomaa
set_option linter.unusedVariables false
open Go.RowKit

/-- is it a reading that may be? -/
def RdC (v x : Int) : Prop := 0 ≤ v ∧ v ≤ 281474976710655 ∧ 1 ≤ x ∧ x ≤ 72057594037927935
instance (v x : Int) : Decidable (RdC v x) := by unfold RdC; infer_instance
def rdB (v x : Int) : Bool := decide (RdC v x)
def rdV (v x : Int) : Int := if RdC v x then v else 0
def rdX (v x : Int) : Int := if RdC v x then x else 0
theorem rd_yes {v x : Int} (h : RdC v x) : rdV v x = v ∧ rdX v x = x ∧ rdB v x = true := ⟨if_pos h, if_pos h, decide_eq_true h⟩
theorem rd_no {v x : Int} (h : ¬ RdC v x) : rdV v x = 0 ∧ rdX v x = 0 ∧ rdB v x = false := ⟨if_neg h, if_neg h, decide_eq_false h⟩
theorem rd_cases (v x : Int) : v < 0 ∨ (0 ≤ v ∧ 281474976710655 < v) ∨ (0 ≤ v ∧ v ≤ 281474976710655 ∧ x < 1) ∨ (0 ≤ v ∧ v ≤ 281474976710655 ∧ 1 ≤ x ∧ 72057594037927935 < x) ∨ RdC v x := by
  unfold RdC; omega

set_option maxHeartbeats 400000 in
theorem smRight_any (v x : Int) (w : World) :
    Calls Try.prog 17 #[.agg #[.int .i64 v, .int .i64 x]] w fun e w' => e = .returned (.bool (rdB v x)) ∧ Below w.heap.size w w' := by
  rcases rd_cases v x with h | ⟨g1, g2⟩ | ⟨g1, g2, g3⟩ | ⟨g1, g2, g3, g4⟩ | h
  · rw [(rd_no (v := v) (x := x) (by unfold RdC; omega)).2.2]
    go_enter Try.func17, Try.ntmps17
    go_wp2_with fail
    go_ret
    exact ⟨rfl, (Below.refl _ _).alloc (Nat.le_refl _) _⟩
  · rw [(rd_no (v := v) (x := x) (by unfold RdC; omega)).2.2]
    go_enter Try.func17, Try.ntmps17
    go_wp2_with fail
    go_ret
    exact ⟨rfl, (Below.refl _ _).alloc (Nat.le_refl _) _⟩
  · rw [(rd_no (v := v) (x := x) (by unfold RdC; omega)).2.2]
    go_enter Try.func17, Try.ntmps17
    go_wp2_with fail
    go_ret
    exact ⟨rfl, (Below.refl _ _).alloc (Nat.le_refl _) _⟩
  · rw [(rd_no (v := v) (x := x) (by unfold RdC; omega)).2.2]
    go_enter Try.func17, Try.ntmps17
    go_wp2_with fail
    go_ret
    exact ⟨ret_b (decide_eq_false (by omega)), (Below.refl _ _).alloc (Nat.le_refl _) _⟩
  · rw [(rd_yes h).2.2]
    obtain ⟨g1, g2, g3, g4⟩ := h
    go_enter Try.func17, Try.ntmps17
    go_wp2_with fail
    go_ret
    exact ⟨rfl, (Below.refl _ _).alloc (Nat.le_refl _) _⟩
set_option maxHeartbeats 400000 in
theorem rsRight_any (v x : Int) (w : World) :
    Calls Try.prog 13 #[.agg #[.int .i64 v, .int .i64 x]] w fun e w' => e = .returned (.bool (rdB v x)) ∧ Below w.heap.size w w' := by
  rcases rd_cases v x with h | ⟨g1, g2⟩ | ⟨g1, g2, g3⟩ | ⟨g1, g2, g3, g4⟩ | h
  · rw [(rd_no (v := v) (x := x) (by unfold RdC; omega)).2.2]
    go_enter Try.func13, Try.ntmps13
    go_wp2_with fail
    go_ret
    exact ⟨rfl, (Below.refl _ _).alloc (Nat.le_refl _) _⟩
  · rw [(rd_no (v := v) (x := x) (by unfold RdC; omega)).2.2]
    go_enter Try.func13, Try.ntmps13
    go_wp2_with fail
    go_ret
    exact ⟨rfl, (Below.refl _ _).alloc (Nat.le_refl _) _⟩
  · rw [(rd_no (v := v) (x := x) (by unfold RdC; omega)).2.2]
    go_enter Try.func13, Try.ntmps13
    go_wp2_with fail
    go_ret
    exact ⟨rfl, (Below.refl _ _).alloc (Nat.le_refl _) _⟩
  · rw [(rd_no (v := v) (x := x) (by unfold RdC; omega)).2.2]
    go_enter Try.func13, Try.ntmps13
    go_wp2_with fail
    go_ret
    exact ⟨ret_b (decide_eq_false (by omega)), (Below.refl _ _).alloc (Nat.le_refl _) _⟩
  · rw [(rd_yes h).2.2]
    obtain ⟨g1, g2, g3, g4⟩ := h
    go_enter Try.func13, Try.ntmps13
    go_wp2_with fail
    go_ret
    exact ⟨rfl, (Below.refl _ _).alloc (Nat.le_refl _) _⟩
set_option maxHeartbeats 400000 in
theorem rsOf_any (v x : Int) (w : World) :
    Calls Try.prog 9 #[.int .i64 v, .int .i64 x] w fun e w' => e = .returned (.tuple #[.agg #[.int .i64 (rdV v x), .int .i64 (rdX v x)], .bool (rdB v x)]) ∧ Below w.heap.size w w' := by
  by_cases h : RdC v x
  · obtain ⟨e1, e2, e3⟩ := rd_yes h
    have HR := Lib.hid (fun w => rsRight_any v x w)
    rw [e1, e2, e3]
    have E3 := Lib.hid e3
    clear e1 e2 e3
    go_enter Try.func9, Try.ntmps9
    go_wp2_with fail
    refine (HR.out _).mono ?_
    rw [E3.out]
    rintro e w1 ⟨rfl, hb⟩
    obtain ⟨hc, hf⟩ := bcell hb
    have hz : w.heap.size + 1 < w1.heap.size := by have := hb.size; simp at this; omega
    have k0 : w1.cell? ⟨w.heap.size, 0, none⟩ = some (.int .i64 0) := by rw [hc _ _ (by simp; omega)]; simp
    have k1 : w1.cell? ⟨w.heap.size, 1, none⟩ = some (.int .i64 0) := by rw [hc _ _ (by simp; omega)]; simp
    obtain ⟨s0, s1⟩ := set_two k0 k1
    go_wp2_with fail
    exact bodyPost_ret (v := .tuple #[.agg #[.int .i64 v, .int .i64 x], .bool true]) (by simp [results, Try.results9, go_sem, s0, s1]) rfl
      ⟨rfl, (((((Below.refl _ _).alloc (Nat.le_refl _) _).alloc (by simp) _).trans (hb.mono (by simp; omega))).setCell (by simp) _).setCell (by simp) _⟩
  · obtain ⟨e1, e2, e3⟩ := rd_no h
    have HR := Lib.hid (fun w => rsRight_any v x w)
    rw [e1, e2, e3]
    have E3 := Lib.hid e3
    clear e1 e2 e3
    go_enter Try.func9, Try.ntmps9
    go_wp2_with fail
    refine (HR.out _).mono ?_
    rw [E3.out]
    rintro e w1 ⟨rfl, hb⟩
    obtain ⟨hc, hf⟩ := bcell hb
    have hz : w.heap.size + 1 < w1.heap.size := by have := hb.size; simp at this; omega
    have k0 : w1.cell? ⟨w.heap.size, 0, none⟩ = some (.int .i64 0) := by rw [hc _ _ (by simp; omega)]; simp
    have k1 : w1.cell? ⟨w.heap.size, 1, none⟩ = some (.int .i64 0) := by rw [hc _ _ (by simp; omega)]; simp
    obtain ⟨s0, s1⟩ := set_two k0 k1
    go_wp2_with fail
    exact bodyPost_ret (v := .tuple #[.agg #[.int .i64 0, .int .i64 0], .bool false]) (by simp [results, Try.results9, go_sem, s0, s1]) rfl
      ⟨rfl, (((((Below.refl _ _).alloc (Nat.le_refl _) _).alloc (by simp) _).trans (hb.mono (by simp; omega))).setCell (by simp) _).setCell (by simp) _⟩

end Go.Proofs.Ytondnligmagomaa
