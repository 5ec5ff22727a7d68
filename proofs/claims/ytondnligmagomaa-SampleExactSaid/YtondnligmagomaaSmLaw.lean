/- The walks of the statements of layer sample that are stated: for every input each returns true, and nothing that was there before is changed. -/
import Derived.Test.YtondnligmagomaaSm3
namespace Go.Proofs.Ytondnligmagomaa
set_option linter.unusedVariables false
open Go.RowKit

set_option maxHeartbeats 800000 in
theorem walk_sampleExact (n m : Int) (L0 : -9223372036854775808 ≤ n) (L1 : n ≤ 9223372036854775807) (M0 : -9223372036854775808 ≤ m) (M1 : m ≤ 9223372036854775807) (w : World) :
    Calls Try.prog 5 #[.int .i64 n, .int .i64 m] w fun e w' => e = .returned (.bool true) ∧ Below w.heap.size w w' := by
  go_enter Try.func5, Try.ntmps5
  go_wp2_with fail
  refine ((of_held (held_int n)).out _).mono ?_
  rintro e w1 ⟨rfl, hb1⟩
  go_wp2_with (go_at_call 12; refine (smExact_int _ _).mono ?_; rintro e wx ⟨rfl, rfl⟩)
  refine ((of_held (held_int m)).out _).mono ?_
  rintro e w2 ⟨rfl, hb2⟩
  obtain ⟨hc2, hf2⟩ := bcell hb2
  have hz2 : w1.heap.size < w2.heap.size := by have := hb2.size; simp at this; omega
  have k20 : w2.cell? ⟨w1.heap.size, 0, none⟩ = some (.int .i64 (rdV n 1)) := by rw [hc2 _ _ (by simp)]; simp
  have k21 : w2.cell? ⟨w1.heap.size, 1, none⟩ = some (.int .i64 (rdX n 1)) := by rw [hc2 _ _ (by simp)]; simp
  clear hc2 hf2
  go_wp2_with fail
  refine (rsOf_any n 1 _).mono ?_
  rintro e w3 ⟨rfl, hb3⟩
  obtain ⟨hc3, hf3⟩ := bcell hb3
  have hz3 : w2.heap.size < w3.heap.size := by have := hb3.size; simp at this; omega
  have k30 : w3.cell? ⟨w1.heap.size, 0, none⟩ = some (.int .i64 (rdV n 1)) := by rw [hc3 _ _ (by simp; omega)]; simp [World.cell?_alloc_lt, hz2, k20]
  have k31 : w3.cell? ⟨w1.heap.size, 1, none⟩ = some (.int .i64 (rdX n 1)) := by rw [hc3 _ _ (by simp; omega)]; simp [World.cell?_alloc_lt, hz2, k21]
  have j30 : w3.cell? ⟨w2.heap.size, 0, none⟩ = some (.int .i64 (rdV m 1)) := by rw [hc3 _ _ (by simp)]; simp
  have j31 : w3.cell? ⟨w2.heap.size, 1, none⟩ = some (.int .i64 (rdX m 1)) := by rw [hc3 _ _ (by simp)]; simp
  have hy3 : w1.heap.size < w3.heap.size := by omega
  clear hc3 hf3 k20 k21
  go_wp2_with fail
  refine (rsOf_any m 1 _).mono ?_
  rintro e w4 ⟨rfl, hb4⟩
  obtain ⟨hc4, hf4⟩ := bcell hb4
  have hz4 : w3.heap.size < w4.heap.size := by have := hb4.size; simp at this; omega
  have k40 : w4.cell? ⟨w1.heap.size, 0, none⟩ = some (.int .i64 (rdV n 1)) := by rw [hc4 _ _ (by simp; omega)]; simp [World.cell?_alloc_lt, hy3, k30]
  have k41 : w4.cell? ⟨w1.heap.size, 1, none⟩ = some (.int .i64 (rdX n 1)) := by rw [hc4 _ _ (by simp; omega)]; simp [World.cell?_alloc_lt, hy3, k31]
  have j40 : w4.cell? ⟨w2.heap.size, 0, none⟩ = some (.int .i64 (rdV m 1)) := by rw [hc4 _ _ (by simp; omega)]; simp [World.cell?_alloc_lt, hz3, j30]
  have j41 : w4.cell? ⟨w2.heap.size, 1, none⟩ = some (.int .i64 (rdX m 1)) := by rw [hc4 _ _ (by simp; omega)]; simp [World.cell?_alloc_lt, hz3, j31]
  have i40 : w4.cell? ⟨w3.heap.size, 0, none⟩ = some (.int .i64 (rdV n 1)) := by rw [hc4 _ _ (by simp)]; simp
  have i41 : w4.cell? ⟨w3.heap.size, 1, none⟩ = some (.int .i64 (rdX n 1)) := by rw [hc4 _ _ (by simp)]; simp
  have hy4 : w1.heap.size < w4.heap.size := by omega
  have hx4 : w2.heap.size < w4.heap.size := by omega
  clear hc4 hf4 k30 k31 j30 j31
  have s1 := hb1.size
  go_wp2_with (first
    | (go_at_call 12; refine (smExact_int _ _).mono ?_; rintro e wx ⟨rfl, rfl⟩)
    | (go_at_call 11; refine (smAlive_any _).mono ?_; rintro e w5 ⟨rfl, hb5⟩))
  go_ret
  exact ⟨rfl, (((((((hb1.alloc s1 _).trans (hb2.mono (by simp; omega))).alloc (by omega) _).trans (hb3.mono (by simp; omega))).alloc (by omega) _).trans (hb4.mono (by simp; omega))).alloc (by omega) _).trans (hb5.mono (by simp; omega))⟩

set_option maxHeartbeats 1600000 in
theorem walk_sampleNumbers (n x : Int) (L0 : -9223372036854775808 ≤ n) (L1 : n ≤ 9223372036854775807) (M0 : -9223372036854775808 ≤ x) (M1 : x ≤ 9223372036854775807) (w : World) :
    Calls Try.prog 3 #[.int .i64 n, .int .i64 x] w fun e w' => e = .returned (.bool true) ∧ Below w.heap.size w w' := by
  go_enter Try.func3, Try.ntmps3
  go_wp2_with fail
  refine ((of_held (held_int n)).out _).mono ?_
  rintro e w1 ⟨rfl, hb1⟩
  go_wp2_with fail
  refine (rsOf_any n 1 _).mono ?_
  rintro e w2 ⟨rfl, hb2⟩
  obtain ⟨hc2, hf2⟩ := bcell hb2
  have z1_2 : w1.heap.size < w2.heap.size := by have := hb2.size; simp at this; omega
  have c2_1_0 : w2.cell? ⟨w1.heap.size, 0, none⟩ = some (.int .i64 (rdV n 1)) := by rw [hc2 _ _ (by simp)]; simp
  have c2_1_1 : w2.cell? ⟨w1.heap.size, 1, none⟩ = some (.int .i64 (rdX n 1)) := by rw [hc2 _ _ (by simp)]; simp
  clear hc2 hf2
  go_wp2_with fail
  refine ((of_held (held_pair n x)).out _).mono ?_
  rintro e w3 ⟨rfl, hb3⟩
  obtain ⟨hc3, hf3⟩ := bcell hb3
  have z2_3 : w2.heap.size < w3.heap.size := by have := hb3.size; simp at this; omega
  have c3_1_0 : w3.cell? ⟨w1.heap.size, 0, none⟩ = some (.int .i64 (rdV n 1)) := by rw [hc3 _ _ (by simp; omega)]; simp [World.cell?_alloc_lt, z1_2, c2_1_0]
  have c3_1_1 : w3.cell? ⟨w1.heap.size, 1, none⟩ = some (.int .i64 (rdX n 1)) := by rw [hc3 _ _ (by simp; omega)]; simp [World.cell?_alloc_lt, z1_2, c2_1_1]
  have c3_2_0 : w3.cell? ⟨w2.heap.size, 0, none⟩ = some (.int .i64 (rdV n 1)) := by rw [hc3 _ _ (by simp)]; simp
  have c3_2_1 : w3.cell? ⟨w2.heap.size, 1, none⟩ = some (.int .i64 (rdX n 1)) := by rw [hc3 _ _ (by simp)]; simp
  have z1_3 : w1.heap.size < w3.heap.size := by omega
  clear hc3 hf3 c2_1_0 c2_1_1
  go_wp2_with fail
  refine (rsOf_any n x _).mono ?_
  rintro e w4 ⟨rfl, hb4⟩
  obtain ⟨hc4, hf4⟩ := bcell hb4
  have z3_4 : w3.heap.size < w4.heap.size := by have := hb4.size; simp at this; omega
  have c4_1_0 : w4.cell? ⟨w1.heap.size, 0, none⟩ = some (.int .i64 (rdV n 1)) := by rw [hc4 _ _ (by simp; omega)]; simp [World.cell?_alloc_lt, z1_3, c3_1_0]
  have c4_1_1 : w4.cell? ⟨w1.heap.size, 1, none⟩ = some (.int .i64 (rdX n 1)) := by rw [hc4 _ _ (by simp; omega)]; simp [World.cell?_alloc_lt, z1_3, c3_1_1]
  have c4_2_0 : w4.cell? ⟨w2.heap.size, 0, none⟩ = some (.int .i64 (rdV n 1)) := by rw [hc4 _ _ (by simp; omega)]; simp [World.cell?_alloc_lt, z2_3, c3_2_0]
  have c4_2_1 : w4.cell? ⟨w2.heap.size, 1, none⟩ = some (.int .i64 (rdX n 1)) := by rw [hc4 _ _ (by simp; omega)]; simp [World.cell?_alloc_lt, z2_3, c3_2_1]
  have c4_3_0 : w4.cell? ⟨w3.heap.size, 0, none⟩ = some (.int .i64 (rdV n x)) := by rw [hc4 _ _ (by simp)]; simp
  have c4_3_1 : w4.cell? ⟨w3.heap.size, 1, none⟩ = some (.int .i64 (rdX n x)) := by rw [hc4 _ _ (by simp)]; simp
  have z1_4 : w1.heap.size < w4.heap.size := by omega
  have z2_4 : w2.heap.size < w4.heap.size := by omega
  clear hc4 hf4 c3_1_0 c3_1_1 c3_2_0 c3_2_1
  go_wp2_with fail
  refine ((of_held (held_reading n x)).out _).mono ?_
  rintro e w5 ⟨rfl, hb5⟩
  obtain ⟨hc5, hf5⟩ := bcell hb5
  have z4_5 : w4.heap.size < w5.heap.size := by have := hb5.size; simp at this; omega
  have c5_1_0 : w5.cell? ⟨w1.heap.size, 0, none⟩ = some (.int .i64 (rdV n 1)) := by rw [hc5 _ _ (by simp; omega)]; simp [World.cell?_alloc_lt, z1_4, c4_1_0]
  have c5_1_1 : w5.cell? ⟨w1.heap.size, 1, none⟩ = some (.int .i64 (rdX n 1)) := by rw [hc5 _ _ (by simp; omega)]; simp [World.cell?_alloc_lt, z1_4, c4_1_1]
  have c5_2_0 : w5.cell? ⟨w2.heap.size, 0, none⟩ = some (.int .i64 (rdV n 1)) := by rw [hc5 _ _ (by simp; omega)]; simp [World.cell?_alloc_lt, z2_4, c4_2_0]
  have c5_2_1 : w5.cell? ⟨w2.heap.size, 1, none⟩ = some (.int .i64 (rdX n 1)) := by rw [hc5 _ _ (by simp; omega)]; simp [World.cell?_alloc_lt, z2_4, c4_2_1]
  have c5_3_0 : w5.cell? ⟨w3.heap.size, 0, none⟩ = some (.int .i64 (rdV n x)) := by rw [hc5 _ _ (by simp; omega)]; simp [World.cell?_alloc_lt, z3_4, c4_3_0]
  have c5_3_1 : w5.cell? ⟨w3.heap.size, 1, none⟩ = some (.int .i64 (rdX n x)) := by rw [hc5 _ _ (by simp; omega)]; simp [World.cell?_alloc_lt, z3_4, c4_3_1]
  have c5_4_0 : w5.cell? ⟨w4.heap.size, 0, none⟩ = some (.int .i64 (rdV n x)) := by rw [hc5 _ _ (by simp)]; simp
  have c5_4_1 : w5.cell? ⟨w4.heap.size, 1, none⟩ = some (.int .i64 (rdX n x)) := by rw [hc5 _ _ (by simp)]; simp
  have z1_5 : w1.heap.size < w5.heap.size := by omega
  have z2_5 : w2.heap.size < w5.heap.size := by omega
  have z3_5 : w3.heap.size < w5.heap.size := by omega
  clear hc5 hf5 c4_1_0 c4_1_1 c4_2_0 c4_2_1 c4_3_0 c4_3_1
  have s1 := hb1.size
  go_wp2_with (first
    | (go_at_call 10; ((with_reducible refine (smKind_int _ _).mono ?_); rintro e wx ⟨rfl, rfl⟩))
    | (go_at_call 10; ((with_reducible refine (smKind_pair _ _).mono ?_); rintro e wx ⟨rfl, rfl⟩))
    | (go_at_call 11; refine (smAlive_any _).mono ?_; rintro e w6 ⟨rfl, hb6⟩))
  go_ret
  exact ⟨rfl, (((((((((hb1.alloc s1 _).trans (hb2.mono (by simp; omega))).alloc (by omega) _).trans (hb3.mono (by simp; omega))).alloc (by omega) _).trans (hb4.mono (by simp; omega))).alloc (by omega) _).trans (hb5.mono (by simp; omega))).alloc (by omega) _).trans (hb6.mono (by simp; omega))⟩

end Go.Proofs.Ytondnligmagomaa
