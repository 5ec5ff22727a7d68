/- The project's package bag: Rank, Between, Kth, Ends, Items. -/
import Derived.Test.YtfleaaokbjgljaaBg2
namespace Go.Proofs.Ytfleaaokbjgljaa
set_option linter.unusedVariables false
set_option maxRecDepth 100000
open Go.RowKit
attribute [local go_sem ↓] Go.wp_at_zero Go.wp_at_succ

theorem bgRank_nil (x : Int) (w : World) : Calls Try.prog 17 #[.pointer none, .int .i64 x] w fun e w' => e = .returned (.int .i64 0) ∧ w = w' := by
  go_enter Try.func17, Try.ntmps17
  go_wp2_with fail
  go_ret
  exact ⟨rfl, rfl⟩
set_option maxHeartbeats 1600000 in
theorem bgRank_any {B g : Nat} {l : Int} {L : List Nd} {v : Value} (x : Int) (w : World) (d : BgA w B g l L v) (hn : L.length ≤ 1000000) :
    Calls Try.prog 17 #[.pointer (some ⟨g, 0, none⟩), .int .i64 x] w fun e w' => e = .returned (.int .i64 (betN L 0 x)) ∧ Below w.heap.size w w' := by
  obtain ⟨A, n, c, rfl⟩ := ownNd_slice d.row
  obtain ⟨i0, hi, hz0, hz1, hz2⟩ := info_parts read_info
  have D := Lib.hid d
  have hm := (nodes_cells d.nodes).1
  have hlt : leN L x ≤ n := by have := le_le L x; omega
  have hnc : leN L x ≤ c := by have := (nodes_cells d.nodes).2.1; omega
  have hnn : n ≤ 1000000 := by omega
  have c2 := d.cells.2.2
  have hg : Hid (g < w.heap.size) := d.lt.2.1
  have HR := Lib.hid (rank_cut d.bag.good x (fun m hm => (d.bag.bds m hm).1.1))
  have W := Lib.hid (fun w1 (hb : Below w.heap.size w w1) => weigh_any A (leN L x) c (L.take (leN L x)) w1 (nodes_take (d.nodes.below hb) hlt) (fun m hm => good_nonneg d.bag.good m (List.mem_of_mem_take hm)) (by have := sum_take_le (good_nonneg d.bag.good) (leN L x); have := d.bag.tot; omega) (by omega))
  have sl := sl_to (P := Try.prog) Try.underlying22 hi hz1 A n c (leN L x) hnc
  clear d hm
  go_enter Try.func17, Try.ntmps17
  go_wp2_with fail
  go_region_held3 (fun w' => w'.cell? ⟨g, 2, none⟩ = some (.slice A n c) ∧ Below w.heap.size w w')
    (first | assumption | (exact held1 (by assumption) (by assumption) hg.out) | (exact held1N (by assumption) _) | (exact ⟨c2, below_drew _⟩))
    (first
      | (go_at_call 44; refine (bgUpTo_any x _ (D.out.below (held1B (p := ⟨g, 2, none⟩) (x := .slice A n c) (by assumption))) hnn).mono ?_; rintro e w1 ⟨rfl, hb1⟩)
      | (go_at_call 43; refine (W.out _ (held1B (p := ⟨g, 2, none⟩) (x := .slice A n c) (by assumption))).mono ?_; rintro e w2 ⟨rfl, hb2⟩))
  rename_i hH
  have hbb := hH.2
  go_wp2_with fail
  go_ret
  exact ⟨ret_n HR.out.symm, hbb⟩
theorem bgBetween_nil (x y : Int) (w : World) : Calls Try.prog 19 #[.pointer none, .int .i64 x, .int .i64 y] w fun e w' => e = .returned (.int .i64 0) ∧ w = w' := by
  go_enter Try.func19, Try.ntmps19
  go_wp2_with fail
  go_ret
  exact ⟨rfl, rfl⟩
set_option maxHeartbeats 1600000 in
theorem bgBetween_any {B g : Nat} {l : Int} {L : List Nd} {v : Value} (x y : Int) (w : World) (d : BgA w B g l L v) (hn : L.length ≤ 1000000) :
    Calls Try.prog 19 #[.pointer (some ⟨g, 0, none⟩), .int .i64 x, .int .i64 y] w fun e w' => e = .returned (.int .i64 (betN L x y)) ∧ Below w.heap.size w w' := by
  rcases Int.lt_or_le y x with hxy | hxy
  · have HR := Lib.hid (bet_rev (L := L) hxy)
    clear d hn
    go_enter Try.func19, Try.ntmps19
    go_wp2_with fail
    go_ret
    exact ⟨ret_n HR.out.symm, Below.refl ..⟩
  · obtain ⟨A, n, c, rfl⟩ := ownNd_slice d.row
    obtain ⟨i0, hi, hz0, hz1, hz2⟩ := info_parts read_info
    have D := Lib.hid d
    have hm := (nodes_cells d.nodes).1
    have hlt : leN L y ≤ n := by have := le_le L y; omega
    have hnc : leN L y ≤ c := by have := (nodes_cells d.nodes).2.1; omega
    have hlo : ltN L x ≤ leN L y := by rw [le_lt]; exact lt_mono (by omega)
    have hnn : n ≤ 1000000 := by omega
    have c2 := d.cells.2.2
    have hg : Hid (g < w.heap.size) := d.lt.2.1
    have HR := Lib.hid (bet_cut d.bag.good hxy)
    have NN : NonNeg ((L.take (leN L y)).drop (ltN L x)) := fun m hm => good_nonneg d.bag.good m (List.mem_of_mem_take (List.mem_of_mem_drop hm))
    have TT : sumC ((L.take (leN L y)).drop (ltN L x)) ≤ 72057594037927935 := by
      have a := (bet_bd (good_nonneg d.bag.good) x y).2
      rw [HR.out] at a
      have := d.bag.tot
      omega
    have W := Lib.hid (fun w1 (hb : Below w.heap.size w w1) => weigh_any (advO A c (ltN L x) 2) (leN L y - ltN L x) (c - ltN L x) ((L.take (leN L y)).drop (ltN L x)) w1 (nodes_mid (d.nodes.below hb) hlo hlt) NN TT (by omega))
    have sl := sl_mid (P := Try.prog) Try.underlying22 hi hz1 A n c (ltN L x) (leN L y) hlo hnc
    have hb' : ¬ y < x := by omega
    clear d hm NN TT
    go_enter Try.func19, Try.ntmps19
    go_wp2_with fail
    go_region_held3 (fun w' => w'.cell? ⟨g, 2, none⟩ = some (.slice A n c) ∧ Below w.heap.size w w')
      (first | assumption | (exact held1 (by assumption) (by assumption) hg.out) | (exact held1N (by assumption) _) | (exact ⟨c2, below_drew _⟩))
      (first
        | (go_at_call 40; refine (bgBelow_any x _ (D.out.below (held1B (p := ⟨g, 2, none⟩) (x := .slice A n c) (by assumption))) hnn).mono ?_; rintro e w1 ⟨rfl, hb1⟩)
        | (go_at_call 44; refine (bgUpTo_any y _ (D.out.below (held1B (p := ⟨g, 2, none⟩) (x := .slice A n c) (by assumption))) hnn).mono ?_; rintro e w3 ⟨rfl, hb3⟩)
        | (go_at_call 43; refine (W.out _ (held1B (p := ⟨g, 2, none⟩) (x := .slice A n c) (by assumption))).mono ?_; rintro e w2 ⟨rfl, hb2⟩))
    rename_i hH
    have hbb := hH.2
    go_wp2_with fail
    go_ret
    exact ⟨ret_n HR.out.symm, hbb⟩
theorem bgEnds_nil (w : World) : Calls Try.prog 21 #[.pointer none] w fun e w' => e = .returned (.tuple #[.int .i64 0, .int .i64 0, .bool false]) ∧ w = w' := by
  go_enter Try.func21, Try.ntmps21
  go_wp2_with (go_at_call 32; refine (bgLen_nil _).mono ?_; rintro e w1 ⟨rfl, rfl⟩)
  go_ret3
  exact ⟨rfl, rfl⟩
set_option maxHeartbeats 1600000 in
theorem bgEnds_any {B g : Nat} {l : Int} {L : List Nd} {v : Value} (w : World) (d : BgA w B g l L v) (hn : L.length ≤ 1000000) :
    Calls Try.prog 21 #[.pointer (some ⟨g, 0, none⟩)] w fun e w' => (e = .returned (if L = [] then .tuple #[.int .i64 0, .int .i64 0, .bool false] else .tuple #[.int .i64 (L.getD 0 nz).1, .int .i64 (L.getD (L.length - 1) nz).1, .bool true])) ∧ ∃ q, w' = w.drewN q := by
  obtain ⟨A, n, c, rfl⟩ := ownNd_slice d.row
  have D := Lib.hid d
  have c2 := d.cells.2.2
  obtain ⟨hm, hc1, hc2, hat⟩ := nodes_cells d.nodes
  rcases Nat.eq_zero_or_pos n with h0 | h0
  · have hL : L = [] := List.eq_nil_of_length_eq_zero (by omega)
    rw [if_pos hL]
    have LN : Hid (Calls Try.prog 32 #[.pointer (some ⟨g, 0, none⟩)] w fun e w' => e = .returned (.int .i64 0) ∧ w = w') := (bgLen_any w D.out).mono fun e w' ⟨a, b⟩ => ⟨by rw [a, hL]; rfl, b⟩
    clear hm hc1 hc2 hat d hL
    go_enter Try.func21, Try.ntmps21
    go_wp2_with (go_at_call 32; refine LN.out.mono ?_; rintro e w1 ⟨rfl, rfl⟩)
    go_ret3
    exact ⟨rfl, 0, rfl⟩
  · have hL : ¬ L = [] := fun e => by rw [e] at hm; simp at hm; omega
    rw [if_neg hL]
    obtain ⟨b, o, rfl, hin⟩ := hat (by omega)
    have e0 := (hin.2 0 (by omega)).1
    have e1 := (hin.2 (L.length - 1) (by omega)).1
    rw [Nat.zero_mul, Nat.add_zero] at e0
    have LN : Hid (Calls Try.prog 32 #[.pointer (some ⟨g, 0, none⟩)] w fun e w' => e = .returned (.int .i64 (n : Int)) ∧ w = w') := (bgLen_any w D.out).mono fun e w' ⟨a, b⟩ => ⟨by rw [a, hm], b⟩
    generalize (L.getD 0 nz).1 = x at *
    generalize (L.getD (L.length - 1) nz).1 = y at *
    rw [← hm] at e1
    have hn1 : n ≤ 1000000 := by omega
    obtain ⟨k, rfl⟩ : ∃ k, n = k + 1 := ⟨n - 1, by omega⟩
    rw [Nat.add_sub_cancel] at e1
    clear hm hc1 hc2 hat d hL hin hn h0
    have k1 : ((k + 1 : Nat) : Int) - 1 = (k : Int) := by omega
    have k2 : (0 : Int) < ((k + 1 : Nat) : Int) := by omega
    have k3 : (k : Int) < ((k + 1 : Nat) : Int) := by omega
    have k4 : (((k + 1 : Nat) : Int) == 0) = false := by simp; omega
    obtain ⟨m, hm⟩ : ∃ m : Nat, m = k + 1 := ⟨_, rfl⟩
    rw [← hm] at *
    have k5 : (0 : Int) ≤ (k : Int) := Int.natCast_nonneg _
    have HM := Lib.hid hm
    clear hm
    go_enter Try.func21, Try.ntmps21
    go_wp2_with (go_at_call 32; refine LN.out.mono ?_; rintro e w1 ⟨rfl, rfl⟩)
    go_quiet (fail)
    go_wp2_with fail
    go_ret3
    exact ⟨rfl, _, rfl⟩
theorem bgItems_nil (w : World) : Calls Try.prog 33 #[.pointer none] w fun e w' => e = .returned (.slice none 0 0) ∧ w = w' := by
  go_enter Try.func33, Try.ntmps33
  go_wp2_with fail
  go_ret
  exact ⟨rfl, rfl⟩

end Go.Proofs.Ytfleaaokbjgljaa
