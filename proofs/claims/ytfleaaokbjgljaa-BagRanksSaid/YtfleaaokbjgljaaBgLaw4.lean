/- The walk of BagRanks. -/
import Derived.Test.YtfleaaokbjgljaaBgLaw2
namespace Go.Proofs.Ytfleaaokbjgljaa
set_option linter.unusedVariables false
set_option maxRecDepth 100000
open Go.RowKit
attribute [local go_sem ↓] Go.wp_at_zero Go.wp_at_succ

theorem bx3c (w : World) (t : TypeId) (a b c : Value) : (w.alloc (.cells #[a, b, c] t)).cell? ⟨w.heap.size, 0, none⟩ = some a ∧ (w.alloc (.cells #[a, b, c] t)).cell? ⟨w.heap.size, 1, none⟩ = some b ∧ (w.alloc (.cells #[a, b, c] t)).cell? ⟨w.heap.size, 2, none⟩ = some c := ⟨by simp, by simp, by simp⟩
set_option maxHeartbeats 6400000 in
theorem walk_bagRanks (l : Int) (A : Option Addr) (n c : Nat) (R : List Nd) (a0 a1 a2 : Int) (L0 : -9223372036854775808 ≤ l) (L1 : l ≤ 9223372036854775807) (hB : NBds R) (hc : n ≤ 9223372036854775807) (A00 : -9223372036854775808 ≤ a0) (A01 : a0 ≤ 9223372036854775807) (A10 : -9223372036854775808 ≤ a1) (A11 : a1 ≤ 9223372036854775807) (A20 : -9223372036854775808 ≤ a2) (A21 : a2 ≤ 9223372036854775807) (w : World) (h : NodesAt w (.slice A n c) R) :
    Calls Try.prog 4 #[.int .i64 l, .slice A n c, .agg #[.int .i64 a0, .int .i64 a1, .int .i64 a2]] w fun e w' => e = .returned (.bool true) ∧ Below w.heap.size w w' := by
  have hb0 : Below w.heap.size w (w.alloc (.cells #[.int .i64 a0, .int .i64 a1, .int .i64 a2] 37)) := (Below.refl _ _).alloc (Nat.le_refl _) _
  have HB0 := Lib.hid hb0
  have HN := Lib.hid (h.below hb0)
  have HNB := Lib.hid hB
  have hL := Lib.hid (nodes_cells h).1
  clear h hB hc
  by_cases hn : n ≤ 100 ∧ 1 ≤ l ∧ l ≤ 48
  · obtain ⟨n1, u0, u1⟩ := hn
    obtain ⟨x0, x1, x2⟩ := bx3c w 37 (.int .i64 a0) (.int .i64 a1) (.int .i64 a2)
    have hzW : Hid ((w.alloc (.cells #[.int .i64 a0, .int .i64 a1, .int .i64 a2] 37)).heap.size = w.heap.size + 1) := by show _ = _; simp
    go_enter Try.func4, Try.ntmps4
    go_wp2_with fail
    generalize w.alloc (.cells #[.int .i64 a0, .int .i64 a1, .int .i64 a2] 37) = w1 at *
    refine (bgMade_any l A n c R w1 HN.out HNB.out ⟨u0, u1⟩ (by omega)).mono ?_
    rintro e w2 ⟨g, v, A5, m5, c5, N, rfl, M⟩
    have hSl : (ofS l R).length ≤ 100 := by have := of_len l R; have := hL.out; omega
    have hz1 := hzW.out
    have zs := M.below.size
    have b2 := M.below
    have M3 := Lib.hid (M.to ((Below.refl _ _).alloc (Nat.le_refl _) (.cells #[.int .i64 l, .slice A5 m5 c5] 29)))
    clear M
    have b23 : Below w2.heap.size w2 (w2.alloc (.cells #[.int .i64 l, .slice A5 m5 c5] 29)) := (Below.refl _ _).alloc (Nat.le_refl _) _
    generalize ofS l R = S at *
    have y0 := (b2.cell (p := ⟨w.heap.size, 0, none⟩) (by show w.heap.size < _; omega)).trans x0
    have y1 := (b2.cell (p := ⟨w.heap.size, 1, none⟩) (by show w.heap.size < _; omega)).trans x1
    have y2 := (b2.cell (p := ⟨w.heap.size, 2, none⟩) (by show w.heap.size < _; omega)).trans x2
    have hO : w.heap.size < w2.heap.size := by omega
    clear x0 x1 x2
    have hq1 : ∀ w, (binOp .eql 24 (.pointer (some ⟨g, 0, none⟩)) (.pointer none)).run Try.prog w = .ok (.bool false) w := fun _ => by kernel_rfl
    have z0 : (w2.alloc (.cells #[.int .i64 l, .slice A5 m5 c5] 29)).cell? ⟨w.heap.size, 0, none⟩ = some (.int .i64 a0) := ((Below.refl w2.heap.size w2).alloc (Nat.le_refl _) _ |>.cell (p := ⟨w.heap.size, 0, none⟩) hO).trans y0
    have z1 : (w2.alloc (.cells #[.int .i64 l, .slice A5 m5 c5] 29)).cell? ⟨w.heap.size, 1, none⟩ = some (.int .i64 a1) := ((Below.refl w2.heap.size w2).alloc (Nat.le_refl _) _ |>.cell (p := ⟨w.heap.size, 1, none⟩) hO).trans y1
    have z2 : (w2.alloc (.cells #[.int .i64 l, .slice A5 m5 c5] 29)).cell? ⟨w.heap.size, 2, none⟩ = some (.int .i64 a2) := ((Below.refl w2.heap.size w2).alloc (Nat.le_refl _) _ |>.cell (p := ⟨w.heap.size, 2, none⟩) hO).trans y2
    have z3 : (w2.alloc (.cells #[.int .i64 l, .slice A5 m5 c5] 29)).cell? ⟨w2.heap.size, 0, none⟩ = some (.int .i64 l) := by simp
    have z4 : (w2.alloc (.cells #[.int .i64 l, .slice A5 m5 c5] 29)).cell? ⟨w2.heap.size, 1, none⟩ = some (.slice A5 m5 c5) := by simp
    have hz3 : Hid ((w2.alloc (.cells #[.int .i64 l, .slice A5 m5 c5] 29)).heap.size = w2.heap.size + 1) := by show _ = _; simp
    have hm5 := Lib.hid (nodes_cells M3.out.nodes).1
    have hm5b : m5 ≤ 1000 := by have := hm5.out; omega
    go_wp2_with fail
    generalize w2.alloc (.cells #[.int .i64 l, .slice A5 m5 c5] 29) = w3 at *
    have hz3' := hz3.out
    refine (bgKth_any a2 w3 M3.out.bag (by omega) A20 A21).mono ?_
    rintro e w4 ⟨rfl, q4, rfl⟩
    have D4 : Below w3.heap.size w3 (w3.drewN q4) := drewN_below (Below.refl _ _) _
    have DD := Lib.hid D4
    have t0 : (w3.drewN q4).cell? ⟨w.heap.size, 0, none⟩ = some (.int .i64 a0) := z0
    have t1 : (w3.drewN q4).cell? ⟨w.heap.size, 1, none⟩ = some (.int .i64 a1) := z1
    have t2 : (w3.drewN q4).cell? ⟨w.heap.size, 2, none⟩ = some (.int .i64 a2) := z2
    have t3 : (w3.drewN q4).cell? ⟨w2.heap.size, 0, none⟩ = some (.int .i64 l) := z3
    have t4 : (w3.drewN q4).cell? ⟨w2.heap.size, 1, none⟩ = some (.slice A5 m5 c5) := z4
    have hz4 : (w3.drewN q4).heap.size = w2.heap.size + 1 := hz3'
    clear D4 z0 z1 z2 z3 z4 y0 y1 y2
    generalize w3.drewN q4 = w4 at *
    go_wp2_with fail
    refine (rgKth_any l a2 A5 m5 c5 S w4 (M3.out.nodes.below DD.out) M3.out.bag.bag (by omega) A20 A21).mono ?_
    rintro e w5 ⟨rfl, hb5⟩
    have B5 := Lib.hid (DD.out.trans (hb5.mono DD.out.size))
    have s0 := (hb5.cell (p := ⟨w.heap.size, 0, none⟩) (by show w.heap.size < _; omega)).trans t0
    have s1 := (hb5.cell (p := ⟨w.heap.size, 1, none⟩) (by show w.heap.size < _; omega)).trans t1
    have s3 := (hb5.cell (p := ⟨w2.heap.size, 0, none⟩) (by show w2.heap.size < _; omega)).trans t3
    have s4 := (hb5.cell (p := ⟨w2.heap.size, 1, none⟩) (by show w2.heap.size < _; omega)).trans t4
    have hz5 := hb5.size
    clear t0 t1 t2 t3 t4 hb5
    have k0 : Hid (w.heap.size < w5.heap.size) := by show _ < _; omega
    have k1 : Hid (w2.heap.size < w5.heap.size) := by show _ < _; omega
    have BCC := Lib.hid M3.out.bag.bag
    have RK := Lib.hid (fun x w6 (q : Below w5.heap.size w5 w6) => bgRank_any x w6 ((M3.out.bag.below B5.out).below q) (by omega))
    have BT := Lib.hid (fun x y w6 (q : Below w5.heap.size w5 w6) => bgBetween_any x y w6 ((M3.out.bag.below B5.out).below q) (by omega))
    have RRK := Lib.hid (fun x w6 (q : Below w5.heap.size w5 w6) => rgRank_any l x A5 m5 c5 S w6 ((M3.out.nodes.below B5.out).below q) (good_nonneg BCC.out.good) BCC.out.tot (by omega))
    have RBT := Lib.hid (fun x y w6 (q : Below w5.heap.size w5 w6) => rgBetween_any l x y A5 m5 c5 S w6 ((M3.out.nodes.below B5.out).below q) (good_nonneg BCC.out.good) BCC.out.tot (by omega))
    go_wp2_with fail
    go_region_held3 (fun w' => w'.cell? ⟨w.heap.size, 0, none⟩ = some (.int .i64 a0) ∧ w'.cell? ⟨w.heap.size, 1, none⟩ = some (.int .i64 a1) ∧ w'.cell? ⟨w2.heap.size, 0, none⟩ = some (.int .i64 l) ∧ w'.cell? ⟨w2.heap.size, 1, none⟩ = some (.slice A5 m5 c5) ∧ Below w5.heap.size w5 w')
      (first | assumption | (exact held4 (by assumption) (by assumption) k0.out k0.out k1.out k1.out) | (exact held4N (by assumption) _) | (exact ⟨s0, s1, s3, s4, below_drew _⟩))
      (first
        | (go_at_call 17; refine (RK.out _ _ (held4B (p := ⟨w.heap.size, 0, none⟩) (q := ⟨w.heap.size, 1, none⟩) (r := ⟨w2.heap.size, 0, none⟩) (s := ⟨w2.heap.size, 1, none⟩) (x := .int .i64 a0) (y := .int .i64 a1) (z := .int .i64 l) (u := .slice A5 m5 c5) (by assumption))).mono ?_; rintro e w6 ⟨rfl, hb6⟩)
        | (go_at_call 18; refine (RRK.out _ _ (held4B (p := ⟨w.heap.size, 0, none⟩) (q := ⟨w.heap.size, 1, none⟩) (r := ⟨w2.heap.size, 0, none⟩) (s := ⟨w2.heap.size, 1, none⟩) (x := .int .i64 a0) (y := .int .i64 a1) (z := .int .i64 l) (u := .slice A5 m5 c5) (by assumption))).mono ?_; rintro e w6 ⟨rfl, hb6⟩)
        | (go_at_call 19; refine (BT.out _ _ _ (held4B (p := ⟨w.heap.size, 0, none⟩) (q := ⟨w.heap.size, 1, none⟩) (r := ⟨w2.heap.size, 0, none⟩) (s := ⟨w2.heap.size, 1, none⟩) (x := .int .i64 a0) (y := .int .i64 a1) (z := .int .i64 l) (u := .slice A5 m5 c5) (by assumption))).mono ?_; rintro e w6 ⟨rfl, hb6⟩)
        | (go_at_call 20; refine (RBT.out _ _ _ (held4B (p := ⟨w.heap.size, 0, none⟩) (q := ⟨w.heap.size, 1, none⟩) (r := ⟨w2.heap.size, 0, none⟩) (s := ⟨w2.heap.size, 1, none⟩) (x := .int .i64 a0) (y := .int .i64 a1) (z := .int .i64 l) (u := .slice A5 m5 c5) (by assumption))).mono ?_; rintro e w6 ⟨rfl, hb6⟩))
    rename_i hH
    obtain ⟨r0, r1, r3, r4, hbr⟩ := hH
    have DB := Lib.hid (fun w6 (q : Below w5.heap.size w5 w6) => (M3.out.bag.below B5.out).below q)
    have NB := Lib.hid (fun w6 (q : Below w5.heap.size w5 w6) => (M3.out.nodes.below B5.out).below q)
    have BB := Lib.hid (fun w6 (q : Below w5.heap.size w5 w6) => (HB0.out.trans (b2.mono HB0.out.size)).trans (((b23.trans (B5.out.mono (by omega))).trans (q.mono (by omega))).mono (by have := HB0.out.size; omega)))
    clear RK BT RRK RBT s0 s1 s3 s4
    by_cases hS : S = []
    · have EN := bgEnds_any _ (DB.out _ hbr) (by omega)
      rw [if_pos hS] at EN
      have h0 : m5 = 0 := by rw [hm5.out, hS]; rfl
      subst h0
      clear hS
      go_wp2_with fail
      refine EN.mono ?_
      rintro e w7 ⟨rfl, q7, rfl⟩
      go_wp2_with (go_at_call 9; refine (bgAlive_any _).mono ?_; rintro e w8 ⟨rfl, b8⟩)
      go_ret
      have BBx := BB.out _ (drewN_below hbr q7)
      exact ⟨rfl, BBx.trans (b8.mono BBx.size)⟩
    · have EN := bgEnds_any _ (DB.out _ hbr) (by omega)
      rw [if_neg hS] at EN
      have hlS : 0 < S.length := by
        rcases Nat.eq_zero_or_pos S.length with q | q
        · exact absurd (List.eq_nil_of_length_eq_zero q) hS
        · exact q
      obtain ⟨k, hk⟩ : ∃ k, S.length = k + 1 := ⟨S.length - 1, by omega⟩
      obtain ⟨b, o, rfl, hin⟩ := (nodes_cells (NB.out _ hbr)).2.2.2 hlS
      have e0 := (hin.2 0 hlS).1
      have e1 := (hin.2 k (by omega)).1
      rw [Nat.zero_mul, Nat.add_zero] at e0
      have hk2 : S.length - 1 = k := by omega
      rw [hk2] at EN
      have k1 : (m5 : Int) - 1 = (k : Int) := by have := hm5.out; omega
      have k2 : (0 : Int) < (m5 : Int) := by have := hm5.out; omega
      have k3 : (k : Int) < (m5 : Int) := by have := hm5.out; omega
      have k4 : ((m5 : Int) == 0) = false := by have := hm5.out; simp; omega
      have k5 : (0 : Int) ≤ (k : Int) := Int.natCast_nonneg _
      have k6 : ¬ m5 = 0 := by have := hm5.out; omega
      have k7 : (k : Nat) < m5 := by have := hm5.out; omega
      clear hS hin hk hk2
      generalize (S.getD 0 nz).1 = f at *
      generalize (S.getD k nz).1 = t at *
      go_wp2_with fail
      refine EN.mono ?_
      rintro e w7 ⟨rfl, q7, rfl⟩
      have BBx := BB.out _ (drewN_below hbr q7)
      have f0 : (w6.drewN q7).cell? ⟨b, o, none⟩ = some (.int .i64 f) := e0
      have f1 : (w6.drewN q7).cell? ⟨b, o + k * 2, none⟩ = some (.int .i64 t) := e1
      have f2 : (w6.drewN q7).cell? ⟨w2.heap.size, 1, none⟩ = some (.slice (some ⟨b, o, none⟩) m5 c5) := r4
      generalize w6.drewN q7 = w7 at *
      go_wp2_with (go_at_call 9; refine (bgAlive_any _).mono ?_; rintro e w8 ⟨rfl, b8⟩)
      go_ret
      exact ⟨rfl, BBx.trans (b8.mono BBx.size)⟩
  · rcases (show ¬ n ≤ 100 ∨ (n ≤ 100 ∧ l < 1) ∨ (n ≤ 100 ∧ ¬ l < 1 ∧ 48 < l) by omega) with q | ⟨q, q2⟩ | ⟨q, q2, q3⟩
    all_goals
      clear hn
      go_enter Try.func4, Try.ntmps4
      go_wp2_with (go_at_call 9; refine (bgAlive_any _).mono ?_; rintro e w3 ⟨rfl, b3⟩)
      go_ret
      exact ⟨rfl, HB0.out.trans (b3.mono HB0.out.size)⟩

end Go.Proofs.Ytfleaaokbjgljaa
