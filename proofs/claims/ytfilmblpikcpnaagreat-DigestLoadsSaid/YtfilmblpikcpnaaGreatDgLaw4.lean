/- The walk of the statement DigestLoads of layer digest: for every input it returns true, and nothing that was there before is changed. -/
import Derived.Test.YtfilmblpikcpnaaGreatDgLaw2
import Derived.Test.YtfilmblpikcpnaaGreatDgRef6
namespace Go.Proofs.YtfilmblpikcpnaaGreat
set_option linter.unusedVariables false
set_option maxRecDepth 100000
open Go.RowKit

theorem dgLdE_zero {kd l k : Int} {L : List Nd} (h : dgLdE kd l k L = 0) : (kIs k = true ∧ isP kd l = true) ∧ rollB l L = true ∧ (L.length : Int) ≤ 8 * k ∧ lightB l L k = true := by
  unfold dgLdE at h
  split at h
  · rename_i a
    split at h
    · rename_i b
      split at h
      · rename_i c
        exact ⟨a, b, c.1, c.2⟩
      · simp at h
    · simp at h
  · simp at h
set_option maxHeartbeats 6400000 in
theorem walk_digestLoads (l k kd : Int) (A : Option Addr) (n c : Nat) (L : List Nd) (L0 : -9223372036854775808 ≤ l) (L1 : l ≤ 9223372036854775807) (K0 : -9223372036854775808 ≤ k) (K1 : k ≤ 9223372036854775807) (D0 : -9223372036854775808 ≤ kd) (D1 : kd ≤ 9223372036854775807) (NB : NBds L) (m1 : n ≤ 9223372036854775807)
    (w : World) (H1 : NodesAt w (.slice A n c) L) :
    Calls Tryz.prog 4 #[.agg #[.int .i64 l, .int .i64 k, .int .i64 kd], .slice A n c] w fun e w' => e = .returned (.bool true) ∧ Below w.heap.size w w' := by
  have HB0 : Hid (Below w.heap.size w (w.alloc (.cells #[.int .i64 l, .int .i64 k, .int .i64 kd] 23))) := (Below.refl _ _).alloc (Nat.le_refl _) _
  have X0 := Lib.hid (tri_nw w 23 (.int .i64 l) (.int .i64 k) (.int .i64 kd))
  obtain ⟨x0, x1, x2, _, _, _, hz⟩ := tri_all X0.out
  have HV := Lib.hid (H1.below HB0.out)
  have HNB : Hid (NBds L) := NB
  clear H1 NB K0 K1 D0 D1
  by_cases hn : n ≤ 100
  · have g0 : decide (100 < (n : Int)) = false := decide_eq_false (by omega)
    rcases (show (kd = 1 ∧ 10 < l) ∨ (kd = 1 ∧ l ≤ 10) ∨ ¬ kd = 1 by omega) with ⟨hk1, hl⟩ | hh
    · have g1 : (kd == 1) = true := beq_iff_eq.2 hk1
      have g2 : decide (10 < l) = true := decide_eq_true hl
      clear hk1 hl hn
      go_enter Tryz.func4, Tryz.ntmps4
      go_wp2_with (go_at_call 11; refine (dgAlive_any _).mono ?_; rintro e v7 ⟨rfl, hbv7⟩)
      go_ret
      exact ⟨rfl, HB0.out.trans (hbv7.mono HB0.out.size)⟩
    · have LD := Lib.hid (dgLoad_any kd l k A n c L _ HV.out HNB.out (by omega) L0 L1)
      rcases hh with ⟨hk1, hl⟩ | hk1
      case' inl =>
        have g1 : (kd == 1) = true := beq_iff_eq.2 hk1
        have g2 : decide (10 < l) = false := decide_eq_false (by omega)
        clear hk1 hl
      case' inr =>
        have g1 : (kd == 1) = false := beq_eq_false_iff_ne.2 hk1
        clear hk1
      all_goals
        go_enter Tryz.func4, Tryz.ntmps4
        go_wp2_with fail
        generalize w.alloc (.cells #[.int .i64 l, .int .i64 k, .int .i64 kd] 23) = W at *
        refine LD.out.mono ?_
        rintro e w1 ⟨hb1, ⟨hi, rfl⟩ | ⟨hi, q, p, g, h, rfl, hd⟩⟩
        · have X1 := Lib.hid (own_below X0.out hb1)
          have B1 := Lib.hid (HB0.out.trans (hb1.mono HB0.out.size))
          have RL := Lib.hid (rDgLoad_no kd l k A n c L w1 (HV.out.below hb1) HNB.out (by omega) L0 L1 hi)
          have hx : (dgLdE kd l k L == 0) = false := beq_eq_false_iff_ne.2 hi
          have hx2 : (dgLdE kd l k L != 0) = true := bne_iff_ne.2 hi
          obtain ⟨x0, x1, x2, _, _, _, hz⟩ := tri_all X1.out
          clear hi hb1 LD g0 g1 hn
          generalize dgLdE kd l k L = x at *
          go_wp2_with fail
          refine RL.out.mono ?_
          rintro e w2 ⟨rfl, hb2⟩
          have B2 := Lib.hid (B1.out.trans (hb2.mono B1.out.size))
          have B3 := Lib.hid (B2.out.alloc B2.out.size (.cells #[.int .i64 0, .int .i64 0, .slice none 0 0] 36))
          clear hb2 RL
          go_wp2_with (go_at_call 11; refine (dgAlive_any _).mono ?_; rintro e v7 ⟨rfl, hbv7⟩)
          go_ret
          exact ⟨rfl, B3.out.trans (hbv7.mono B3.out.size)⟩
        · have X1 := Lib.hid (own_below X0.out hb1)
          have B1 := Lib.hid (HB0.out.trans (hb1.mono HB0.out.size))
          have V1 := Lib.hid (HV.out.below hb1)
          have Z := dgLdE_zero hi
          have RL := Lib.hid (rDgLoad_ok kd l k A n c L w1 V1.out HNB.out (by omega) L0 L1 Z.1 Z.2.1 Z.2.2.1 Z.2.2.2)
          have D1 := Lib.hid hd
          have HN : Hid (L.length ≤ 1000) := by have := (nodes_cells V1.out).1; show _ ≤ _; omega
          obtain ⟨x0, x1, x2, _, _, _, hz⟩ := tri_all X1.out
          clear hi hb1 LD g0 g1 Z hd hn
          go_wp2_with fail
          refine RL.out.mono ?_
          rintro e w2 ⟨rfl, hb2⟩
          have hba : Below w2.heap.size w2 (w2.alloc (.cells #[.int .i64 k, .int .i64 l, .slice A n c] 36)) := (Below.refl _ _).alloc (Nat.le_refl _) _
          have B2 := Lib.hid (B1.out.trans (hb2.mono B1.out.size))
          have B3 := Lib.hid (B2.out.trans (hba.mono B2.out.size))
          have X3 := Lib.hid (own_below (own_below X1.out hb2) hba)
          have D3 := Lib.hid ((D1.out.below hb2).below hba)
          have V3 := Lib.hid ((V1.out.below hb2).below hba)
          have LK := Lib.hid (dgLike_any A n c _ D3.out HN.out V3.out)
          obtain ⟨x0, x1, x2, _, _, _, hz⟩ := tri_all X3.out
          clear hb2 RL hba
          go_wp2_with (first
            | (go_at_call 16; refine LK.out.mono ?_; rintro e v6 ⟨rfl, hbv6⟩)
            | (go_at_call 11; refine (dgAlive_any _).mono ?_; rintro e v7 ⟨rfl, hbv7⟩))
          go_ret
          have c6 := B3.out.trans (hbv6.mono B3.out.size)
          exact ⟨rfl, c6.trans (hbv7.mono c6.size)⟩
  · have g0 : decide (100 < (n : Int)) = true := decide_eq_true (by omega)
    clear hn
    go_enter Tryz.func4, Tryz.ntmps4
    go_wp2_with (go_at_call 11; refine (dgAlive_any _).mono ?_; rintro e v7 ⟨rfl, hbv7⟩)
    go_ret
    exact ⟨rfl, HB0.out.trans (hbv7.mono HB0.out.size)⟩

end Go.Proofs.YtfilmblpikcpnaaGreat
