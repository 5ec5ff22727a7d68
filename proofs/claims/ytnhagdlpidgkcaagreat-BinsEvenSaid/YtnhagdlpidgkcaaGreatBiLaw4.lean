/- The walk of the statement BinsEven of layer bins, over the project's contracts: for every input it returns true, and nothing that was there before is changed. -/
import Derived.Test.YtnhagdlpidgkcaaGreatBiLaw
import Derived.Test.YtnhagdlpidgkcaaGreatBiR
import Derived.Deep.Cut
namespace Go.Proofs.YtnhagdlpidgkcaaGreat
set_option linter.unusedVariables false
set_option maxRecDepth 100000
open Go.RowKit
set_option maxHeartbeats 12800000 in
theorem walk_binsEvenK (KO : BiO) (KR : BiBr) (KE : BiE) (l k kd : Int) (A : Option Addr) (n c : Nat) (L : List Nd) (t : Int) (L0 : -9223372036854775808 ≤ l) (L1 : l ≤ 9223372036854775807) (K0 : -9223372036854775808 ≤ k) (K1 : k ≤ 9223372036854775807) (D0 : -9223372036854775808 ≤ kd) (D1 : kd ≤ 9223372036854775807) (NB : NBds L) (m1 : n ≤ 9223372036854775807)
    (T0 : -9223372036854775808 ≤ t) (T1 : t ≤ 9223372036854775807) (w : World) (hv : NodesAt w (.slice A n c) L) :
    Calls Tryz.prog 5 #[.agg #[.int .i64 l, .int .i64 k, .int .i64 kd, .slice A n c], .int .i64 t] w fun e w' => e = .returned (.bool true) ∧ Below w.heap.size w w' := by
  have X0 := Lib.hid (quad_new w 26 (.int .i64 l) (.int .i64 k) (.int .i64 kd) (.slice A n c))
  have HB0 : Hid (Below w.heap.size w (w.alloc (.cells #[.int .i64 l, .int .i64 k, .int .i64 kd, .slice A n c] 26))) := (Below.refl _ _).alloc (Nat.le_refl _) _
  have PO := Lib.hid KE
  have HV := Lib.hid hv
  have TB := Lib.hid (And.intro T0 T1)
  have HNB : Hid (NBds L) := NB
  have LL := Lib.hid (And.intro L0 L1)
  have AL := Lib.hid (fun v => biAlive_any KO KR v)
  clear KO KE KR K0 K1 D0 D1 m1 hv NB L0 L1 T0 T1
  go_enter Tryz.func5, Tryz.ntmps5
  go_upto_region 1 with fail
  generalize w.alloc (.cells #[.int .i64 l, .int .i64 k, .int .i64 kd, .slice A n c] 26) = W at *
  go_wp2_with fail
  refine (PO.out.even_nil t _).mono ?_
  rintro e U1 ⟨⟨Ax, cx, rfl⟩, hu1⟩
  have V1 := Lib.hid hu1
  have W3 := Lib.hid (HB0.out.trans (hu1.mono HB0.out.size))
  obtain ⟨x0, x1, x2, x3, _, _, _, _, hz⟩ := quad_all (own_below X0.out hu1)
  clear hu1
  cases hld : rnkLdB kd l k n L
  · have LD := Lib.hid (rnkLoad_no l k kd A n c L U1 (HV.out.below W3.out) HNB.out LL.out.1 LL.out.2 hld)
    clear hld
    go_wp2_with fail
    refine LD.out.mono ?_
    rintro e w7 ⟨rfl, hb7⟩
    have Q1 := Lib.hid (W3.out.trans (hb7.mono W3.out.size))
    have Q2 := Lib.hid (Q1.out.alloc Q1.out.size (.cells #[.int .i64 0, .int .i64 0, .slice none 0 0] 35))
    clear hb7 LD x0 x1 x2 x3 hz
    go_wp2_with (go_at_call 11; refine (AL.out _).mono ?_; rintro e v7 ⟨rfl, hbv7⟩)
    go_ret
    exact ⟨rfl, Q2.out.trans (hbv7.mono Q2.out.size)⟩
  · have LD := Lib.hid (rnkLoad_yes l k kd A n c L U1 (HV.out.below W3.out) HNB.out LL.out.1 LL.out.2 hld)
    have NL : Hid (¬ 150 < n) := (of_decide_eq_true hld).1
    clear hld
    go_wp2_with fail
    refine LD.out.mono ?_
    rintro e w7 ⟨q, p, g, h, rfl, hd7, hb7⟩
    have hba := (Below.refl w7.heap.size w7).alloc (Nat.le_refl _) (.cells #[.int .i64 k, .int .i64 l, .slice A n c] 35)
    have Z8 := Lib.hid (bi_next V1.out (hb7.trans (hba.mono hb7.size)))
    have D8 := Lib.hid (hd7.below hba)
    have Y8 := Lib.hid (tri_nw w7 35 (.int .i64 k) (.int .i64 l) (.slice A n c))
    have PN : ∀ w, (binOp .eql 31 (.pointer (some ⟨q, 0, none⟩)) (.pointer none)).run Tryz.prog w = .ok (.bool false) w := fun _ => by kernel_rfl
    clear hd7 hb7 hba LD x0 x1 x2 x3 hz
    go_upto_region 5 with fail
    generalize w7.alloc (.cells #[.int .i64 k, .int .i64 l, .slice A n c] 35) = W8 at *
    have R8 := Lib.hid (HB0.out.trans (Z8.out.mono HB0.out.size))
    have V8 := Lib.hid (HV.out.below R8.out)
    have HN := Lib.hid (nodes_cells V8.out).1
    obtain ⟨x0, x1, x2, x3, _, _, _, _, hz⟩ := quad_all (own_below X0.out Z8.out)
    by_cases hc : 50 < t ∧ 40 < n
    · obtain ⟨h50, h40⟩ := hc
      have h40' : (40 : Int) < (n : Int) := by omega
      go_wp2_with (go_at_call 11; refine (AL.out _).mono ?_; rintro e v7 ⟨rfl, hbv7⟩)
      go_ret
      exact ⟨rfl, R8.out.trans (hbv7.mono R8.out.size)⟩
    have PF := Lib.hid (fun v (hb : Below W8.heap.size W8 v) => PO.out.even t v (D8.out.below hb) (by have := NL.out; omega) TB.out.1 TB.out.2)
    have RF := Lib.hid (fun v (hb : Below W8.heap.size W8 v) => rBiEven_any (l := l) k t A n c L v (V8.out.below hb) D8.out.v.roll (by have := NL.out; omega) TB.out.1 TB.out.2)
    have TLn : (if evE L t = 0 then evF l L t (t.toNat - 1) else []).length ≤ 1000 := by
      split
      · rename_i z
        have e := ev_len l L t (t.toNat - 1)
        have : t ≤ 1000 := by
          unfold evE at z
          split at z
          · omega
          · split at z <;> omega
        omega
      · simp
    generalize (if evE L t = 0 then evF l L t (t.toNat - 1) else []) = T at *
    generalize evE L t = E at *
    have c1' : (E == E) = true := by simp
    have HTL := Lib.hid TLn
    have tail : (¬ 50 < t) ∨ (50 < t ∧ ¬ 40 < n) := by omega
    clear hc TLn
    rcases tail with h50 | ⟨h50, h40⟩
    all_goals
      (try have h40' : ¬ (40 : Int) < (n : Int) := by omega)
      go_wp2_with fail
      refine (PF.out _ (Below.refl _ _)).mono ?_
      rintro e u3 ⟨⟨A3, n3, c3, rfl, hi3⟩, hu3⟩
      have G3 := Lib.hid hu3
      have I3 := Lib.hid hi3
      have n3e := (ints_cells hi3).1
      have N3 : Hid (n3 ≤ 1000) := by show _ ≤ _; have := HTL.out; omega
      obtain ⟨t0, t1, t2, _, _, _, ht⟩ := tri_all (own_below Y8.out hu3)
      clear hu3 hi3 n3e x0 x1 x2 x3 hz
      go_wp2_with fail
      refine (RF.out _ G3.out).mono ?_
      rintro e u4 ⟨⟨A4, n4, c4, rfl, hi4⟩, hu4⟩
      have n4e := (ints_cells hi4).1
      have N4 : Hid (n4 ≤ 1000) := by show _ ≤ _; have := HTL.out; omega
      have G4 := Lib.hid (R8.out.trans ((bi_next G3.out hu4).mono R8.out.size))
      have SM := Lib.hid (same5_any A3 A4 n3 n4 c3 c4 T T u4 (I3.out.below hu4) hi4 (by have := N3.out; omega) (by have := N4.out; omega))
      rw [show decide (T = T) = true from decide_eq_true rfl] at SM
      clear hi4 hu4 n4e t0 t1 t2 ht I3
      go_wp2_with fail
      refine SM.out.mono ?_
      rintro e u5 ⟨rfl, hu5⟩
      have G5 := Lib.hid (G4.out.trans (hu5.mono G4.out.size))
      clear hu5
      go_wp2_with (go_at_call 11; refine (AL.out _).mono ?_; rintro e v7 ⟨rfl, hbv7⟩)
      go_ret
      exact ⟨rfl, G5.out.trans (hbv7.mono G5.out.size)⟩
end Go.Proofs.YtnhagdlpidgkcaaGreat
