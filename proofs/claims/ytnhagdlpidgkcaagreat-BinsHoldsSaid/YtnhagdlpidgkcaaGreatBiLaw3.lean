/- The walk of the statement BinsBounds of layer bins, over the project's contracts: for every input it returns true, and nothing that was there before is changed. -/
import Derived.Test.YtnhagdlpidgkcaaGreatBiLaw
import Derived.Test.YtnhagdlpidgkcaaGreatBiR
import Derived.Test.YtnhagdlpidgkcaaGreatReK
import Derived.Test.YtnhagdlpidgkcaaGreatRnkLaw
import Derived.Test.YtnhagdlpidgkcaaGreatRoQ
import Derived.Test.YtnhagdlpidgkcaaGreatBoth
import Derived.Deep.Cut
namespace Go.Proofs.YtnhagdlpidgkcaaGreat
set_option linter.unusedVariables false
set_option maxRecDepth 100000
open Go.RowKit
theorem runs_two {w : World} {A : Option Addr} {n c i : Nat} {T : List Rn} (h : RunsAt w (.slice A n c) T) (hi : i < n) : ∃ b o, A = some ⟨b, o, none⟩ ∧ b < w.heap.size ∧ w.cell? ⟨b, o + i * 2, none⟩ = some (.int .i64 (T.getD i rz).1) ∧ w.cell? ⟨b, o + i * 2 + 1, none⟩ = some (.int .i64 (T.getD i rz).2) := by
  obtain ⟨e, hc⟩ := runs_cells h
  obtain ⟨b, o, h1, h2, h3⟩ := hc (by omega)
  exact ⟨b, o, h1, h2, h3 i (by omega)⟩
theorem runs_none (w : World) (A : Option Addr) (c : Nat) : RunsAt w (.slice A 0 c) [] := ⟨A, c, rfl, fun h => by simp at h⟩
set_option maxHeartbeats 12800000 in
theorem walk_binsBoundsK (KO : BiO) (KR : BiBr) (KB : BiB) (l k kd : Int) (A : Option Addr) (n c : Nat) (L : List Nd) (A1 : Option Addr) (n1 c1 : Nat) (U : List Int) (L0 : -9223372036854775808 ≤ l) (L1 : l ≤ 9223372036854775807) (K0 : -9223372036854775808 ≤ k) (K1 : k ≤ 9223372036854775807) (D0 : -9223372036854775808 ≤ kd) (D1 : kd ≤ 9223372036854775807) (NB : NBds L) (m1 : n ≤ 9223372036854775807)
    (UB : Bds U) (m2 : n1 ≤ 9223372036854775807) (w : World) (hv : NodesAt w (.slice A n c) L) (hu : IntsAt w (.slice A1 n1 c1) U) :
    Calls Tryz.prog 4 #[.agg #[.int .i64 l, .int .i64 k, .int .i64 kd, .slice A n c], .slice A1 n1 c1] w fun e w' => e = .returned (.bool true) ∧ Below w.heap.size w w' := by
  have X0 := Lib.hid (quad_new w 26 (.int .i64 l) (.int .i64 k) (.int .i64 kd) (.slice A n c))
  have HB0 : Hid (Below w.heap.size w (w.alloc (.cells #[.int .i64 l, .int .i64 k, .int .i64 kd, .slice A n c] 26))) := (Below.refl _ _).alloc (Nat.le_refl _) _
  have PO := Lib.hid KB
  have HV := Lib.hid hv
  have HU := Lib.hid hu
  have HUB := Lib.hid UB
  have HNB : Hid (NBds L) := NB
  have LL := Lib.hid (And.intro L0 L1)
  have AL := Lib.hid (fun v => biAlive_any KO KR v)
  clear KO KB KR K0 K1 D0 D1 m1 hv hu NB L0 L1 UB
  go_enter Tryz.func4, Tryz.ntmps4
  go_upto_region 1 with fail
  generalize w.alloc (.cells #[.int .i64 l, .int .i64 k, .int .i64 kd, .slice A n c] 26) = W at *
  go_wp2_with fail
  refine (PO.out.bounds_nil _ (HU.out.below HB0.out) HUB.out).mono ?_
  rintro e U1 ⟨⟨Ax, cx, rfl⟩, hu1⟩
  have V1 := Lib.hid hu1
  have W3 := Lib.hid (HB0.out.trans (hu1.mono HB0.out.size))
  obtain ⟨x0, x1, x2, x3, _, _, _, _, hz⟩ := quad_all (own_below X0.out hu1)
  clear hu1
  cases hld : rnkLdB kd l k n L
  · have LD := Lib.hid (rnkLoad_no l k kd A n c L U1 (HV.out.below W3.out) HNB.out LL.out.1 LL.out.2 hld)
    clear hld
    go_wp2_with fail
    refine LD.out.mono ?_
    rintro e w7 ⟨rfl, hb7⟩
    have Q1 := Lib.hid (W3.out.trans (hb7.mono W3.out.size))
    have Q2 := Lib.hid (Q1.out.alloc Q1.out.size (.cells #[.int .i64 0, .int .i64 0, .slice none 0 0] 35))
    clear hb7 LD x0 x1 x2 x3 hz
    go_wp2_with (go_at_call 11; refine (AL.out _).mono ?_; rintro e v7 ⟨rfl, hbv7⟩)
    go_ret
    exact ⟨rfl, Q2.out.trans (hbv7.mono Q2.out.size)⟩
  · have LD := Lib.hid (rnkLoad_yes l k kd A n c L U1 (HV.out.below W3.out) HNB.out LL.out.1 LL.out.2 hld)
    have NL : Hid (¬ 150 < n) := (of_decide_eq_true hld).1
    clear hld
    go_wp2_with fail
    refine LD.out.mono ?_
    rintro e w7 ⟨q, p, g, h, rfl, hd7, hb7⟩
    have hba := (Below.refl w7.heap.size w7).alloc (Nat.le_refl _) (.cells #[.int .i64 k, .int .i64 l, .slice A n c] 35)
    have Z8 := Lib.hid (bi_next V1.out (hb7.trans (hba.mono hb7.size)))
    have D8 := Lib.hid (hd7.below hba)
    have Y8 := Lib.hid (tri_nw w7 35 (.int .i64 k) (.int .i64 l) (.slice A n c))
    have PN : ∀ w, (binOp .eql 31 (.pointer (some ⟨q, 0, none⟩)) (.pointer none)).run Tryz.prog w = .ok (.bool false) w := fun _ => by kernel_rfl
    clear hd7 hb7 hba LD x0 x1 x2 x3 hz
    go_upto_region 5 with fail
    generalize w7.alloc (.cells #[.int .i64 k, .int .i64 l, .slice A n c] 35) = W8 at *
    have R8 := Lib.hid (HB0.out.trans (Z8.out.mono HB0.out.size))
    have V8 := Lib.hid (HV.out.below R8.out)
    have I8 := Lib.hid (HU.out.below R8.out)
    have X8 := Lib.hid (own_below X0.out Z8.out)
    by_cases h60 : 60 < n1
    · have h60' : (60 : Int) < (n1 : Int) := by omega
      go_wp2_with (go_at_call 11; refine (AL.out _).mono ?_; rintro e v7 ⟨rfl, hbv7⟩)
      go_ret
      exact ⟨rfl, R8.out.trans (hbv7.mono R8.out.size)⟩
    have h60' : ¬ (60 : Int) < (n1 : Int) := by omega
    have rl := D8.out.v.roll
    have H60 := Lib.hid h60
    have mm1 : n1 ≤ 60 := by omega
    obtain ⟨E, T, hT, PF, RF⟩ : ∃ (E : Int) (T : List Rn), T.length ≤ 61
        ∧ Hid (∀ v, Below W8.heap.size W8 v → Calls Tryz.prog 16 #[.pointer (some ⟨q, 0, none⟩), .slice A1 n1 c1] v fun e w' => (∃ A2 n2 c2, e = .returned (.tuple #[.slice A2 n2 c2, .int .i64 E]) ∧ RunsAt w' (.slice A2 n2 c2) T) ∧ Below v.heap.size v w')
        ∧ Hid (∀ v, Below W8.heap.size W8 v → Calls Tryz.prog 17 #[.agg #[.int .i64 k, .int .i64 l, .slice A n c], .slice A1 n1 c1] v fun e w' => (∃ A2 n2 c2, e = .returned (.tuple #[.slice A2 n2 c2, .int .i64 E]) ∧ RunsAt w' (.slice A2 n2 c2) T) ∧ Below v.heap.size v w') := by
      have el := (ints_cells I8.out).1
      cases he : egB l U
      · refine ⟨8, [], by simp, Lib.hid (fun v hb => ?_), Lib.hid (fun v hb => ?_)⟩
        · refine (PO.out.bounds_no v (D8.out.below hb) (by have := NL.out; omega) (I8.out.below hb) HUB.out (by omega) he).mono ?_
          rintro e w' ⟨⟨A2, c2, rfl⟩, hbw⟩
          exact ⟨⟨A2, 0, c2, rfl, runs_none ..⟩, hbw⟩
        · refine (rBiBounds_no (l := l) k A n c A1 n1 c1 U v (I8.out.below hb) HUB.out (by omega) LL.out.1 LL.out.2 he).mono ?_
          rintro e w' ⟨rfl, hbw⟩
          exact ⟨⟨none, 0, 0, rfl, runs_none ..⟩, hbw⟩
      · refine ⟨0, bndN l L U, by rw [bnd_len]; omega, Lib.hid (fun v hb => PO.out.bounds_yes v (D8.out.below hb) (by have := NL.out; omega) (I8.out.below hb) HUB.out (by omega) he), Lib.hid (fun v hb => ?_)⟩
        exact rBiBounds_yes (l := l) k A n c L A1 n1 c1 U v (V8.out.below hb) rl (by have := NL.out; omega) (I8.out.below hb) HUB.out (by omega) LL.out.1 LL.out.2 he
    clear rl h60
    have c1' : (E != E) = false := by simp
    go_wp2_with fail
    refine (PF.out _ (Below.refl _ _)).mono ?_
    rintro e u3 ⟨⟨A3, n3, c3, rfl, hi3⟩, hu3⟩
    have G3 := Lib.hid hu3
    have I3 := Lib.hid hi3
    obtain ⟨t0, t1, t2, _, _, _, ht⟩ := tri_all (own_below Y8.out hu3)
    clear hu3 hi3 PF
    go_wp2_with fail
    refine (RF.out _ G3.out).mono ?_
    rintro e u4 ⟨⟨A4, n4, c4, rfl, hi4⟩, hu4⟩
    have n3e := (runs_cells I3.out).1
    have n4e := (runs_cells hi4).1
    have e34 : n4 = n3 := by omega
    subst e34
    have HN := Lib.hid n4e
    have G4 := Lib.hid (bi_next G3.out hu4)
    have I34 := Lib.hid (I3.out.below hu4)
    have I44 := Lib.hid hi4
    have Q4 := Lib.hid (R8.out.trans (G4.out.mono R8.out.size))
    have cn : ((n4 : Int) != (n4 : Int)) = false := by simp
    clear hi4 hu4 n4e n3e RF t0 t1 t2 ht I3
    go_wp2_with fail
    go_loopw [58] (fun i wr => ∃ j : Nat, j ≤ n4 ∧ i = .int .i64 j ∧ Below u4.heap.size u4 wr) (fun i _ => n4 - (intOf i).toNat)
    case atStart => exact ⟨0, by omega, rfl, Below.refl _ _⟩
    case round =>
      obtain ⟨j, hj, rfl, hb⟩ := hrel
      have BW := Lib.hid hb
      clear hb
      by_cases hlt : j < n4
      · obtain ⟨b1, o1, rfl, hz1, f0, f1⟩ := runs_two (I34.out.below BW.out) hlt
        obtain ⟨b2, o2, rfl, hz2, g0, g1⟩ := runs_two (I44.out.below BW.out) hlt
        have j0 : (0 : Int) ≤ (j : Int) := Int.natCast_nonneg _
        have j1 : (j : Int) < (n4 : Int) := by omega
        generalize (T.getD j rz).1 = x at *
        generalize (T.getD j rz).2 = y at *
        have q2 := both_not x y
        have nb : n4 ≤ 61 := by have := HN.out; omega
        go_wp2_with fail
        go_quiet (fail)
        go_wp2_with fail
        go_roundw
        case rel => exact ⟨j + 1, by omega, by go_num, below_drewN BW.out _⟩
        case measure => simp [intOf]; omega
      · obtain rfl : j = n4 := by omega
        go_wp2_with (go_at_call 11; refine (AL.out _).mono ?_; rintro e v7 ⟨rfl, hbv7⟩)
        go_ret
        have Q5 := Q4.out.trans (BW.out.mono Q4.out.size)
        exact ⟨rfl, Q5.trans (hbv7.mono Q5.size)⟩
end Go.Proofs.YtnhagdlpidgkcaaGreat
