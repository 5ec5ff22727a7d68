/- The walk of the statement GapHolds of layer gap, over the project's contracts: for every input it returns true, and nothing that was there before is changed. -/
import Derived.Test.YtelekchdbiimiaaGreatGpLaw
import Derived.Test.YtelekchdbiimiaaGreatGpNum3
import Derived.Test.YtelekchdbiimiaaGreatGpRef7
import Derived.Test.YtelekchdbiimiaaGreatBoRk
import Derived.Test.YtelekchdbiimiaaGreatDgS
import Derived.Test.YtelekchdbiimiaaGreatBgR
import Derived.Test.YtelekchdbiimiaaGreatOpQ
import Derived.Test.YtelekchdbiimiaaGreatBoth
import Derived.Test.YtelekchdbiimiaaGreatGpAdd
import Derived.Deep.AppendLies
import Derived.Deep.RegionHeld3
import Derived.Deep.Cut
import Derived.Deep.DeepCutAuto
namespace Go.Proofs.YtelekchdbiimiaaGreat
set_option linter.unusedVariables false
set_option maxRecDepth 100000
open Go.RowKit
theorem gpNews {w : World} {g : Nat} {L : List Nd} (h : NdIn w g 0 L) : ∀ j u, (nods L)[j]? = some u → w.cell? ((⟨g, 0, none⟩ : Addr).add j) = some u := fun j u hj => by
  have e : (⟨g, 0, none⟩ : Addr).add j = ⟨g, j, none⟩ := by unfold Addr.add; split <;> simp_all
  rw [e]
  obtain ⟨k, hk, ⟨rfl, rfl⟩ | ⟨rfl, rfl⟩⟩ := nods_at j u hj
  · have q := (h.2 k hk).1; rwa [Nat.zero_add] at q
  · have q := (h.2 k hk).2; rwa [Nat.zero_add] at q
theorem gh_keep5 {W a b : World} {p1 p2 p3 p4 p5 : Addr} {x1 x2 x3 x4 x5 : Value} (h : a.cell? p1 = some x1 ∧ a.cell? p2 = some x2 ∧ a.cell? p3 = some x3 ∧ a.cell? p4 = some x4 ∧ a.cell? p5 = some x5 ∧ Below W.heap.size W a) (hb : Below a.heap.size a b) (k1 : p1.block < W.heap.size) (k2 : p2.block < W.heap.size) (k3 : p3.block < W.heap.size) (k4 : p4.block < W.heap.size) (k5 : p5.block < W.heap.size) :
    b.cell? p1 = some x1 ∧ b.cell? p2 = some x2 ∧ b.cell? p3 = some x3 ∧ b.cell? p4 = some x4 ∧ b.cell? p5 = some x5 ∧ Below W.heap.size W b :=
  ⟨(held1 ⟨h.1, h.2.2.2.2.2⟩ hb k1).1, held4 h.2 hb k2 k3 k4 k5⟩
theorem gh_below5 {W a : World} {p1 p2 p3 p4 p5 : Addr} {x1 x2 x3 x4 x5 : Value} (h : a.cell? p1 = some x1 ∧ a.cell? p2 = some x2 ∧ a.cell? p3 = some x3 ∧ a.cell? p4 = some x4 ∧ a.cell? p5 = some x5 ∧ Below W.heap.size W a) : Below W.heap.size W a := h.2.2.2.2.2
/-- is one of some values as far? -/
def farB (T U : List Nd) (m n den k : Int) (Z : List Nd) : Bool := decide (k = 0) || Z.any fun z => byB (betN T 0 z.1) m (betN U 0 z.1) n den (k - 1)
theorem farB_take {T U Z : List Nd} {m n den k : Int} {j : Nat} (h : j < Z.length) : farB T U m n den k (Z.take (j + 1)) = (farB T U m n den k (Z.take j) || byB (betN T 0 (Z.getD j nz).1) m (betN U 0 (Z.getD j nz).1) n den (k - 1)) := by
  have e : Z.take (j + 1) = Z.take j ++ [Z.getD j nz] := by
    rw [List.take_add_one, List.getD_eq_getElem?_getD, List.getElem?_eq_getElem h]; rfl
  unfold farB
  rw [e, List.any_append, Bool.or_assoc]
  simp
/-- the least that is told of any Made, where its pointer is nil or not -/
def MadeW (w : World) (e : Ending) (w' : World) : Prop := ∃ (pv : Option Addr) (l : Int) (A : Option Addr) (m c : Nat), e = .returned (.tuple #[.pointer pv, .agg #[.int .i64 l, .slice A m c]]) ∧ Below w.heap.size w w'
theorem gpRd_info : (Tryz.prog.info? 66).map (fun i => (i.zero, i.size, i.bytes)) = some (some (.agg #[.int .i64 0, .int .i64 0]), 2, 16) := by kernel_rfl
theorem dgMade_w (l k kd : Int) (A : Option Addr) (n c : Nat) (O : List Pl) (w : World) (H1 : PlacedAt w (.slice A n c) O) (OB : OBds O) (hn : n ≤ 250) (L0 : -9223372036854775808 ≤ l) (L1 : l ≤ 9223372036854775807) :
    Calls Tryz.prog 16 #[.agg #[.int .i64 l, .int .i64 k, .int .i64 kd], .slice A n c] w (MadeW w) := by
  by_cases hc : kIs k = true ∧ isP kd l = true
  · exact (dgMade_any l k kd A n c O w H1 OB hn hc).mono fun e w' ⟨q, p, g, h, T, A2, m2, c2, a, _, _, _, _, z⟩ => ⟨_, _, _, _, _, a, z⟩
  · exact (dgMade_no l k kd A n c w hc L0 L1).mono fun e w' ⟨a, z⟩ => ⟨_, _, _, _, _, a, z⟩
set_option maxHeartbeats 25600000 in
theorem walk_gapHoldsK (KS : GpSd) (KA : GpAp) (KM : GpMo) (s t : SideX) (z den : Int) (Z0 : -9223372036854775808 ≤ z) (Z3 : z ≤ 9223372036854775807) (A0 : -9223372036854775808 ≤ den) (A3 : den ≤ 9223372036854775807) (w : World) (hs : SideG w s) (ht : SideG w t) :
    Calls Tryz.prog 5 #[.agg #[.int .i64 s.l, .int .i64 s.k, .int .i64 s.kd, .slice s.A s.n s.c], .agg #[.int .i64 t.l, .int .i64 t.k, .int .i64 t.kd, .slice t.A t.n t.c], .agg #[.int .i64 z, .int .i64 den]] w fun e w' => e = .returned (.bool true) ∧ Below w.heap.size w w' := by
  obtain ⟨l1, k1, kd1, A1, n1, c1, O1⟩ := s
  obtain ⟨l2, k2, kd2, A2, n2, c2, O2⟩ := t
  obtain ⟨⟨L0, L1⟩, -, -, hp1, ho1, -⟩ := hs
  obtain ⟨⟨L2, L3⟩, -, -, hp2, ho2, -⟩ := ht
  simp only at hp1 ho1 L0 L1 hp2 ho2 L2 L3 ⊢
  have e1 : (w.alloc (.cells #[.int .i64 l1, .int .i64 k1, .int .i64 kd1, .slice A1 n1 c1] 53)).heap.size = w.heap.size + 1 := by simp
  have e2 : ((w.alloc (.cells #[.int .i64 l1, .int .i64 k1, .int .i64 kd1, .slice A1 n1 c1] 53)).alloc (.cells #[.int .i64 l2, .int .i64 k2, .int .i64 kd2, .slice A2 n2 c2] 53)).heap.size = w.heap.size + 1 + 1 := by simp
  have X0 := Lib.hid (((quad_new w 53 (.int .i64 l1) (.int .i64 k1) (.int .i64 kd1) (.slice A1 n1 c1)).alloc (.cells #[.int .i64 l2, .int .i64 k2, .int .i64 kd2, .slice A2 n2 c2] 53)).alloc (.cells #[.int .i64 z, .int .i64 den] 54))
  have y := (quad_new (w.alloc (.cells #[.int .i64 l1, .int .i64 k1, .int .i64 kd1, .slice A1 n1 c1] 53)) 53 (.int .i64 l2) (.int .i64 k2) (.int .i64 kd2) (.slice A2 n2 c2)).alloc (.cells #[.int .i64 z, .int .i64 den] 54)
  rw [e1] at y
  have Y0 := Lib.hid y
  have q := box2 ((w.alloc (.cells #[.int .i64 l1, .int .i64 k1, .int .i64 kd1, .slice A1 n1 c1] 53)).alloc (.cells #[.int .i64 l2, .int .i64 k2, .int .i64 kd2, .slice A2 n2 c2] 53)) 54 (.int .i64 z) (.int .i64 den)
  rw [e2] at q
  have Q0 := Lib.hid q
  have HB0 : Hid (Below w.heap.size w (((w.alloc (.cells #[.int .i64 l1, .int .i64 k1, .int .i64 kd1, .slice A1 n1 c1] 53)).alloc (.cells #[.int .i64 l2, .int .i64 k2, .int .i64 kd2, .slice A2 n2 c2] 53)).alloc (.cells #[.int .i64 z, .int .i64 den] 54))) := (((Below.refl _ _).alloc (Nat.le_refl _) _).alloc (by simp) _).alloc (by simp; omega) _
  have AL := Lib.hid (fun v => gpAlive_any KS KA KM v)
  have PS := Lib.hid KS
  have PM := Lib.hid KM
  have H1 := Lib.hid hp1
  have H2 := Lib.hid hp2
  have OB1 := Lib.hid ho1
  have OB2 := Lib.hid ho2
  have LL := Lib.hid (And.intro (And.intro L0 L1) (And.intro L2 L3))
  have RB := Lib.hid (And.intro A0 A3)
  have RZ := Lib.hid (And.intro Z0 Z3)
  clear KS KA KM hp1 hp2 ho1 ho2 y q e1 e2 L0 L1 L2 L3 Z0 Z3 A0 A3
  go_enter Tryz.func5, Tryz.ntmps5
  go_upto_region 1 with fail
  obtain ⟨z0, z1, _, _, zl⟩ := box_cells Q0.out
  obtain ⟨x0, x1, x2, x3, _, _, _, _, hz⟩ := quad_all X0.out
  obtain ⟨y0, y1, y2, y3, _, _, _, _, hy⟩ := quad_all Y0.out
  generalize (((w.alloc (.cells #[.int .i64 l1, .int .i64 k1, .int .i64 kd1, .slice A1 n1 c1] 53)).alloc (.cells #[.int .i64 l2, .int .i64 k2, .int .i64 kd2, .slice A2 n2 c2] 53)).alloc (.cells #[.int .i64 z, .int .i64 den] 54)) = W at *
  go_quiet (fail)
  have hbq : Below W.heap.size W (W.drewN nq) := below_drewN (Below.refl _ _) _
  have X1 := Lib.hid (own_below X0.out hbq)
  have Y1 := Lib.hid (own_below Y0.out hbq)
  have B1 := Lib.hid (HB0.out.trans (hbq.mono HB0.out.size))
  clear hbq z0 z1 zl x0 x1 x2 x3 hz y0 y1 y2 y3 hy X0 Y0 Q0 HB0
  generalize W.drewN nq = W1 at *
  obtain ⟨x0, x1, x2, x3, _, _, _, _, hz⟩ := quad_all X1.out
  obtain ⟨y0, y1, y2, y3, _, _, _, _, hy⟩ := quad_all Y1.out
  obtain ⟨b, hb⟩ : ∃ b : Bool, b = decide (60 < n1 ∨ 60 < n2 ∨ (kd1 = 1 ∧ 10 < l1) ∨ (kd2 = 1 ∧ 10 < l2) ∨ den < 1 ∨ 1099511627776 < den) := ⟨_, rfl⟩
  have BB := Lib.hid hb
  clear hb
  go_upto_region 2 with fail
  go_cut [72] (fun s72 wx => s72 = .bool b ∧ wx = W1)
  case first =>
    as_aux_lemma =>
      by_cases an1 : 60 < n1
      · have fn1 : decide (60 < (n1 : Int)) = true := decide_eq_true (by omega)
        have e : b = true := by rw [BB.out]; exact decide_eq_true (by omega)
        clear BB
        go_wp2_with fail
        go_meet
        case rel => exact ⟨by rw [e], rfl⟩
      · have fn1 : decide (60 < (n1 : Int)) = false := decide_eq_false (by omega)
        by_cases an2 : 60 < n2
        · have fn2 : decide (60 < (n2 : Int)) = true := decide_eq_true (by omega)
          have e : b = true := by rw [BB.out]; exact decide_eq_true (by omega)
          clear BB
          go_wp2_with fail
          go_meet
          case rel => exact ⟨by rw [e], rfl⟩
        · have fn2 : decide (60 < (n2 : Int)) = false := decide_eq_false (by omega)
          by_cases akd1 : kd1 = 1
          · have fkd1 : (kd1 == 1) = true := beq_iff_eq.2 akd1
            by_cases al1 : 10 < l1
            · have fl1 : decide (10 < l1) = true := decide_eq_true al1
              have e : b = true := by rw [BB.out]; exact decide_eq_true (by omega)
              clear BB akd1
              go_wp2_with fail
              go_meet
              case rel => exact ⟨by rw [e], rfl⟩
            · have fl1 : decide (10 < l1) = false := decide_eq_false al1
              by_cases akd2 : kd2 = 1
              · have fkd2 : (kd2 == 1) = true := beq_iff_eq.2 akd2
                by_cases al2 : 10 < l2
                · have fl2 : decide (10 < l2) = true := decide_eq_true al2
                  have e : b = true := by rw [BB.out]; exact decide_eq_true (by omega)
                  clear BB akd1 akd2
                  go_wp2_with fail
                  go_meet
                  case rel => exact ⟨by rw [e], rfl⟩
                · have fl2 : decide (10 < l2) = false := decide_eq_false al2
                  by_cases ad1 : den < 1
                  · have fd1 : decide (den < 1) = true := decide_eq_true (by omega)
                    have e : b = true := by rw [BB.out]; exact decide_eq_true (by omega)
                    clear BB akd1 akd2
                    go_wp2_with fail
                    go_meet
                    case rel => exact ⟨by rw [e], rfl⟩
                  · have fd1 : decide (den < 1) = false := decide_eq_false (by omega)
                    by_cases ad2 : 1099511627776 < den
                    · have fd2 : decide (1099511627776 < den) = true := decide_eq_true (by omega)
                      have e : b = true := by rw [BB.out]; exact decide_eq_true (by omega)
                      clear BB akd1 akd2
                      go_wp2_with fail
                      go_meet
                      case rel => exact ⟨by rw [e], rfl⟩
                    · have fd2 : decide (1099511627776 < den) = false := decide_eq_false (by omega)
                      have e : b = false := by rw [BB.out]; exact decide_eq_false (by omega)
                      clear BB akd1 akd2
                      go_wp2_with fail
                      go_meet
                      case rel => exact ⟨by rw [e], rfl⟩
              · have fkd2 : (kd2 == 1) = false := beq_eq_false_iff_ne.2 akd2
                by_cases ad1 : den < 1
                · have fd1 : decide (den < 1) = true := decide_eq_true (by omega)
                  have e : b = true := by rw [BB.out]; exact decide_eq_true (by omega)
                  clear BB akd1
                  go_wp2_with fail
                  go_meet
                  case rel => exact ⟨by rw [e], rfl⟩
                · have fd1 : decide (den < 1) = false := decide_eq_false (by omega)
                  by_cases ad2 : 1099511627776 < den
                  · have fd2 : decide (1099511627776 < den) = true := decide_eq_true (by omega)
                    have e : b = true := by rw [BB.out]; exact decide_eq_true (by omega)
                    clear BB akd1
                    go_wp2_with fail
                    go_meet
                    case rel => exact ⟨by rw [e], rfl⟩
                  · have fd2 : decide (1099511627776 < den) = false := decide_eq_false (by omega)
                    have e : b = false := by rw [BB.out]; exact decide_eq_false (by omega)
                    clear BB akd1
                    go_wp2_with fail
                    go_meet
                    case rel => exact ⟨by rw [e], rfl⟩
          · have fkd1 : (kd1 == 1) = false := beq_eq_false_iff_ne.2 akd1
            by_cases akd2 : kd2 = 1
            · have fkd2 : (kd2 == 1) = true := beq_iff_eq.2 akd2
              by_cases al2 : 10 < l2
              · have fl2 : decide (10 < l2) = true := decide_eq_true al2
                have e : b = true := by rw [BB.out]; exact decide_eq_true (by omega)
                clear BB akd2
                go_wp2_with fail
                go_meet
                case rel => exact ⟨by rw [e], rfl⟩
              · have fl2 : decide (10 < l2) = false := decide_eq_false al2
                by_cases ad1 : den < 1
                · have fd1 : decide (den < 1) = true := decide_eq_true (by omega)
                  have e : b = true := by rw [BB.out]; exact decide_eq_true (by omega)
                  clear BB akd2
                  go_wp2_with fail
                  go_meet
                  case rel => exact ⟨by rw [e], rfl⟩
                · have fd1 : decide (den < 1) = false := decide_eq_false (by omega)
                  by_cases ad2 : 1099511627776 < den
                  · have fd2 : decide (1099511627776 < den) = true := decide_eq_true (by omega)
                    have e : b = true := by rw [BB.out]; exact decide_eq_true (by omega)
                    clear BB akd2
                    go_wp2_with fail
                    go_meet
                    case rel => exact ⟨by rw [e], rfl⟩
                  · have fd2 : decide (1099511627776 < den) = false := decide_eq_false (by omega)
                    have e : b = false := by rw [BB.out]; exact decide_eq_false (by omega)
                    clear BB akd2
                    go_wp2_with fail
                    go_meet
                    case rel => exact ⟨by rw [e], rfl⟩
            · have fkd2 : (kd2 == 1) = false := beq_eq_false_iff_ne.2 akd2
              by_cases ad1 : den < 1
              · have fd1 : decide (den < 1) = true := decide_eq_true (by omega)
                have e : b = true := by rw [BB.out]; exact decide_eq_true (by omega)
                clear BB
                go_wp2_with fail
                go_meet
                case rel => exact ⟨by rw [e], rfl⟩
              · have fd1 : decide (den < 1) = false := decide_eq_false (by omega)
                by_cases ad2 : 1099511627776 < den
                · have fd2 : decide (1099511627776 < den) = true := decide_eq_true (by omega)
                  have e : b = true := by rw [BB.out]; exact decide_eq_true (by omega)
                  clear BB
                  go_wp2_with fail
                  go_meet
                  case rel => exact ⟨by rw [e], rfl⟩
                · have fd2 : decide (1099511627776 < den) = false := decide_eq_false (by omega)
                  have e : b = false := by rw [BB.out]; exact decide_eq_false (by omega)
                  clear BB
                  go_wp2_with fail
                  go_meet
                  case rel => exact ⟨by rw [e], rfl⟩
  case rest =>
    obtain ⟨rfl, rfl⟩ := hcut
    obtain ⟨W3, hW3⟩ : ∃ W3 : World, W3 = wc := ⟨_, rfl⟩
    subst hW3
    cases b
    · have cn := of_decide_eq_false BB.out.symm
      have N1 := Lib.hid (show n1 ≤ 60 by omega)
      have N2 := Lib.hid (show n2 ≤ 60 by omega)
      have DN := Lib.hid (show 1 ≤ den ∧ den ≤ 1099511627776 by omega)
      have P1 := Lib.hid (H1.out.below B1.out)
      clear cn BB
      by_cases hc1 : kIs k1 = true ∧ isP kd1 l1 = true
      · have MD := Lib.hid (dgMade_own l1 k1 kd1 A1 n1 c1 O1 _ P1.out OB1.out (by have := N1.out; omega) hc1)
        clear hc1
        go_wp2_with fail
        refine MD.out.mono ?_
        rintro e w4 ⟨q1, p1, g1, h1, T, A3, m3, c3, rfl, hd1, hv1, hlen1, hds1, hb1⟩
        generalize dgOf l1 k1 O1 = L at *
        have hba : Below w4.heap.size w4 (w4.alloc (.cells #[.int .i64 l1, .slice A3 m3 c3] 57)) := (Below.refl _ _).alloc (Nat.le_refl _) _
        have C4 := Lib.hid (hb1.trans (hba.mono hb1.size))
        have B4 := Lib.hid (B1.out.trans (C4.out.mono B1.out.size))
        have D4 := Lib.hid (hd1.below hba)
        have V4 := Lib.hid (own_below hv1 hba)
        have G4 := Lib.hid (box2 w4 57 (.int .i64 l1) (.slice A3 m3 c3))
        have LEN1 := Lib.hid hlen1
        have DS1 := Lib.hid hds1
        have X4 := Lib.hid (own_below X1.out C4.out)
        have Y4 := Lib.hid (own_below Y1.out C4.out)
        clear hd1 hv1 hlen1 hds1 hb1 hba MD C4 x0 x1 x2 x3 hz y0 y1 y2 y3 hy X1 Y1 B1
        go_upto_region 5 with fail
        obtain ⟨y0, y1, y2, y3, _, _, _, _, hy⟩ := quad_all Y4.out
        obtain ⟨gb1, hgb1⟩ : ∃ gb1, gb1 = w4.heap.size := ⟨_, rfl⟩
        generalize w4.alloc (.cells #[.int .i64 l1, .slice A3 m3 c3] 57) = W4 at *
        generalize w4.heap.size = gb at *
        have P2 := Lib.hid (H2.out.below B4.out)
        by_cases hc2 : kIs k2 = true ∧ isP kd2 l2 = true
        · have MD := Lib.hid (dgMade_own l2 k2 kd2 A2 n2 c2 O2 _ P2.out OB2.out (by have := N2.out; omega) hc2)
          clear hc2
          go_wp2_with fail
          refine MD.out.mono ?_
          rintro e w5 ⟨q2, p2, g2, h2, U, A4, m4, c4, rfl, hd2, hv2, hlen2, hds2, hb2⟩
          generalize dgOf l2 k2 O2 = M at *
          have hba : Below w5.heap.size w5 (w5.alloc (.cells #[.int .i64 l2, .slice A4 m4 c4] 57)) := (Below.refl _ _).alloc (Nat.le_refl _) _
          have C5 := Lib.hid (hb2.trans (hba.mono hb2.size))
          have B5 := Lib.hid (B4.out.trans (C5.out.mono B4.out.size))
          have D5 := Lib.hid (D4.out.below C5.out)
          have V5 := Lib.hid (own_below V4.out C5.out)
          have G5 := Lib.hid (own_below G4.out C5.out)
          have E5 := Lib.hid (hd2.below hba)
          have U5 := Lib.hid (own_below hv2 hba)
          have F5 := Lib.hid (box2 w5 57 (.int .i64 l2) (.slice A4 m4 c4))
          have LEN2 := Lib.hid hlen2
          have DS2 := Lib.hid hds2
          have X5 := Lib.hid (own_below X4.out C5.out)
          have Y5 := Lib.hid (own_below Y4.out C5.out)
          have PN1 : ∀ w, (binOp .eql 27 (.pointer (some ⟨q1, 0, none⟩)) (.pointer none)).run Tryz.prog w = .ok (.bool false) w := fun _ => by kernel_rfl
          have PN2 : ∀ w, (binOp .eql 27 (.pointer (some ⟨q2, 0, none⟩)) (.pointer none)).run Tryz.prog w = .ok (.bool false) w := fun _ => by kernel_rfl
          clear hd2 hv2 hlen2 hds2 hb2 hba MD C5 y0 y1 y2 y3 hy X4 Y4 B4 D4 V4 G4 P2 P1 H1 H2 OB1 OB2
          go_upto_region 6 with fail
          generalize w5.alloc (.cells #[.int .i64 l2, .slice A4 m4 c4] 57) = W5 at *
          generalize w5.heap.size = gc at *
          have RL1 := Lib.hid D5.out.v.roll
          have RL2 := Lib.hid E5.out.v.roll
          have NT1 := Lib.hid (ownNd_nodes V5.out)
          have NT2 := Lib.hid (ownNd_nodes U5.out)
          have m3 : m3 ≤ 60 := by have a := (nodes_cells NT1.out).1; have b := LEN1.out; have c := N1.out; omega
          have m4 : m4 ≤ 60 := by have a := (nodes_cells NT2.out).1; have b := LEN2.out; have c := N2.out; omega
          have M34 := Lib.hid (And.intro m3 m4)
          have t1 : sumC T = sumC L := DS1.out.std.tot.symm
          have t2 : sumC U = sumC M := DS2.out.std.tot.symm
          have sb1 : 0 ≤ sumC L ∧ sumC L ≤ 72057594037927935 := ⟨sumC_nonneg (good_nonneg (roll_good RL1.out)), RL1.out.2.2.2.2⟩
          have sb2 : 0 ≤ sumC M ∧ sumC M ≤ 72057594037927935 := ⟨sumC_nonneg (good_nonneg (roll_good RL2.out)), RL2.out.2.2.2.2⟩
          have NN1 := Lib.hid (good_nonneg DS1.out.bag.good)
          have NN2 := Lib.hid (good_nonneg DS2.out.bag.good)
          have mE : mtE l1 l2 L M den = gpE l1 l2 L M := by
            unfold mtE
            rw [if_neg (show ¬ den < 1 by have := DN.out; omega)]
            split
            · rename_i h; exact h.symm
            · rfl
          have P5 := Lib.hid (fun v (hb : Below W5.heap.size W5 v) => PM.out.most den v (D5.out.below hb) (by have := N1.out; omega) (E5.out.below hb) (by have := N2.out; omega) RB.out.1 RB.out.2)
          rw [mE] at P5
          have P6 := Lib.hid (fun v (hb : Below W5.heap.size W5 v) => PS.out.side z v (D5.out.below hb) (by have := N1.out; omega) (E5.out.below hb) (by have := N2.out; omega) RZ.out.1 RZ.out.2)
          have TA := Lib.hid (fun v (hb : Below W5.heap.size W5 v) => rgTotal_any l1 A3 _ c3 T v (NT1.out.below hb) NN1.out DS1.out.bag.tot (by have := M34.out.1; omega))
          have TB := Lib.hid (fun v (hb : Below W5.heap.size W5 v) => rgTotal_any l2 A4 _ c4 U v (NT2.out.below hb) NN2.out DS2.out.bag.tot (by have := M34.out.2; omega))
          rw [t1] at TA
          rw [t2] at TB
          have KA := Lib.hid (fun x v (hb : Below W5.heap.size W5 v) => rgRank_any l1 x A3 _ c3 T v (NT1.out.below hb) NN1.out DS1.out.bag.tot (by have := M34.out.1; omega))
          have KB := Lib.hid (fun x v (hb : Below W5.heap.size W5 v) => rgRank_any l2 x A4 _ c4 U v (NT2.out.below hb) NN2.out DS2.out.bag.tot (by have := M34.out.2; omega))
          have EA : Hid (mtA l1 l2 L M den = if gpE l1 l2 L M = 0 then mxF (mtL l1 L M den) (gpP l1 L M) else 0) := by show _ = _; unfold mtA; rw [mE]
          have EB : Hid (mtB l1 l2 L M den = if gpE l1 l2 L M = 0 then mxF (mtH l1 L M den) (gpP l1 L M) else 0) := by show _ = _; unfold mtB; rw [mE]
          have ED : Hid (sdE l1 l2 L M z = if gpE l1 l2 L M = 0 then sdN l1 L M z else 0) := rfl
          have EG : Hid (gpE l1 l2 L M = if l1 = l2 then (if sumC L = 0 ∨ sumC M = 0 then 7 else 0) else 6) := rfl
          have S12 := Lib.hid (And.intro sb1 sb2)
          have T12 := Lib.hid (And.intro t1 t2)
          clear D5 E5 PS PM sb1 sb2 t1 t2 mE m3 m4 LL
          generalize mtA l1 l2 L M den = ma at *
          generalize mtB l1 l2 L M den = mb at *
          generalize sdE l1 l2 L M z = sd at *
          generalize gpE l1 l2 L M = ge at *
          have gne : (ge != ge) = false := by simp
          go_wp2_with fail
          refine (P5.out _ (Below.refl _ _)).mono ?_
          rintro e u1 ⟨rfl, hu1⟩
          have hv1 := hu1.alloc hu1.size (.cells #[.int .i64 ma, .int .i64 mb] 46)
          have Q1 := Lib.hid hv1
          have MB := Lib.hid (box2 u1 46 (.int .i64 ma) (.int .i64 mb))
          clear hu1 hv1 P5
          go_upto_region 9 with fail
          generalize u1.alloc (.cells #[.int .i64 ma, .int .i64 mb] 46) = U1 at *
          generalize u1.heap.size = gm at *
          go_wp2_with fail
          refine (P6.out _ Q1.out).mono ?_
          rintro e u2 ⟨rfl, hu2⟩
          have Q2 := Lib.hid (Q1.out.trans (hu2.mono Q1.out.size))
          have MB2 := Lib.hid (own_below MB.out hu2)
          clear hu2 P6 Q1 MB
          go_upto_region 12 with fail
          obtain ⟨a0, a1, _, _, za⟩ := box_cells (own_below G5.out Q2.out)
          obtain ⟨b0, b1, _, _, zb⟩ := box_cells (own_below F5.out Q2.out)
          have ZA := Lib.hid za
          have ZB := Lib.hid zb
          clear za zb
          go_region_held3 (fun w' => w'.cell? ⟨gb, 0, none⟩ = some (.int .i64 l1) ∧ w'.cell? ⟨gb, 1, none⟩ = some (.slice A3 m3 c3) ∧ w'.cell? ⟨gc, 0, none⟩ = some (.int .i64 l2) ∧ w'.cell? ⟨gc, 1, none⟩ = some (.slice A4 m4 c4) ∧ Below u2.heap.size u2 w')
            (first | assumption | (exact held4 (by assumption) hx2 ZA.out ZA.out ZB.out ZB.out) | (exact held4 (by assumption) hx1 ZA.out ZA.out ZB.out ZB.out) | (exact ⟨a0, a1, b0, b1, below_drew _⟩))
            (first
              | (go_at_call 17; (with_reducible refine (TA.out _ (Q2.out.trans (Below.mono (held4B (by assumption)) Q2.out.size))).mono ?_); rintro e x1 ⟨rfl, hx1⟩)
              | (go_at_call 17; (with_reducible refine (TB.out _ (Q2.out.trans (Below.mono (held4B (by assumption)) Q2.out.size))).mono ?_); rintro e x2 ⟨rfl, hx2⟩))
          rename_i hH
          have Q3 := Lib.hid (Q2.out.trans (Below.mono hH.2.2.2.2 Q2.out.size))
          have MB3 := Lib.hid (own_below MB2.out hH.2.2.2.2)
          clear hH a0 a1 b0 b1 TA TB MB2 Q2 ZA ZB
          obtain ⟨w6, hw6⟩ : ∃ w6 : World, w6 = x2 := ⟨_, rfl⟩
          subst hw6
          obtain ⟨x0, x1', x2', x3, _, _, _, _, hz⟩ := quad_all (own_below X5.out Q3.out)
          obtain ⟨y0, y1, y2, y3, _, _, _, _, hy⟩ := quad_all (own_below Y5.out Q3.out)
          have B6 := Lib.hid (B5.out.trans (Q3.out.mono B5.out.size))
          by_cases hl : l1 = l2
          · have EH : ge = if sumC L = 0 ∨ sumC M = 0 then 7 else 0 := by rw [EG.out, if_pos hl]
            have hln : (l1 != l2) = false := by simp [hl]
            have HL := Lib.hid hl
            clear hl EG
            by_cases hz0 : sumC L = 0 ∨ sumC M = 0
            · have e7 : ge = 7 := by rw [EH, if_pos hz0]
              subst e7
              clear EH EA EB ED
              rcases (show sumC L = 0 ∨ (¬ sumC L = 0 ∧ sumC M = 0) by omega) with c | ⟨c, d⟩
              · have f1 : (sumC L == 0) = true := beq_iff_eq.2 c
                clear c hz0 S12 T12
                generalize sumC L = sL at *
                generalize sumC M = sM at *
                go_wp2_with (go_at_call 9; refine (AL.out _).mono ?_; rintro e v7 ⟨rfl, hbv7⟩)
                go_ret
                exact ⟨rfl, B6.out.trans (hbv7.mono B6.out.size)⟩
              · have f1 : (sumC L == 0) = false := beq_eq_false_iff_ne.2 c
                have f2 : (sumC M == 0) = true := beq_iff_eq.2 d
                clear c d hz0 S12 T12
                generalize sumC L = sL at *
                generalize sumC M = sM at *
                go_wp2_with (go_at_call 9; refine (AL.out _).mono ?_; rintro e v7 ⟨rfl, hbv7⟩)
                go_ret
                exact ⟨rfl, B6.out.trans (hbv7.mono B6.out.size)⟩
            · have e0 : ge = 0 := by rw [EH, if_neg hz0]
              subst e0
              have f1 : (sumC L == 0) = false := beq_eq_false_iff_ne.2 (by omega)
              have f2 : (sumC M == 0) = false := beq_eq_false_iff_ne.2 (by omega)
              have EA2 : Hid (ma = mxF (mtL l1 L M den) (gpP l1 L M)) := by have := EA.out; rw [if_pos rfl] at this; exact this
              have EB2 : Hid (mb = mxF (mtH l1 L M den) (gpP l1 L M)) := by have := EB.out; rw [if_pos rfl] at this; exact this
              have ED2 : Hid (sd = sdN l1 L M z) := by have := ED.out; rw [if_pos rfl] at this; exact this
              have S1 := Lib.hid (show 1 ≤ sumC L ∧ 1 ≤ sumC M by have := S12.out; omega)
              clear EH EA EB ED hz0
              go_upto_region 17 with fail
              clear x0 x1' x2' x3 hz y0 y1 y2 y3 hy
              have RM := Lib.hid (show RollC l1 M by rw [HL.out]; exact RL2.out)
              have DM := Lib.hid (show DgS l1 M U by rw [HL.out]; exact DS2.out)
              obtain ⟨a0, a1, _, _, za⟩ := box_cells (own_below G5.out Q3.out)
              obtain ⟨b0, b1, _, _, zb⟩ := box_cells (own_below F5.out Q3.out)
              have ZA := Lib.hid za
              have ZB := Lib.hid zb
              clear za zb
              have gp1 := gp_rank (x := z) RL1.out DS1.out
              have gp2 := gp_rank (x := z) RM.out DM.out
              have pb : 0 ≤ betN T 0 z ∧ betN T 0 z ≤ sumC L := by omega
              have qb : 0 ≤ betN U 0 z ∧ betN U 0 z ≤ sumC M := by omega
              have GS := Lib.hid (gp_side (x := z) RL1.out RM.out DS1.out DM.out)
              have GW := Lib.hid (gp_within (x := z) RL1.out RM.out DS1.out DM.out S1.out.1 S1.out.2 DN.out.1 DN.out.2)
              rw [← EB2.out] at GW
              rw [← ED2.out] at GS
              have MBD := Lib.hid (gp_mxbd (den := den) RL1.out RM.out S1.out.1 S1.out.2 DN.out.1 DN.out.2)
              rw [← EA2.out, ← EB2.out] at MBD
              have GF := Lib.hid (gp_far (den := den) RL1.out RM.out DS1.out DM.out S1.out.1 S1.out.2 DN.out.1 DN.out.2)
              rw [← EA2.out] at GF
              have PB := Lib.hid (fun x => (show 0 ≤ betN T 0 x ∧ betN T 0 x ≤ sumC L by have := gp_rank (x := x) RL1.out DS1.out; omega))
              have QB := Lib.hid (fun x => (show 0 ≤ betN U 0 x ∧ betN U 0 x ≤ sumC M by have := gp_rank (x := x) RM.out DM.out; omega))
              have T1 := Lib.hid (show 0 < T.length ∧ 0 < U.length by
                have a := T12.out
                have b := S1.out
                constructor
                · rcases Nat.eq_zero_or_pos T.length with e | e
                  · have : T = [] := List.eq_nil_of_length_eq_zero e
                    rw [this] at a; simp [sumC] at a; omega
                  · exact e
                · rcases Nat.eq_zero_or_pos U.length with e | e
                  · have : U = [] := List.eq_nil_of_length_eq_zero e
                    rw [this] at a; simp [sumC] at a; omega
                  · exact e)
              clear gp1 gp2 EA2 EB2 ED2 RL1 RL2 RM DM DS2 T12 HL
              have S12' := S12.out
              have sdb : sd = 1 ∨ sd = -1 ∨ sd = 0 ∨ True := .inr (.inr (.inr trivial))
              clear sdb
              go_region_held3 (fun w' => w'.cell? ⟨gb, 0, none⟩ = some (.int .i64 l1) ∧ w'.cell? ⟨gb, 1, none⟩ = some (.slice A3 m3 c3) ∧ w'.cell? ⟨gc, 0, none⟩ = some (.int .i64 l2) ∧ w'.cell? ⟨gc, 1, none⟩ = some (.slice A4 m4 c4) ∧ Below w6.heap.size w6 w')
                (first | assumption | (exact held4 (by assumption) hx2 ZA.out ZA.out ZB.out ZB.out) | (exact held4 (by assumption) hx1 ZA.out ZA.out ZB.out ZB.out) | (exact ⟨a0, a1, b0, b1, below_drew _⟩))
                (first
                  | (go_at_call 18; (with_reducible refine (KA.out z _ (Q3.out.trans (Below.mono (held4B (by assumption)) Q3.out.size))).mono ?_); rintro e x1 ⟨rfl, hx1⟩)
                  | (go_at_call 18; (with_reducible refine (KB.out z _ (Q3.out.trans (Below.mono (held4B (by assumption)) Q3.out.size))).mono ?_); rintro e x2 ⟨rfl, hx2⟩))
              rename_i hH
              have Q4 := Lib.hid (Q3.out.trans (Below.mono hH.2.2.2.2 Q3.out.size))
              have MB4 := Lib.hid (own_below MB3.out hH.2.2.2.2)
              clear hH a0 a1 b0 b1 MB3 Q3 ZA ZB B6
              obtain ⟨w7, hw7⟩ : ∃ w7 : World, w7 = x2 := ⟨_, rfl⟩
              subst hw7
              have OR := Lib.hid (fun v => rfOrd_any (betN T 0 z) (sumC M) (betN U 0 z) (sumC L) v (by omega) (by omega) (by omega) (by omega) (by omega) (by omega) (by omega) (by omega))
              have oy := ord_yes (a := betN T 0 z) (b := sumC M) (c := betN U 0 z) (d := sumC L) (by unfold ordC; omega)
              rw [oy.1, oy.2] at OR
              have BY := Lib.hid (fun v => gpBeyond_any (betN T 0 z) (sumC L) (betN U 0 z) (sumC M) den mb v (by omega) (by omega) (by omega) (by omega) (by omega) (by omega) (by omega) (by omega) (by have := DN.out; omega) (by have := DN.out; omega) (by have := MBD.out; omega) (by have := MBD.out; omega))
              rw [GW.out] at BY
              clear oy GW
              obtain ⟨cm, hcm⟩ : ∃ cm, cm = cmp3 (betN T 0 z * sumC M) (betN U 0 z * sumC L) := ⟨_, rfl⟩
              rw [← hcm] at OR
              have CM := Lib.hid (show (0 < sd → cm = 1) ∧ (sd < 0 → cm = -1) from ⟨fun h => by rw [hcm]; exact cmp3_gt (GS.out.1 h), fun h => by rw [hcm]; exact cmp3_lt (GS.out.2 h)⟩)
              clear hcm GS pb qb S12'
              generalize betN T 0 z = p at *
              generalize betN U 0 z = q at *
              obtain ⟨sL, hsL⟩ : ∃ sL, sL = sumC L := ⟨_, rfl⟩
              obtain ⟨sM, hsM⟩ : ∃ sM, sM = sumC M := ⟨_, rfl⟩
              rw [← hsL] at S12 S1 PB OR BY GF
              rw [← hsM] at S12 S1 QB OR BY GF
              rw [← hsL, ← hsM]
              clear hsL hsM
              go_wp2_with fail
              refine (OR.out _).mono ?_
              rintro e u8 ⟨rfl, hu8⟩
              have Q5 := Lib.hid (Q4.out.trans (hu8.mono Q4.out.size))
              have MB5 := Lib.hid (own_below MB4.out hu8)
              clear hu8 MB4 Q4 OR
              go_upto_region 19 with fail
              obtain ⟨s0, s1, _, _, zs⟩ := box_cells MB5.out
              go_cut [182] (fun s182 wx => s182 = .bool false ∧ Below u8.heap.size u8 wx)
              case first =>
                as_aux_lemma =>
                  rcases (show 0 < sd ∨ sd < 0 ∨ (¬ 0 < sd ∧ ¬ sd < 0) by omega) with c | c | ⟨c, d⟩
                  · have e1 : cm = 1 := CM.out.1 c
                    have g1 : decide (0 < sd) = true := decide_eq_true c
                    have g2 : decide (sd < 0) = false := decide_eq_false (by omega)
                    subst e1
                    clear c CM
                    go_wp2_with (go_at_call 20; refine (BY.out _).mono ?_; rintro e u9 ⟨rfl, hu9⟩)
                    go_meet
                    case rel => exact ⟨rfl, hu9⟩
                  · have e1 : cm = -1 := CM.out.2 c
                    have g1 : decide (0 < sd) = false := decide_eq_false (by omega)
                    have g2 : decide (sd < 0) = true := decide_eq_true c
                    subst e1
                    clear c CM
                    go_wp2_with (go_at_call 20; refine (BY.out _).mono ?_; rintro e u9 ⟨rfl, hu9⟩)
                    go_meet
                    case rel => exact ⟨rfl, hu9⟩
                  · have g1 : decide (0 < sd) = false := decide_eq_false c
                    have g2 : decide (sd < 0) = false := decide_eq_false d
                    clear c d CM
                    go_wp2_with (go_at_call 20; refine (BY.out _).mono ?_; rintro e u9 ⟨rfl, hu9⟩)
                    go_meet
                    case rel => exact ⟨rfl, hu9⟩
              case rest =>
                obtain ⟨rfl, hbc⟩ := hcut
                have Q6 := Lib.hid (Q5.out.trans (hbc.mono Q5.out.size))
                have MB6 := Lib.hid (own_below MB5.out hbc)
                clear hbc s0 s1 zs MB5 Q5 BY CM
                obtain ⟨w9, hw9⟩ : ∃ w9 : World, w9 = wc := ⟨_, rfl⟩
                subst hw9
                obtain ⟨s0, s1, _, _, zs⟩ := box_cells MB6.out
                go_upto_region 22 with fail
                obtain ⟨a0, a1, _, _, za⟩ := box_cells (own_below G5.out Q6.out)
                obtain ⟨b0, b1, _, _, zb⟩ := box_cells (own_below F5.out Q6.out)
                have ZA := Lib.hid za
                have ZB := Lib.hid zb
                clear za zb
                obtain ⟨i0, hi, hz0, hz1, hz2⟩ := info_parts gpRd_info
                have VV := Lib.hid (own_below V5.out Q6.out)
                have UU := Lib.hid (own_below U5.out Q6.out)
                have B7 := Lib.hid (B5.out.trans (Q6.out.mono B5.out.size))
                rcases ownNd_form VV.out with ⟨_, e⟩ | ⟨g3, cap3, hv3, _, hg3, _, _, hin3⟩
                · exfalso; have := T1.out.1; rw [e] at this; simp at this
                rcases ownNd_form UU.out with ⟨_, e⟩ | ⟨g4, cap4, hv4, _, hg4, _, _, hin4⟩
                · exfalso; have := T1.out.2; rw [e] at this; simp at this
                injection hv3 with v1 v2 v3
                injection hv4 with u1' u2' u3'
                subst v1 v2 v3 u1' u2' u3'
                have I3 := Lib.hid hin3
                have I4 := Lib.hid hin4
                have LT := Lib.hid (show T.length ≤ 60 ∧ U.length ≤ 60 by have := LEN1.out; have := LEN2.out; have := N1.out; have := N2.out; omega)
                have t60 := LT.out
                have t1' := T1.out
                clear hin3 hin4
                obtain ⟨nT, hnT⟩ : ∃ nT, nT = T.length := ⟨_, rfl⟩
                obtain ⟨nU, hnU⟩ : ∃ nU, nU = U.length := ⟨_, rfl⟩
                rw [← hnT] at a1 t60 t1' KA M34
                rw [← hnU] at b1 t60 t1' KB M34
                have HT := Lib.hid hnT
                have HU := Lib.hid hnU
                have XT := Lib.hid (show (nods T).length = nT * 2 by rw [nods_len, hnT])
                have XU := Lib.hid (show (nods U).length = nU * 2 by rw [nods_len, hnU])
                clear hnT hnU
                have fz : (ma == 0) = farB T U sL sM den ma ([] : List Nd) := by by_cases h : ma = 0 <;> simp [farB, h]
                have FZ := Lib.hid fz
                clear fz
                go_region_held3 (fun w' => w'.cell? ⟨gb, 1, none⟩ = some (.slice (some ⟨g3, 0, none⟩) nT c3) ∧ w'.cell? ⟨gc, 1, none⟩ = some (.slice (some ⟨g4, 0, none⟩) nU c4) ∧ Below w9.heap.size w9 w')
                  (first | assumption | (exact ⟨a1, b1, below_drew _⟩) | (exact held2 ⟨a1, b1, Below.refl _ _⟩ hx3 ZA.out ZB.out) | (exact held2 ⟨a1, b1, Below.refl _ _⟩ hx2 ZA.out ZB.out) | (exact held2 ⟨a1, b1, Below.refl _ _⟩ ((below_drew w9).alloc (by simp) _) ZA.out ZB.out))
                  (first
                    | (refine step_append_lies _ (by rfl) _ _ _ (by rfl) w9.heap.size 66 i0 _ 2 16 Tryz.underlying55 hi hz0 hz1 hz2 rfl (by omega) (.slice (some ⟨w9.heap.size, 0, none⟩) 0 0) 0 [] (by rfl) (by exact World.ownsRow_lit (base := w9.heap.size) (e := 66) (size := 2) w9.drew #[] 0 (Nat.le_refl _) (by unfold maxLen; omega) rfl) ⟨g3, 0, none⟩ nT c3 (nods T) (by rfl) XT.out (gpNews (I3.out.below ((below_drew w9).alloc (by simp) _) hg3)) (nods_one T) (by omega) (by unfold maxLen; omega) (by omega) (by simp) (w9.heap.size + 1) (by simp) ?_; intro ga ca x2 r2 gr2 at2 lt2; have hx2 : Below w9.heap.size w9 x2 := ((below_drew w9).alloc (by simp) (.cells #[] 66)).grown gr2 (by simp) (fun g hg => by simp [Value.ownBlock] at hg; omega))
                    | (refine step_append_lies _ (by rfl) _ _ _ (by rfl) w9.heap.size 66 i0 _ 2 16 Tryz.underlying55 hi hz0 hz1 hz2 rfl (by omega) (.slice (some ⟨ga, 0, none⟩) (0 + nT) ca) (0 + nT) ([] ++ nods T) (by rfl) (by exact r2) ⟨g4, 0, none⟩ nU c4 (nods U) (by rfl) XU.out (gpNews (I4.out.below hx2 hg4)) (nods_one U) (by omega) (by unfold maxLen; omega) (by omega) (by exact hx2.size) x2.heap.size rfl ?_; intro gd cd x3 r3 gr3 at3 lt3; have hx3 : Below w9.heap.size w9 x3 := hx2.grown gr3 hx2.size (fun g hg => (World.ownsRow.lt r2 g hg).1)))
                obtain ⟨wb, hwb⟩ : ∃ wb : World, wb = x3 := ⟨_, rfl⟩
                subst hwb
                have QZ := Lib.hid (Q6.out.trans (hx3.mono Q6.out.size))
                have MB7 := Lib.hid (own_below MB6.out hx3)
                have BZ := Lib.hid (B7.out.trans (hx3.mono B7.out.size))
                have NZ : Hid (0 + nT + nU = (T ++ U).length) := by show _ = _; rw [List.length_append]; have := HT.out; have := HU.out; omega
                have IN : Hid (NdIn wb gd 0 (T ++ U)) := by
                  have o : OwnNd 66 wb w9.heap.size (.slice (some ⟨gd, 0, none⟩) (0 + nT + nU) cd) (T ++ U) := by
                    unfold OwnNd
                    rw [← NZ.out, nods_app]
                    rw [List.nil_append] at r3
                    exact r3
                  rcases ownNd_form o with ⟨hv, _⟩ | ⟨g', cap', hv, _, _, _, _, hin⟩
                  · cases hv
                  · injection hv with hv
                    injection hv with hv
                    injection hv with hv
                    subst hv
                    exact hin
                have FALL : Hid (farB T U sL sM den ma (T ++ U) = true) := by
                  show _ = _
                  unfold farB
                  by_cases h : ma = 0
                  · rw [decide_eq_true h]; rfl
                  · obtain ⟨y, hy, e⟩ := GF.out h
                    rw [List.any_eq_true.2 ⟨y, hy, e⟩, Bool.or_true]
                have NB : Hid (0 + nT + nU ≤ 120) := by show _ ≤ _; have := LT.out; have := HT.out; have := HU.out; omega
                clear r2 gr2 at2 lt2 hx2 r3 gr3 at3 lt3 hx3 a0 a1 b0 b1 s0 s1 zs VV UU I3 I4 XT XU GF t60 t1' M34 MB6 V5 U5
                have HN : Hid (nT + nU = 0 + nT + nU) := by show _ = _; omega
                generalize 0 + nT + nU = N at *
                go_wp2_with fail
                simp only [Nat.zero_add]
                go_loopw [23, 195] (fun f i wr => ∃ j : Nat, j ≤ N ∧ f = .bool (farB T U sL sM den ma ((T ++ U).take j)) ∧ i = .int .i64 j ∧ Below wb.heap.size wb wr) (fun _ i _ => N - (intOf i).toNat)
                case atStart => exact ⟨0, by omega, by rw [List.take_zero, ← FZ.out], rfl, Below.refl _ _⟩
                case round =>
                  obtain ⟨j, hj, rfl, rfl, hb⟩ := hrel
                  have BW := Lib.hid hb
                  clear hb
                  by_cases hlt : j < N
                  · have jZ : j < (T ++ U).length := by have := NZ.out; omega
                    have hin := IN.out.below BW.out IN.out.1
                    obtain ⟨c0, c1⟩ := hin.2 j jZ
                    rw [Nat.zero_add] at c0 c1
                    have hgd := hin.1
                    have FT := Lib.hid (farB_take (T := T) (U := U) (m := sL) (n := sM) (den := den) (k := ma) jZ)
                    have pb := PB.out ((T ++ U).getD j nz).1
                    have qb := QB.out ((T ++ U).getD j nz).1
                    have s12 := S12.out
                    have mbd := MBD.out
                    have dn := DN.out
                    have nb := NB.out
                    have KAx := Lib.hid (fun v hv => KA.out ((T ++ U).getD j nz).1 v hv)
                    have KBx := Lib.hid (fun v hv => KB.out ((T ++ U).getD j nz).1 v hv)
                    clear hin
                    obtain ⟨fb2, hfb2⟩ : ∃ fb2, fb2 = farB T U sL sM den ma ((T ++ U).take (j + 1)) := ⟨_, rfl⟩
                    rw [← hfb2] at FT
                    have HFB := Lib.hid hfb2
                    clear hfb2
                    have MK := Lib.hid (show farB T U sL sM den ma ((T ++ U).take j) = false → ¬ ma = 0 from fun h e => by unfold farB at h; rw [decide_eq_true e] at h; simp at h)
                    generalize farB T U sL sM den ma ((T ++ U).take j) = fb at *
                    generalize betN T 0 ((T ++ U).getD j nz).1 = p' at *
                    generalize betN U 0 ((T ++ U).getD j nz).1 = q' at *
                    generalize ((T ++ U).getD j nz).1 = x at *
                    generalize ((T ++ U).getD j nz).2 = ct at *
                    have j0 : (0 : Int) ≤ (j : Int) := Int.natCast_nonneg _
                    have j1 : (j : Int) < (nT : Int) + (nU : Int) := by have := HN.out; omega
                    have RX := Lib.hid (box2 wr 66 (.int .i64 x) (.int .i64 ct))
                    have hba := below_one wr (.cells #[.int .i64 x, .int .i64 ct] 66)
                    have BX := Lib.hid (BW.out.trans (hba.mono BW.out.size))
                    clear hba
                    go_upto_region 26 with fail
                    obtain ⟨r0, r1, _, _, zr⟩ := box_cells RX.out
                    generalize wr.alloc (.cells #[.int .i64 x, .int .i64 ct] 66) = Wr at *
                    generalize wr.heap.size = gr at *
                    have QW := Lib.hid (QZ.out.trans (BX.out.mono QZ.out.size))
                    obtain ⟨a0, a1, _, _, za⟩ := box_cells (own_below G5.out QW.out)
                    obtain ⟨b0, b1, _, _, zb⟩ := box_cells (own_below F5.out QW.out)
                    (first | rw [HT.out] at a1 | rw [← HT.out] at a1)
                    (first | rw [HU.out] at b1 | rw [← HU.out] at b1)
                    have ZA := Lib.hid za
                    have ZB := Lib.hid zb
                    have ZR := Lib.hid zr
                    clear za zb zr
                    go_region_held3 (fun w' => w'.cell? ⟨gr, 0, none⟩ = some (.int .i64 x) ∧ w'.cell? ⟨gb, 0, none⟩ = some (.int .i64 l1) ∧ w'.cell? ⟨gb, 1, none⟩ = some (.slice (some ⟨g3, 0, none⟩) nT c3) ∧ w'.cell? ⟨gc, 0, none⟩ = some (.int .i64 l2) ∧ w'.cell? ⟨gc, 1, none⟩ = some (.slice (some ⟨g4, 0, none⟩) nU c4) ∧ Below Wr.heap.size Wr w')
                      (first | assumption | (exact gh_keep5 (by assumption) hx2 ZR.out ZA.out ZA.out ZB.out ZB.out) | (exact gh_keep5 (by assumption) hx1 ZR.out ZA.out ZA.out ZB.out ZB.out) | (exact ⟨r0, a0, a1, b0, b1, below_drew _⟩))
                      (first
                        | (go_at_call 18; (with_reducible refine (KAx.out _ (QW.out.trans (Below.mono (gh_below5 (by assumption)) QW.out.size))).mono ?_); rintro e x1 ⟨rfl, hx1⟩)
                        | (go_at_call 18; (with_reducible refine (KBx.out _ (QW.out.trans (Below.mono (gh_below5 (by assumption)) QW.out.size))).mono ?_); rintro e x2 ⟨rfl, hx2⟩))
                    rename_i hH
                    have Bx := Lib.hid (BX.out.trans (Below.mono hH.2.2.2.2.2 BX.out.size))
                    clear hH r0 r1 a0 a1 b0 b1 ZA ZB ZR KAx KBx c0 c1 RX
                    obtain ⟨wx, hwx⟩ : ∃ wx : World, wx = x2 := ⟨_, rfl⟩
                    subst hwx
                    obtain ⟨s0, s1, _, _, zs⟩ := box_cells (own_below MB7.out Bx.out)
                    have hwj : ((j : Int) + 1) = ((j + 1 : Nat) : Int) := by omega
                    have hw2 : IntKind.i64.wrap ((j : Int) + 1) = (j : Int) + 1 := wrap_lit rfl (by omega) (by omega)
                    cases fb
                    · have ma0 := MK.out rfl
                      have BY := Lib.hid (fun v => gpBeyond_any p' sL q' sM den (ma - 1) v (by omega) (by omega) (by omega) (by omega) (by omega) (by omega) (by omega) (by omega) (by omega) (by omega) (by omega) (by omega))
                      have FT2 : Hid (fb2 = byB p' sL q' sM den (ma - 1)) := by show _ = _; rw [FT.out]; simp
                      have wm : wrap64 (ma - 1) = ma - 1 := IntWalk.wrap64_in _ (by omega)
                      generalize byB p' sL q' sM den (ma - 1) = yb at *
                      clear FT MK ma0 pb qb s12 mbd dn
                      go_upto_region 27 with fail
                      rename_i eK
                      go_step
                      go_step
                      go_step
                      rename_i aK
                      refine aK _ _ ?_
                      go_step
                      go_step
                      rename_i bK
                      refine bK _ _ ?_
                      iterate 8 (go_big_want; go_step; rename_i xK; refine xK _ _ ?_; clear xK)
                      go_big_want
                      rename_i fK
                      go_step
                      (go_at_call 20; (with_reducible refine (BY.out _).mono ?_); rintro e u9 ⟨rfl, hu9⟩; have B9 := Lib.hid (Bx.out.trans (hu9.mono Bx.out.size)); clear hu9)
                      refine fK _ _ ?_
                      go_step
                      go_step
                      rename_i cK
                      refine cK _ _ ?_
                      go_step
                      go_step
                      rename_i dK
                      refine dK _ _ ?_
                      clear aK bK cK dK fK
                      go_step
                      go_step
                      refine eK _ _ ?_
                      clear eK
                      go_step
                      go_step
                      rename_i gK
                      refine gp_add1 195 219 (j : Int) rfl rfl (by kernel_rfl) hw2 ?_
                      simp only [Act.put, List.setIfInBounds_toArray, List.set_cons_zero, List.set_cons_succ]
                      refine gK _ _ ?_
                      go_step
                      go_step
                      rename_i hK
                      refine hK _ _ ?_
                      clear gK hK
                      go_step
                      go_big_open
                      go_step
                      go_roundw
                      case rel => exact ⟨j + 1, by omega, by rw [← HFB.out, FT2.out], by rw [hwj], B9.out⟩
                      case measure => exact (show N - ((j : Int) + 1).toNat < N - ((j : Int)).toNat by omega)
                    · have FT2 : Hid (fb2 = true) := by show _ = _; rw [FT.out]; rfl
                      clear FT MK pb qb s12 mbd dn
                      go_upto_region 27 with fail
                      rename_i eK
                      go_step
                      go_step
                      go_step
                      rename_i aK
                      refine aK _ _ ?_
                      go_step
                      go_step
                      rename_i bK
                      refine bK _ _ ?_
                      go_big_skip
                      go_step
                      go_step
                      rename_i cK
                      refine cK _ _ ?_
                      go_step
                      go_step
                      rename_i dK
                      refine dK _ _ ?_
                      clear aK bK cK dK
                      go_step
                      go_step
                      refine eK _ _ ?_
                      clear eK
                      go_step
                      go_step
                      rename_i gK
                      refine gp_add1 195 219 (j : Int) rfl rfl (by kernel_rfl) hw2 ?_
                      simp only [Act.put, List.setIfInBounds_toArray, List.set_cons_zero, List.set_cons_succ]
                      refine gK _ _ ?_
                      go_step
                      go_step
                      rename_i hK
                      refine hK _ _ ?_
                      clear gK hK
                      go_step
                      go_big_open
                      go_step
                      go_roundw
                      case rel => exact ⟨j + 1, by omega, by rw [← HFB.out, FT2.out], by rw [hwj], Bx.out⟩
                      case measure => exact (show N - ((j : Int) + 1).toNat < N - ((j : Int)).toNat by omega)
                  · obtain rfl : j = N := by omega
                    have ef : farB T U sL sM den ma ((T ++ U).take j) = true := by rw [List.take_of_length_le (by have := NZ.out; omega)]; exact FALL.out
                    have Bx := Lib.hid (BZ.out.trans (BW.out.mono BZ.out.size))
                    have j2 : (nT : Int) + (nU : Int) ≤ (j : Int) := by have := HN.out; omega
                    clear hj hlt
                    go_wp2_with (go_at_call 9; refine (AL.out _).mono ?_; rintro e v7 ⟨rfl, hbv7⟩)
                    go_ret
                    exact ⟨rfl, Bx.out.trans (hbv7.mono Bx.out.size)⟩
          · have e6 : ge = 6 := by rw [EG.out, if_neg hl]
            have hln : (l1 != l2) = true := by simp [hl]
            subst e6
            clear EG EA EB ED S12 T12 hl
            go_wp2_with (go_at_call 9; refine (AL.out _).mono ?_; rintro e v7 ⟨rfl, hbv7⟩)
            go_ret
            exact ⟨rfl, B6.out.trans (hbv7.mono B6.out.size)⟩
        · have MD := Lib.hid (dgMade_no l2 k2 kd2 A2 n2 c2 W4 hc2 LL.out.2.1 LL.out.2.2)
          have PN1 : ∀ w, (binOp .eql 27 (.pointer (some ⟨q1, 0, none⟩)) (.pointer none)).run Tryz.prog w = .ok (.bool false) w := fun _ => by kernel_rfl
          clear hc2
          go_wp2_with fail
          refine MD.out.mono ?_
          rintro e w5 ⟨rfl, hb2⟩
          have B5 := Lib.hid (B4.out.trans (hb2.mono B4.out.size))
          have B6 := Lib.hid (B5.out.alloc B5.out.size (.cells #[.int .i64 0, .slice none 0 0] 57))
          clear hb2 MD y0 y1 y2 y3 hy
          go_wp2_with (go_at_call 9; refine (AL.out _).mono ?_; rintro e v7 ⟨rfl, hbv7⟩)
          go_ret
          exact ⟨rfl, B6.out.trans (hbv7.mono B6.out.size)⟩
      · have MD := Lib.hid (dgMade_no l1 k1 kd1 A1 n1 c1 W3 hc1 LL.out.1.1 LL.out.1.2)
        clear hc1
        go_wp2_with fail
        refine MD.out.mono ?_
        rintro e w4 ⟨rfl, hb1⟩
        have C4 := Lib.hid (hb1.alloc hb1.size (.cells #[.int .i64 0, .slice none 0 0] 57))
        have B4 := Lib.hid (B1.out.trans (C4.out.mono B1.out.size))
        have Y4 := Lib.hid (own_below Y1.out C4.out)
        clear hb1 MD x0 x1 x2 x3 hz y0 y1 y2 y3 hy
        go_upto_region 5 with fail
        obtain ⟨y0, y1, y2, y3, _, _, _, _, hy⟩ := quad_all Y4.out
        generalize w4.alloc (.cells #[.int .i64 0, .slice none 0 0] 57) = W4 at *
        have MW := Lib.hid (dgMade_w l2 k2 kd2 A2 n2 c2 O2 _ (H2.out.below B4.out) OB2.out (by have := N2.out; omega) LL.out.2.1 LL.out.2.2)
        go_wp2_with fail
        refine MW.out.mono ?_
        rintro e w5 ⟨pv, l5, A5, m5, c5, rfl, hb2⟩
        have B5 := Lib.hid (B4.out.trans (hb2.mono B4.out.size))
        have B6 := Lib.hid (B5.out.alloc B5.out.size (.cells #[.int .i64 l5, .slice A5 m5 c5] 57))
        clear hb2 MW y0 y1 y2 y3 hy
        go_wp2_with (go_at_call 9; refine (AL.out _).mono ?_; rintro e v7 ⟨rfl, hbv7⟩)
        go_ret
        exact ⟨rfl, B6.out.trans (hbv7.mono B6.out.size)⟩
    · clear BB
      go_wp2_with (go_at_call 9; refine (AL.out _).mono ?_; rintro e v7 ⟨rfl, hbv7⟩)
      go_ret
      exact ⟨rfl, B1.out.trans (hbv7.mono B1.out.size)⟩
end Go.Proofs.YtelekchdbiimiaaGreat
