/- What the statements of layer rank call: the chapter's example (alive), Load. -/
import Derived.Test.YtelekchdbiimiaaGreatDgQ
import Derived.Test.YtelekchdbiimiaaGreatDgR
import Derived.Test.YtelekchdbiimiaaGreatDgN
import Derived.Deep.Cut
namespace Go.Proofs.YtelekchdbiimiaaGreat
set_option linter.unusedVariables false
set_option maxRecDepth 100000
open Go.RowKit
/-- is there such a digest, small enough to be tried? -/
def rnkLdB (kd l k : Int) (n : Nat) (L : List Nd) : Bool := decide (¬ 150 < n ∧ ¬ (kd = 1 ∧ 10 < l) ∧ dgLdE kd l k L = 0)
theorem dgLdE_zero' {kd l k : Int} {L : List Nd} (h : dgLdE kd l k L = 0) : (kIs k = true ∧ isP kd l = true) ∧ rollB l L = true ∧ (L.length : Int) ≤ 8 * k ∧ lightB l L k = true := by
  unfold dgLdE at h
  split at h
  · rename_i a
    split at h
    · rename_i b
      split at h
      · rename_i c
        exact ⟨a, b, c.1, c.2⟩
      · simp at h
    · simp at h
  · simp at h
/-- Load: such a digest, and the document's -/
def RnkLdPost (kd l k : Int) (A : Option Addr) (n c : Nat) (L : List Nd) (w : World) (e : Ending) (w' : World) : Prop :=
  ∃ q p g h, e = .returned (.tuple #[.pointer (some ⟨q, 0, none⟩), .agg #[.int .i64 k, .int .i64 l, .slice A n c]]) ∧ DgA w' w.heap.size q p g h kd l k 150 L ∧ Below w.heap.size w w'
set_option maxHeartbeats 6400000 in
theorem rnkLoad_no (l k kd : Int) (A : Option Addr) (n c : Nat) (L : List Nd) (w : World) (hv : NodesAt w (.slice A n c) L) (NB : NBds L) (L0 : -9223372036854775808 ≤ l) (L1 : l ≤ 9223372036854775807) (h : rnkLdB kd l k n L = false) :
    Calls Tryz.prog 23 #[.agg #[.int .i64 l, .int .i64 k, .int .i64 kd, .slice A n c]] w fun e w' => e = .returned (.tuple #[.pointer none, .agg #[.int .i64 0, .int .i64 0, .slice none 0 0]]) ∧ Below w.heap.size w w' := by
  have e1 : (w.alloc (.cells #[.int .i64 l, .int .i64 k, .int .i64 kd, .slice A n c] 26)).heap.size = w.heap.size + 1 := by simp
  have X0 := Lib.hid ((quad_new w 26 (.int .i64 l) (.int .i64 k) (.int .i64 kd) (.slice A n c)).alloc (.cells #[.int .i64 0, .int .i64 0, .slice none 0 0] 31))
  have R0 : Hid (((w.alloc (.cells #[.int .i64 l, .int .i64 k, .int .i64 kd, .slice A n c] 26)).alloc (.cells #[.int .i64 0, .int .i64 0, .slice none 0 0] 31)).ownsRow w.heap.size 31 3 (.slice (some ⟨w.heap.size + 1, 0, none⟩) 1 1) 1 [.int .i64 0, .int .i64 0, .slice none 0 0]) := by
    have q := tri_new (w.alloc (.cells #[.int .i64 l, .int .i64 k, .int .i64 kd, .slice A n c] 26)) 31 (.int .i64 0) (.int .i64 0) (.slice none 0 0)
    rw [e1] at q
    exact own_low q (by omega)
  have HB0 : Hid (Below w.heap.size w ((w.alloc (.cells #[.int .i64 l, .int .i64 k, .int .i64 kd, .slice A n c] 26)).alloc (.cells #[.int .i64 0, .int .i64 0, .slice none 0 0] 31))) := ((Below.refl _ _).alloc (Nat.le_refl _) _).alloc (by simp) _
  obtain ⟨x0, x1, x2, x3, _, _, _, _, hz⟩ := quad_all X0.out
  obtain ⟨r0, r1, r2, rf0, rf1, rf2, hr⟩ := tri_all R0.out
  have hh := of_decide_eq_false h
  have ZE := Lib.hid (tri_set R0.out (.int .i64 0) (.int .i64 0) (.slice none 0 0))
  have LD : Hid (¬ 150 < n → Calls Tryz.prog 24 #[.agg #[.int .i64 l, .int .i64 k, .int .i64 kd], .slice A n c] ((w.alloc (.cells #[.int .i64 l, .int .i64 k, .int .i64 kd, .slice A n c] 26)).alloc (.cells #[.int .i64 0, .int .i64 0, .slice none 0 0] 31)) (DgLoadPost kd l k L ((w.alloc (.cells #[.int .i64 l, .int .i64 k, .int .i64 kd, .slice A n c] 26)).alloc (.cells #[.int .i64 0, .int .i64 0, .slice none 0 0] 31)))) :=
    fun hn => dgLoad_any kd l k A n c L _ (hv.below HB0.out) NB (by omega) L0 L1
  have cs : 150 < n ∨ (¬ 150 < n ∧ kd = 1 ∧ 10 < l) ∨ ((¬ 150 < n ∧ kd = 1 ∧ ¬ 10 < l ∧ ¬ dgLdE kd l k L = 0) ∨ (¬ 150 < n ∧ ¬ kd = 1 ∧ ¬ dgLdE kd l k L = 0)) := by
    by_cases a : 150 < n
    · exact .inl a
    · by_cases b : kd = 1
      · by_cases c : 10 < l
        · exact .inr (.inl ⟨a, b, c⟩)
        · exact .inr (.inr (.inl ⟨a, b, c, fun z => hh ⟨a, fun y => c y.2, z⟩⟩))
      · exact .inr (.inr (.inr ⟨a, b, fun z => hh ⟨a, fun y => b y.1, z⟩⟩))
  clear h hh hv NB e1
  rcases cs with hn | ⟨hn, h1, h2⟩ | hh
  · have g0 : decide (150 < (n : Int)) = true := decide_eq_true (by omega)
    obtain ⟨q0, q1, q2⟩ := set_three R0.out (.int .i64 0) (.int .i64 0) (.slice none 0 0)
    clear hn
    go_enter Tryz.func23, Tryz.ntmps23
    go_wp2_with fail
    generalize (w.alloc (.cells #[.int .i64 l, .int .i64 k, .int .i64 kd, .slice A n c] 26)).alloc (.cells #[.int .i64 0, .int .i64 0, .slice none 0 0] 31) = W at *
    exact bodyPost_ret (v := .tuple #[.pointer none, .agg #[.int .i64 0, .int .i64 0, .slice none 0 0]]) (by simp [results, Tryz.results23, go_sem, r0, r1, r2]) rfl ⟨rfl, HB0.out⟩
  · have g0 : decide (150 < (n : Int)) = false := decide_eq_false (by omega)
    have g1 : (kd == 1) = true := beq_iff_eq.2 h1
    have g2 : decide (10 < l) = true := decide_eq_true h2
    obtain ⟨q0, q1, q2⟩ := set_three R0.out (.int .i64 0) (.int .i64 0) (.slice none 0 0)
    clear hn h1 h2
    go_enter Tryz.func23, Tryz.ntmps23
    go_wp2_with fail
    generalize (w.alloc (.cells #[.int .i64 l, .int .i64 k, .int .i64 kd, .slice A n c] 26)).alloc (.cells #[.int .i64 0, .int .i64 0, .slice none 0 0] 31) = W at *
    exact bodyPost_ret (v := .tuple #[.pointer none, .agg #[.int .i64 0, .int .i64 0, .slice none 0 0]]) (by simp [results, Tryz.results23, go_sem, r0, r1, r2]) rfl ⟨rfl, HB0.out⟩
  · rcases hh with ⟨hn, h1, h2, h3⟩ | ⟨hn, h1, h3⟩
    case' inl =>
      have g1 : (kd == 1) = true := beq_iff_eq.2 h1
      have g2 : decide (10 < l) = false := decide_eq_false h2
      clear h1 h2
    case' inr =>
      have g1 : (kd == 1) = false := beq_eq_false_iff_ne.2 h1
      clear h1
    all_goals
      have g0 : decide (150 < (n : Int)) = false := decide_eq_false (by omega)
      have H3 := Lib.hid h3
      have hx2 : (dgLdE kd l k L != 0) = true := bne_iff_ne.2 h3
      have LL := Lib.hid (LD.out hn)
      clear hn h3 LD ZE
      go_enter Tryz.func23, Tryz.ntmps23
      go_wp2_with fail
      generalize (w.alloc (.cells #[.int .i64 l, .int .i64 k, .int .i64 kd, .slice A n c] 26)).alloc (.cells #[.int .i64 0, .int .i64 0, .slice none 0 0] 31) = W at *
      refine LL.out.mono ?_
      rintro e w1 ⟨hb1, ⟨hi, rfl⟩ | ⟨hi, q, p, g, h, rfl, hd⟩⟩
      · have R1 := Lib.hid (own_below R0.out hb1)
        have B1 := Lib.hid (HB0.out.trans (hb1.mono HB0.out.size))
        have ZE := Lib.hid (tri_set R1.out (.int .i64 0) (.int .i64 0) (.slice none 0 0))
        obtain ⟨y0, y1, y2, f0, f1, f2, hy⟩ := tri_all R1.out
        obtain ⟨q0, q1, q2⟩ := set_three R1.out (.int .i64 0) (.int .i64 0) (.slice none 0 0)
        generalize dgLdE kd l k L = x at *
        clear hi hb1 LL H3 x0 x1 x2 x3 r0 r1 r2 rf0 rf1 rf2 hr hz g0 g1
        go_wp2_with fail
        exact bodyPost_ret (v := .tuple #[.pointer none, .agg #[.int .i64 0, .int .i64 0, .slice none 0 0]]) (by simp [results, Tryz.results23, go_sem, q0, q1, q2]) rfl ⟨rfl, B1.out.trans ZE.out.2.2.1⟩
      · exact absurd hi H3.out
set_option maxHeartbeats 6400000 in
theorem rnkLoad_yes (l k kd : Int) (A : Option Addr) (n c : Nat) (L : List Nd) (w : World) (hv : NodesAt w (.slice A n c) L) (NB : NBds L) (L0 : -9223372036854775808 ≤ l) (L1 : l ≤ 9223372036854775807) (h : rnkLdB kd l k n L = true) :
    Calls Tryz.prog 23 #[.agg #[.int .i64 l, .int .i64 k, .int .i64 kd, .slice A n c]] w (RnkLdPost kd l k A n c L w) := by
  have e1 : (w.alloc (.cells #[.int .i64 l, .int .i64 k, .int .i64 kd, .slice A n c] 26)).heap.size = w.heap.size + 1 := by simp
  have X0 := Lib.hid ((quad_new w 26 (.int .i64 l) (.int .i64 k) (.int .i64 kd) (.slice A n c)).alloc (.cells #[.int .i64 0, .int .i64 0, .slice none 0 0] 31))
  have R0 : Hid (((w.alloc (.cells #[.int .i64 l, .int .i64 k, .int .i64 kd, .slice A n c] 26)).alloc (.cells #[.int .i64 0, .int .i64 0, .slice none 0 0] 31)).ownsRow w.heap.size 31 3 (.slice (some ⟨w.heap.size + 1, 0, none⟩) 1 1) 1 [.int .i64 0, .int .i64 0, .slice none 0 0]) := by
    have q := tri_new (w.alloc (.cells #[.int .i64 l, .int .i64 k, .int .i64 kd, .slice A n c] 26)) 31 (.int .i64 0) (.int .i64 0) (.slice none 0 0)
    rw [e1] at q
    exact own_low q (by omega)
  have HB0 : Hid (Below w.heap.size w ((w.alloc (.cells #[.int .i64 l, .int .i64 k, .int .i64 kd, .slice A n c] 26)).alloc (.cells #[.int .i64 0, .int .i64 0, .slice none 0 0] 31))) := ((Below.refl _ _).alloc (Nat.le_refl _) _).alloc (by simp) _
  have Z0 : Hid (((w.alloc (.cells #[.int .i64 l, .int .i64 k, .int .i64 kd, .slice A n c] 26)).alloc (.cells #[.int .i64 0, .int .i64 0, .slice none 0 0] 31)).heap.size = w.heap.size + 2) := by show _ = _; simp
  obtain ⟨x0, x1, x2, x3, _, _, _, _, hz⟩ := quad_all X0.out
  have HV := Lib.hid (hv.below HB0.out)
  obtain ⟨hn, hk, h3⟩ := of_decide_eq_true h
  have Z := dgLdE_zero' h3
  have LL := Lib.hid (dgLoad_any kd l k A n c L _ HV.out NB (by omega) L0 L1)
  have RL := Lib.hid (fun v (hb : Below _ _ v) => rDgLoad_ok kd l k A n c L v (HV.out.below hb) NB (by omega) L0 L1 Z.1 Z.2.1 Z.2.2.1 Z.2.2.2)
  have H3 := Lib.hid h3
  have NL : Hid (L.length ≤ 150) := by have := (nodes_cells hv).1; show _ ≤ _; omega
  have g0 : decide (150 < (n : Int)) = false := decide_eq_false (by omega)
  clear h hv NB e1 Z h3
  rcases (show (kd = 1 ∧ ¬ 10 < l) ∨ ¬ kd = 1 by omega) with ⟨h1, h2⟩ | h1
  case' inl =>
    have g1 : (kd == 1) = true := beq_iff_eq.2 h1
    have g2 : decide (10 < l) = false := decide_eq_false h2
    clear h1 h2 hk hn
  case' inr =>
    have g1 : (kd == 1) = false := beq_eq_false_iff_ne.2 h1
    clear h1 hk hn
  all_goals
    go_enter Tryz.func23, Tryz.ntmps23
    go_wp2_with fail
    generalize (w.alloc (.cells #[.int .i64 l, .int .i64 k, .int .i64 kd, .slice A n c] 26)).alloc (.cells #[.int .i64 0, .int .i64 0, .slice none 0 0] 31) = W at *
    refine LL.out.mono ?_
    rintro e w1 ⟨hb1, ⟨hi, _⟩ | ⟨hi, q, p, g, h, rfl, hd⟩⟩
    · exact absurd H3.out hi
    have D1 := Lib.hid hd
    have Q1 := Lib.hid hb1
    obtain ⟨x0, x1, x2, x3, _, _, _, _, hz⟩ := quad_all (own_below X0.out hb1)
    clear hi hb1 hd LL g0 g1
    go_wp2_with fail
    refine (RL.out _ Q1.out).mono ?_
    rintro e w2 ⟨rfl, hb2⟩
    have hba := (Below.refl w2.heap.size w2).alloc (Nat.le_refl _) (.cells #[.int .i64 k, .int .i64 l, .slice A n c] 31)
    have Q3 := Lib.hid (Q1.out.trans ((hb2.trans (hba.mono hb2.size)).mono Q1.out.size))
    have D3 := Lib.hid ((D1.out.below hb2).below hba)
    have RR := Lib.hid (own_below R0.out Q3.out)
    have T3 := Lib.hid (tri_nw w2 31 (.int .i64 k) (.int .i64 l) (.slice A n c))
    clear hb2 hba RL x0 x1 x2 x3 hz
    go_upto_region 7 with fail
    generalize w2.alloc (.cells #[.int .i64 k, .int .i64 l, .slice A n c] 31) = W3 at *
    obtain ⟨t0, t1, t2, _, _, _, ht⟩ := tri_all T3.out
    obtain ⟨y0, y1, y2, yf0, yf1, yf2, hy⟩ := tri_all RR.out
    have T := Lib.hid (tri_set RR.out (.int .i64 k) (.int .i64 l) (.slice A n c))
    have q0 : (World.drew (((W3.setCell ⟨w.heap.size + 1, 0, none⟩ (.int .i64 k)).setCell ⟨w.heap.size + 1, 1, none⟩ (.int .i64 l)).setCell ⟨w.heap.size + 1, 2, none⟩ (.slice A n c))).cell? ⟨w.heap.size + 1, 0, none⟩ = some (.int .i64 k) := (set_three RR.out (.int .i64 k) (.int .i64 l) (.slice A n c)).1
    have q1 : (World.drew (((W3.setCell ⟨w.heap.size + 1, 0, none⟩ (.int .i64 k)).setCell ⟨w.heap.size + 1, 1, none⟩ (.int .i64 l)).setCell ⟨w.heap.size + 1, 2, none⟩ (.slice A n c))).cell? ⟨w.heap.size + 1, 1, none⟩ = some (.int .i64 l) := (set_three RR.out (.int .i64 k) (.int .i64 l) (.slice A n c)).2.1
    have q2 : (World.drew (((W3.setCell ⟨w.heap.size + 1, 0, none⟩ (.int .i64 k)).setCell ⟨w.heap.size + 1, 1, none⟩ (.int .i64 l)).setCell ⟨w.heap.size + 1, 2, none⟩ (.slice A n c))).cell? ⟨w.heap.size + 1, 2, none⟩ = some (.slice A n c) := (set_three RR.out (.int .i64 k) (.int .i64 l) (.slice A n c)).2.2
    have KS : Hid (Kp (fun i => i = w.heap.size + 1) W3 (((W3.setCell ⟨w.heap.size + 1, 0, none⟩ (.int .i64 k)).setCell ⟨w.heap.size + 1, 1, none⟩ (.int .i64 l)).setCell ⟨w.heap.size + 1, 2, none⟩ (.slice A n c))) :=
      ((Kp.setCell W3 ⟨w.heap.size + 1, 0, none⟩ (.int .i64 k)).trans (Kp.setCell _ ⟨w.heap.size + 1, 1, none⟩ (.int .i64 l)) (fun _ _ z => z)).trans (Kp.setCell _ ⟨w.heap.size + 1, 2, none⟩ (.slice A n c)) (fun _ _ z => z)
    have DD := Lib.hid (((D3.out.kp KS.out fun i e f => by have := (D1.out.lt i f).1; have := Z0.out; omega).below (below_drew _)).low (B2 := w.heap.size) (by have := Z0.out; omega))
    have B3 := Lib.hid (((HB0.out.trans (Q3.out.mono HB0.out.size)).trans T.out.2.2.1).drew)
    go_region
    go_wp2_with fail
    exact bodyPost_ret (v := .tuple #[.pointer (some ⟨q, 0, none⟩), .agg #[.int .i64 k, .int .i64 l, .slice A n c]]) (by simp [results, Tryz.results23, go_sem, q0, q1, q2]) rfl ⟨q, p, g, h, rfl, DD.out.more NL.out, B3.out⟩
end Go.Proofs.YtelekchdbiimiaaGreat
