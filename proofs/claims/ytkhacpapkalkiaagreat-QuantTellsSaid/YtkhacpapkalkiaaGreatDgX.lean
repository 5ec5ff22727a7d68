/- Texts laid together: DgRef6, DgRef7. -/
import Derived.Test.YtkhacpapkalkiaaGreatDgR
import Derived.Test.YtkhacpapkalkiaaGreatDgN
import Derived.Test.YtkhacpapkalkiaaGreatFoR
/- The document's answer of package dewpondref13: Load. -/
namespace Go.Proofs.YtkhacpapkalkiaaGreat
set_option linter.unusedVariables false
set_option maxRecDepth 100000
open Go.RowKit

/-- the two boxes of a call of Load: the conf, and the digest that is handed out -/
structure DgJ (w W : World) (l k kd : Int) : Prop where
  s : W.ownsRow w.heap.size 23 3 (.slice (some ⟨w.heap.size, 0, none⟩) 1 1) 1 [.int .i64 l, .int .i64 k, .int .i64 kd]
  r : W.ownsRow w.heap.size 37 3 (.slice (some ⟨w.heap.size + 1, 0, none⟩) 1 1) 1 [.int .i64 0, .int .i64 0, .slice none 0 0]
  b : Below w.heap.size w W
theorem dgJ_new (w : World) (l k kd : Int) : DgJ w ((w.alloc (.cells #[.int .i64 l, .int .i64 k, .int .i64 kd] 23)).alloc (.cells #[.int .i64 0, .int .i64 0, .slice none 0 0] 37)) l k kd := by
  have e1 : (w.alloc (.cells #[.int .i64 l, .int .i64 k, .int .i64 kd] 23)).heap.size = w.heap.size + 1 := by simp
  have q := tri_new (w.alloc (.cells #[.int .i64 l, .int .i64 k, .int .i64 kd] 23)) 37 (.int .i64 0) (.int .i64 0) (.slice none 0 0)
  rw [e1] at q
  exact ⟨(tri_new w _ _ _ _).alloc _, own_low q (by omega), ((Below.refl _ _).alloc (Nat.le_refl _) _).alloc (by simp) _⟩
theorem DgJ.below {w W W' : World} {l k kd : Int} (h : DgJ w W l k kd) (hb : Below W.heap.size W W') : DgJ w W' l k kd := ⟨own_below h.s hb, own_below h.r hb, h.b.trans (hb.mono h.b.size)⟩
/-- what Load leaves: the slice that came in, or nothing -/
def RDgLoadPost (k l : Int) (v : Value) (x : Int) (w : World) (e : Ending) (w' : World) : Prop := e = .returned (.tuple #[.agg #[.int .i64 k, .int .i64 l, v], .int .i64 x]) ∧ Below w.heap.size w w'
theorem dgJ_end {w W : World} {l k kd : Int} (I : DgJ w W l k kd) (a b x : Int) (v : Value) : RDgLoadPost a b v x w (.returned (.tuple #[.agg #[.int .i64 a, .int .i64 b, v], .int .i64 x])) (((W.setCell ⟨w.heap.size + 1, 0, none⟩ (.int .i64 a)).setCell ⟨w.heap.size + 1, 1, none⟩ (.int .i64 b)).setCell ⟨w.heap.size + 1, 2, none⟩ v) :=
  ⟨rfl, I.b.trans (tri_set I.r (.int .i64 a) (.int .i64 b) v).2.2.1⟩
set_option maxHeartbeats 3200000 in
theorem rDgLoad_no (kd l k : Int) (A : Option Addr) (m c : Nat) (L : List Nd) (w : World) (hv : NodesAt w (.slice A m c) L) (hB : NBds L) (hm : m ≤ 500) (L0 : -9223372036854775808 ≤ l) (L1 : l ≤ 9223372036854775807) (hx : ¬ dgLdE kd l k L = 0) :
    Calls Tryz.prog 36 #[.agg #[.int .i64 l, .int .i64 k, .int .i64 kd], .slice A m c] w (RDgLoadPost 0 0 (.slice none 0 0) (dgLdE kd l k L) w) := by
  have I0 := Lib.hid (dgJ_new w l k kd)
  have HV := Lib.hid (hv.below I0.out.b)
  have HNL := Lib.hid (nodes_cells hv).1
  have HNB : Hid (NBds L) := hB
  have IS := Lib.hid (fun w => rDgIs_any l k kd w)
  obtain ⟨x0, x1, x2, _, _, _, hz⟩ := tri_all I0.out.s
  clear hv hB
  by_cases hc : kIs k = true ∧ isP kd l = true
  · rw [hc.1, hc.2] at IS
    have kb : 1 ≤ k ∧ k ≤ 1048576 := of_decide_eq_true hc.1
    have RT := Lib.hid (fun w1 (h : NodesAt w1 (.slice A m c) L) => rRight_any l A m c L w1 h HNB.out (by omega) L0 L1)
    unfold RightPost at RT
    cases hr : rollB l L
    · rw [hr] at RT
      have E : Hid (dgLdE kd l k L = 10) := dgLdE_form hc.1 hc.2 hr
      rw [E.out]
      clear hc hr hx
      go_enter Tryz.func36, Tryz.ntmps36
      go_wp2_with fail
      generalize (w.alloc (.cells #[.int .i64 l, .int .i64 k, .int .i64 kd] 23)).alloc (.cells #[.int .i64 0, .int .i64 0, .slice none 0 0] 37) = W0 at *
      refine (IS.out _).mono ?_
      rintro e w1 ⟨rfl, hb1⟩
      have I1 := Lib.hid (I0.out.below hb1)
      have V1 := Lib.hid (HV.out.below hb1)
      obtain ⟨x0, x1, x2, _, _, _, hz⟩ := tri_all I1.out.s
      clear hb1
      go_wp2_with fail
      refine (RT.out _ V1.out).mono ?_
      rintro e w2 ⟨rfl, hb2⟩
      have I2 := Lib.hid (I1.out.below hb2)
      obtain ⟨y0, y1, y2, f0, f1, f2, hz2⟩ := tri_all I2.out.r
      obtain ⟨q0, q1, q2⟩ := set_three I2.out.r (.int .i64 0) (.int .i64 0) (.slice none 0 0)
      have E2 := Lib.hid (dgJ_end I2.out 0 0 10 (.slice none 0 0))
      clear hb2
      go_wp2_with fail
      exact bodyPost_ret (v := .tuple #[.agg #[.int .i64 0, .int .i64 0, .slice none 0 0], .int .i64 10]) (by simp [results, Tryz.results36, go_sem, q0, q1, q2]) rfl E2.out
    · rw [hr] at RT
      have HR := Lib.hid (roll_iff.1 hr)
      have h4 : ¬ ((L.length : Int) ≤ 8 * k ∧ lightB l L k = true) := fun z => hx (dgLdE_ok hc.1 hc.2 hr z.1 z.2)
      have E : Hid (dgLdE kd l k L = 13) := dgLdE_cap hc.1 hc.2 hr h4
      rw [E.out]
      have NW := Lib.hid (fun w => rDgNew_any l k kd w)
      have hw8 : IntKind.i64.wrap (8 * k) = 8 * k := wrap_lit rfl (by omega) (by omega)
      have LT := Lib.hid (fun w1 (h : NodesAt w1 (.slice A m c) L) => rPrLight_any l k A m c L w1 h HR.out (by omega) (by omega) (by omega))
      have H4 := Lib.hid h4
      clear hc hr hx h4
      go_enter Tryz.func36, Tryz.ntmps36
      go_wp2_with fail
      generalize (w.alloc (.cells #[.int .i64 l, .int .i64 k, .int .i64 kd] 23)).alloc (.cells #[.int .i64 0, .int .i64 0, .slice none 0 0] 37) = W0 at *
      refine (IS.out _).mono ?_
      rintro e w1 ⟨rfl, hb1⟩
      have I1 := Lib.hid (I0.out.below hb1)
      have V1 := Lib.hid (HV.out.below hb1)
      obtain ⟨x0, x1, x2, _, _, _, hz⟩ := tri_all I1.out.s
      clear hb1
      go_wp2_with fail
      refine (RT.out _ V1.out).mono ?_
      rintro e w2 ⟨rfl, hb2⟩
      have I2 := Lib.hid (I1.out.below hb2)
      have V2 := Lib.hid (V1.out.below hb2)
      obtain ⟨x0, x1, x2, _, _, _, hz⟩ := tri_all I2.out.s
      clear hb2
      go_wp2_with fail
      refine (NW.out _).mono ?_
      rintro e w3 ⟨rfl, hb3⟩
      have hba : Below w3.heap.size w3 (w3.alloc (.cells #[.int .i64 k, .int .i64 l, .slice A m c] 37)) := (Below.refl _ _).alloc (Nat.le_refl _) _
      have I3 := Lib.hid (I2.out.below hb3)
      have I4 := Lib.hid (I3.out.below hba)
      have V4 := Lib.hid ((V2.out.below hb3).below hba)
      obtain ⟨x0, x1, x2, _, _, _, hz⟩ := tri_all I3.out.s
      clear hb3 hba
      by_cases hl : (L.length : Int) ≤ 8 * k
      · have z2 : decide (8 * k < (m : Int)) = false := decide_eq_false (by have := HNL.out; omega)
        have hlt : lightB l L k = false := Bool.eq_false_iff.2 fun z => H4.out ⟨hl, z⟩
        rw [hlt] at LT
        clear hl hlt
        go_wp2_with fail
        generalize w3.alloc (.cells #[.int .i64 k, .int .i64 l, .slice A m c] 37) = W4 at *
        refine (LT.out _ V4.out).mono ?_
        rintro e w5 ⟨rfl, hb5⟩
        have I5 := Lib.hid (I4.out.below hb5)
        obtain ⟨y0, y1, y2, f0, f1, f2, hz2⟩ := tri_all I5.out.r
        obtain ⟨q0, q1, q2⟩ := set_three I5.out.r (.int .i64 0) (.int .i64 0) (.slice none 0 0)
        have E2 := Lib.hid (dgJ_end I5.out 0 0 13 (.slice none 0 0))
        clear hb5
        go_wp2_with fail
        exact bodyPost_ret (v := .tuple #[.agg #[.int .i64 0, .int .i64 0, .slice none 0 0], .int .i64 13]) (by simp [results, Tryz.results36, go_sem, q0, q1, q2]) rfl E2.out
      · have z2 : decide (8 * k < (m : Int)) = true := decide_eq_true (by have := HNL.out; omega)
        obtain ⟨y0, y1, y2, f0, f1, f2, hz2⟩ := tri_all I3.out.r
        obtain ⟨q0, q1, q2⟩ := set_three I3.out.r (.int .i64 0) (.int .i64 0) (.slice none 0 0)
        have E2 := Lib.hid (dgJ_end I3.out 0 0 13 (.slice none 0 0))
        clear hl
        go_wp2_with fail
        exact bodyPost_ret (v := .tuple #[.agg #[.int .i64 0, .int .i64 0, .slice none 0 0], .int .i64 13]) (by simp [results, Tryz.results36, go_sem, q0, q1, q2, hz2]) rfl ⟨rfl, E2.out.2.alloc E2.out.2.size _⟩
  · have E : Hid (dgLdE kd l k L = 2) := dgLdE_conf hc
    rw [E.out]
    have hf : (kIs k && isP kd l) = false := by
      rw [Bool.and_eq_false_iff]
      rcases Classical.em (kIs k = true) with q | q
      · exact .inr (Bool.eq_false_iff.2 fun z => hc ⟨q, z⟩)
      · exact .inl (Bool.eq_false_iff.2 q)
    rw [hf] at IS
    clear hc hf hx
    go_enter Tryz.func36, Tryz.ntmps36
    go_wp2_with fail
    generalize (w.alloc (.cells #[.int .i64 l, .int .i64 k, .int .i64 kd] 23)).alloc (.cells #[.int .i64 0, .int .i64 0, .slice none 0 0] 37) = W0 at *
    refine (IS.out _).mono ?_
    rintro e w1 ⟨rfl, hb1⟩
    have I1 := Lib.hid (I0.out.below hb1)
    obtain ⟨y0, y1, y2, f0, f1, f2, hz2⟩ := tri_all I1.out.r
    obtain ⟨q0, q1, q2⟩ := set_three I1.out.r (.int .i64 0) (.int .i64 0) (.slice none 0 0)
    have E2 := Lib.hid (dgJ_end I1.out 0 0 2 (.slice none 0 0))
    clear hb1
    go_wp2_with fail
    exact bodyPost_ret (v := .tuple #[.agg #[.int .i64 0, .int .i64 0, .slice none 0 0], .int .i64 2]) (by simp [results, Tryz.results36, go_sem, q0, q1, q2]) rfl E2.out
set_option maxHeartbeats 3200000 in
theorem rDgLoad_ok (kd l k : Int) (A : Option Addr) (m c : Nat) (L : List Nd) (w : World) (hv : NodesAt w (.slice A m c) L) (hB : NBds L) (hm : m ≤ 500) (L0 : -9223372036854775808 ≤ l) (L1 : l ≤ 9223372036854775807) (hc : kIs k = true ∧ isP kd l = true) (hr : rollB l L = true) (hl : (L.length : Int) ≤ 8 * k) (hlt : lightB l L k = true) :
    Calls Tryz.prog 36 #[.agg #[.int .i64 l, .int .i64 k, .int .i64 kd], .slice A m c] w (RDgLoadPost k l (.slice A m c) 0 w) := by
  have I0 := Lib.hid (dgJ_new w l k kd)
  have HV := Lib.hid (hv.below I0.out.b)
  have hnl := (nodes_cells hv).1
  have HNB : Hid (NBds L) := hB
  have IS := Lib.hid (fun w => rDgIs_any l k kd w)
  obtain ⟨x0, x1, x2, _, _, _, hz⟩ := tri_all I0.out.s
  rw [hc.1, hc.2] at IS
  have kb : 1 ≤ k ∧ k ≤ 1048576 := of_decide_eq_true hc.1
  have RT := Lib.hid (fun w1 (h : NodesAt w1 (.slice A m c) L) => rRight_any l A m c L w1 h HNB.out (by omega) L0 L1)
  unfold RightPost at RT
  rw [hr] at RT
  have HR := Lib.hid (roll_iff.1 hr)
  have NW := Lib.hid (fun w => rDgNew_any l k kd w)
  have hw8 : IntKind.i64.wrap (8 * k) = 8 * k := wrap_lit rfl (by omega) (by omega)
  have LT := Lib.hid (fun w1 (h : NodesAt w1 (.slice A m c) L) => rPrLight_any l k A m c L w1 h HR.out (by omega) (by omega) (by omega))
  rw [hlt] at LT
  have z2 : decide (8 * k < (m : Int)) = false := decide_eq_false (by omega)
  clear hv hB hc hr hlt hl hnl
  go_enter Tryz.func36, Tryz.ntmps36
  go_wp2_with fail
  generalize (w.alloc (.cells #[.int .i64 l, .int .i64 k, .int .i64 kd] 23)).alloc (.cells #[.int .i64 0, .int .i64 0, .slice none 0 0] 37) = W0 at *
  refine (IS.out _).mono ?_
  rintro e w1 ⟨rfl, hb1⟩
  have I1 := Lib.hid (I0.out.below hb1)
  have V1 := Lib.hid (HV.out.below hb1)
  obtain ⟨x0, x1, x2, _, _, _, hz⟩ := tri_all I1.out.s
  clear hb1
  go_wp2_with fail
  refine (RT.out _ V1.out).mono ?_
  rintro e w2 ⟨rfl, hb2⟩
  have I2 := Lib.hid (I1.out.below hb2)
  have V2 := Lib.hid (V1.out.below hb2)
  obtain ⟨x0, x1, x2, _, _, _, hz⟩ := tri_all I2.out.s
  clear hb2
  go_wp2_with fail
  refine (NW.out _).mono ?_
  rintro e w3 ⟨rfl, hb3⟩
  have hba : Below w3.heap.size w3 (w3.alloc (.cells #[.int .i64 k, .int .i64 l, .slice A m c] 37)) := (Below.refl _ _).alloc (Nat.le_refl _) _
  have I3 := Lib.hid (I2.out.below hb3)
  have I4 := Lib.hid (I3.out.below hba)
  have V4 := Lib.hid ((V2.out.below hb3).below hba)
  have T4 := Lib.hid (tri_new w3 37 (.int .i64 k) (.int .i64 l) (.slice A m c))
  obtain ⟨x0, x1, x2, _, _, _, hz⟩ := tri_all I3.out.s
  clear hb3 hba
  go_wp2_with fail
  generalize w3.alloc (.cells #[.int .i64 k, .int .i64 l, .slice A m c] 37) = W4 at *
  refine (LT.out _ V4.out).mono ?_
  rintro e w5 ⟨rfl, hb5⟩
  have I5 := Lib.hid (I4.out.below hb5)
  obtain ⟨t0, t1, t2, _, _, _, hz3⟩ := tri_all (own_below T4.out hb5)
  obtain ⟨y0, y1, y2, f0, f1, f2, hz2⟩ := tri_all I5.out.r
  obtain ⟨q0, q1, q2⟩ := set_three I5.out.r (.int .i64 k) (.int .i64 l) (.slice A m c)
  have E2 := Lib.hid (dgJ_end I5.out k l 0 (.slice A m c))
  clear hb5
  go_wp2_with fail
  exact bodyPost_ret (v := .tuple #[.agg #[.int .i64 k, .int .i64 l, .slice A m c], .int .i64 0]) (by simp [results, Tryz.results36, go_sem, q0, q1, q2]) rfl E2.out

end Go.Proofs.YtkhacpapkalkiaaGreat

/- The document's answer of package dewpondref13: Above. -/
namespace Go.Proofs.YtkhacpapkalkiaaGreat
set_option linter.unusedVariables false
set_option maxRecDepth 100000
open Go.RowKit

end Go.Proofs.YtkhacpapkalkiaaGreat
