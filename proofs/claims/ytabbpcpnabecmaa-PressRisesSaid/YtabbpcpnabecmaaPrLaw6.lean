/- The walk of the statement PressRises of layer press: for every input it returns true, and nothing that was there before is changed. -/
import Derived.Test.YtabbpcpnabecmaaPrLaw
import Derived.Test.YtabbpcpnabecmaaPrRef3
namespace Go.Proofs.Ytabbpcpnabecmaa
set_option linter.unusedVariables false
set_option maxRecDepth 100000
open Go.RowKit

theorem keep_five {W a b : World} {p q r s t : Addr} {x y z u v : Value} (h : a.cell? p = some x ∧ a.cell? q = some y ∧ a.cell? r = some z ∧ a.cell? s = some u ∧ a.cell? t = some v ∧ Below W.heap.size W a) (hb : Below a.heap.size a b)
    (hp : p.block < W.heap.size) (hq : q.block < W.heap.size) (hr : r.block < W.heap.size) (hs : s.block < W.heap.size) (ht : t.block < W.heap.size) : b.cell? p = some x ∧ b.cell? q = some y ∧ b.cell? r = some z ∧ b.cell? s = some u ∧ b.cell? t = some v ∧ Below W.heap.size W b := by
  obtain ⟨h1, h2, h3, h4, h5, h6⟩ := h
  have hz := h6.size
  exact ⟨(hb.cell (by omega)).trans h1, (hb.cell (by omega)).trans h2, (hb.cell (by omega)).trans h3, (hb.cell (by omega)).trans h4, (hb.cell (by omega)).trans h5, h6.trans (hb.mono hz)⟩
theorem prBelow5 {W a : World} {p q r s t : Addr} {x y z u v : Value} (h : a.cell? p = some x ∧ a.cell? q = some y ∧ a.cell? r = some z ∧ a.cell? s = some u ∧ a.cell? t = some v ∧ Below W.heap.size W a) : Below W.heap.size W a := h.2.2.2.2.2
set_option maxHeartbeats 6400000 in
theorem walk_pressRises (kd l : Int) (A : Option Addr) (n c : Nat) (L : List Nd) (k a : Int) (K0 : -9223372036854775808 ≤ kd) (K1 : kd ≤ 9223372036854775807) (L0 : -9223372036854775808 ≤ l) (L1 : l ≤ 9223372036854775807) (NB : NBds L) (m1 : n ≤ 9223372036854775807)
    (A0 : -9223372036854775808 ≤ k) (A1 : k ≤ 9223372036854775807) (I0 : -9223372036854775808 ≤ a) (I1 : a ≤ 9223372036854775807) (w : World) (H1 : NodesAt w (.slice A n c) L) :
    Calls Try.prog 4 #[.int .i64 kd, .int .i64 l, .slice A n c, .agg #[.int .i64 k, .int .i64 a]] w fun e w' => e = .returned (.bool true) ∧ Below w.heap.size w w' := by
  have HV := Lib.hid H1
  have HNB : Hid (NBds L) := NB
  have HB0 : Hid (Below w.heap.size w (w.alloc (.cells #[.int .i64 k, .int .i64 a] 40))) := (Below.refl _ _).alloc (Nat.le_refl _) _
  have XB0 := Lib.hid (foBx2 w 40 (.int .i64 k) (.int .i64 a))
  obtain ⟨x0, x1, _, _, hz⟩ := box_cells XB0.out
  have HZ0 := Lib.hid hz
  have FI := Lib.hid (fun w1 (hb : Below w.heap.size w w1) => foIs_any kd l A n c L w1 (H1.below hb) NB L0 L1)
  have IS := Lib.hid (fun w => rPrIs_any k w)
  clear H1 NB hz
  by_cases hI : IsFo kd l n L
  · rw [show decide (IsFo kd l n L) = true from decide_eq_true hI] at FI
    cases hk : kIs k
    · rw [hk] at IS
      clear hI hk
      go_enter Try.func4, Try.ntmps4
      go_wp2_with fail
      generalize w.alloc (.cells #[.int .i64 k, .int .i64 a] 40) = W0 at *
      refine (FI.out _ HB0.out).mono ?_
      rintro e w1 ⟨rfl, hb1⟩
      obtain ⟨y0, y1, _, _, _⟩ := box_cells (own_below XB0.out hb1)
      have B1 := Lib.hid (HB0.out.trans (hb1.mono HB0.out.size))
      clear hb1 x0 x1
      go_wp2_with (first
        | (go_at_call 6; refine (IS.out _).mono ?_; rintro e w2 ⟨rfl, rfl⟩)
        | (go_at_call 7; refine (prAlive_any _).mono ?_; rintro e u6 ⟨rfl, hbu6⟩))
      go_ret
      exact ⟨rfl, B1.out.trans (hbu6.mono B1.out.size)⟩
    · rw [hk] at IS
      obtain ⟨hn, hp, _, hr⟩ := hI
      have hRC : RollC l L := of_decide_eq_true hr
      have HRC := Lib.hid hRC
      have HK := Lib.hid hk
      have HNL := Lib.hid (nodes_cells HV.out).1
      have hlen : L.length ≤ 60 := by have := HNL.out; omega
      have MD := Lib.hid (fun w1 (hb : Below w.heap.size w w1) => prMade_any kd l A n c L w1 (HV.out.below hb) HNB.out (by omega) L0 L1 hp hr)
      have RBA := Lib.hid (fun w1 (hb : Below w.heap.size w w1) => rPrBelow_any l a A n c L w1 (HV.out.below hb) hRC (by omega) I0 I1)
      have RBO := Lib.hid (fun w1 (hb : Below w.heap.size w w1) => rPrBelow_any l 1 A n c L w1 (HV.out.below hb) hRC (by omega) (by omega) (by omega))
      rw [bel_one hRC] at RBO
      have PRI := Lib.hid (fun (j : Nat) hl => pre_inv (cap := capW L k) (j := j) hRC hl)
      have BPR := Lib.hid (fun (j : Nat) hl => bel_pre (cap := capW L k) (a := a) (j := j) hRC hl)
      clear hp hr hRC hk
      go_enter Try.func4, Try.ntmps4
      go_wp2_with fail
      generalize w.alloc (.cells #[.int .i64 k, .int .i64 a] 40) = W0 at *
      refine (FI.out _ HB0.out).mono ?_
      rintro e w1 ⟨rfl, hb1⟩
      have XB1 := Lib.hid (own_below XB0.out hb1)
      obtain ⟨y0, y1, _, _, _⟩ := box_cells XB1.out
      have B1 := Lib.hid (HB0.out.trans (hb1.mono HB0.out.size))
      clear hb1 x0 x1
      go_wp2_with (go_at_call 6; refine (IS.out _).mono ?_; rintro e w2 ⟨rfl, rfl⟩)
      refine (MD.out _ B1.out).mono ?_
      rintro e w2 ⟨p, g, h, rfl, hd, hb2⟩
      have hba : Below w2.heap.size w2 (w2.alloc (.cells #[.int .i64 l, .slice A n c] 28)) := (Below.refl _ _).alloc (Nat.le_refl _) _
      have SB3 := Lib.hid (own_low (foBx2 w2 28 (.int .i64 l) (.slice A n c)) (Nat.le_trans B1.out.size hb2.size))
      have XB3 := Lib.hid (own_below (own_below XB1.out hb2) hba)
      have D3 := Lib.hid ((hd.low B1.out.size).below hba)
      have B2 := Lib.hid (B1.out.trans (hb2.mono B1.out.size))
      have B3 := Lib.hid (B2.out.trans (hba.mono B2.out.size))
      clear hba hd hb2 MD B1 B2 y0 y1
      obtain ⟨y0, y1, _, _, _⟩ := box_cells XB3.out
      have RN := Lib.hid (prRun_any k _ D3.out (by omega) HK.out)
      go_wp2_with fail
      generalize w2.alloc (.cells #[.int .i64 l, .slice A n c] 28) = W3 at *
      refine RN.out.mono ?_
      rintro e w5 ⟨j, h5, rfl, hl5, hd5, hc5, hh5⟩
      have PIR := Lib.hid (PRI.out j hl5.1).roll
      have PIT := Lib.hid (PRI.out j hl5.1).tot
      have PIL := Lib.hid (PRI.out j hl5.1).len
      have BP := Lib.hid (BPR.out j hl5.1)
      have D5 := Lib.hid hd5
      have lt5 := D3.out.lt
      have B5 := Lib.hid (B3.out.trans (hc5.below lt5.2.1 lt5.2.2.2.1 B3.out.size))
      have SB5 := Lib.hid (D3.out.other SB3.out hc5 (by decide) (by decide) (by decide) (by decide))
      have XB5 := Lib.hid (D3.out.other XB3.out hc5 (by decide) (by decide) (by decide) (by decide))
      clear hl5 hd5 hc5 hh5 lt5 PRI BPR y0 y1 RN
      generalize preA l (capW L k) L j = M at *
      have hml : M.length ≤ 60 := by have := PIL.out; omega
      go_wp2_with fail
      refine (poSnap_any w5 D5.out (by omega)).mono ?_
      rintro e w6 ⟨A6, m6, c6, rfl, ho6, hb6⟩
      have hba : Below w6.heap.size w6 (w6.alloc (.cells #[.int .i64 l, .slice A6 m6 c6] 28)) := (Below.refl _ _).alloc (Nat.le_refl _) _
      have hm6 : m6 ≤ 1000 := by have a1 := (nodes_cells (ownNd_nodes ho6)).1; omega
      have B6 := Lib.hid (B5.out.trans (hb6.mono B5.out.size))
      have B7 := Lib.hid (B6.out.trans (hba.mono B6.out.size))
      have V7 := Lib.hid ((ownNd_nodes ho6).below hba)
      have SB7 := Lib.hid (own_below (own_below SB5.out hb6) hba)
      have XB7 := Lib.hid (own_below (own_below XB5.out hb6) hba)
      have NS7 := Lib.hid (foBx2 w6 28 (.int .i64 l) (.slice A6 m6 c6))
      clear hba ho6 hb6
      obtain ⟨y0, y1, _, _, hz1⟩ := box_cells XB7.out
      obtain ⟨s0, s1, _, _, hz2⟩ := box_cells SB7.out
      obtain ⟨t0, t1, _, _, hz3⟩ := box_cells NS7.out
      go_wp2_with fail
      generalize w6.alloc (.cells #[.int .i64 l, .slice A6 m6 c6] 28) = W7 at *
      have RMA := Lib.hid (fun w1 (hb : Below W7.heap.size W7 w1) => rPrBelow_any l a A6 m6 c6 M w1 (V7.out.below hb) PIR.out hm6 I0 I1)
      have RMO := Lib.hid (fun w1 (hb : Below W7.heap.size W7 w1) => rPrBelow_any l 1 A6 m6 c6 M w1 (V7.out.below hb) PIR.out hm6 (by omega) (by omega))
      have RRI := Lib.hid (fun w1 (hb : Below W7.heap.size W7 w1) => (rRight_any l A6 m6 c6 M w1 (V7.out.below hb) (nbds_roll PIR.out) (by omega) L0 L1).mono (R' := fun e w' => e = .returned (.bool true) ∧ Below w1.heap.size w1 w') fun e w' ⟨q1, q2⟩ => ⟨by rw [q1, show rollB l M = true from decide_eq_true PIR.out], q2⟩)
      rw [bel_one PIR.out, PIT.out] at RMO
      have RBA7 := Lib.hid (fun w1 (hb : Below W7.heap.size W7 w1) => RBA.out w1 (B7.out.trans (hb.mono B7.out.size)))
      have RBO7 := Lib.hid (fun w1 (hb : Below W7.heap.size W7 w1) => RBO.out w1 (B7.out.trans (hb.mono B7.out.size)))
      have c1 : decide (belN a M ≤ belN a L) = true := decide_eq_true BP.out
      have c2 : (sumC L == sumC L) = true := by simp
      clear RBA RBO
      generalize belN a M = b1 at *
      generalize belN a L = b2 at *
      generalize sumC L = sc at *
      have HZ1 := Lib.hid hz1
      have HZ2 := Lib.hid hz2
      have HZ3 := Lib.hid hz3
      clear hz1 hz2 hz3 hml hm6
      go_region_held3 (fun w' => w'.cell? ⟨w.heap.size, 1, none⟩ = some (.int .i64 a) ∧ w'.cell? ⟨w2.heap.size, 0, none⟩ = some (.int .i64 l) ∧ w'.cell? ⟨w2.heap.size, 1, none⟩ = some (.slice A n c) ∧ w'.cell? ⟨w6.heap.size, 0, none⟩ = some (.int .i64 l) ∧ w'.cell? ⟨w6.heap.size, 1, none⟩ = some (.slice A6 m6 c6) ∧ Below W7.heap.size W7 w')
        (first | assumption | (exact keep_five (by assumption) (by assumption) HZ1.out HZ2.out HZ2.out HZ3.out HZ3.out) | (exact ⟨y1, s0, s1, t0, t1, below_drew _⟩))
        (first
          | ((with_reducible refine (RMA.out _ (prBelow5 (p := ⟨w.heap.size, 1, none⟩) (x := .int .i64 a) (q := ⟨w2.heap.size, 0, none⟩) (y := .int .i64 l) (r := ⟨w2.heap.size, 1, none⟩) (z := .slice A n c) (s := ⟨w6.heap.size, 0, none⟩) (u := .int .i64 l) (t := ⟨w6.heap.size, 1, none⟩) (v := .slice A6 m6 c6) (by assumption))).mono ?_); rintro e v1 ⟨rfl, hbv1⟩)
          | ((with_reducible refine (RBA7.out _ (prBelow5 (p := ⟨w.heap.size, 1, none⟩) (x := .int .i64 a) (q := ⟨w2.heap.size, 0, none⟩) (y := .int .i64 l) (r := ⟨w2.heap.size, 1, none⟩) (z := .slice A n c) (s := ⟨w6.heap.size, 0, none⟩) (u := .int .i64 l) (t := ⟨w6.heap.size, 1, none⟩) (v := .slice A6 m6 c6) (by assumption))).mono ?_); rintro e v2 ⟨rfl, hbv2⟩)
          | ((with_reducible refine (RMO.out _ (prBelow5 (p := ⟨w.heap.size, 1, none⟩) (x := .int .i64 a) (q := ⟨w2.heap.size, 0, none⟩) (y := .int .i64 l) (r := ⟨w2.heap.size, 1, none⟩) (z := .slice A n c) (s := ⟨w6.heap.size, 0, none⟩) (u := .int .i64 l) (t := ⟨w6.heap.size, 1, none⟩) (v := .slice A6 m6 c6) (by assumption))).mono ?_); rintro e v3 ⟨rfl, hbv3⟩)
          | ((with_reducible refine (RBO7.out _ (prBelow5 (p := ⟨w.heap.size, 1, none⟩) (x := .int .i64 a) (q := ⟨w2.heap.size, 0, none⟩) (y := .int .i64 l) (r := ⟨w2.heap.size, 1, none⟩) (z := .slice A n c) (s := ⟨w6.heap.size, 0, none⟩) (u := .int .i64 l) (t := ⟨w6.heap.size, 1, none⟩) (v := .slice A6 m6 c6) (by assumption))).mono ?_); rintro e v4 ⟨rfl, hbv4⟩)
          | ((with_reducible refine (RRI.out _ (prBelow5 (p := ⟨w.heap.size, 1, none⟩) (x := .int .i64 a) (q := ⟨w2.heap.size, 0, none⟩) (y := .int .i64 l) (r := ⟨w2.heap.size, 1, none⟩) (z := .slice A n c) (s := ⟨w6.heap.size, 0, none⟩) (u := .int .i64 l) (t := ⟨w6.heap.size, 1, none⟩) (v := .slice A6 m6 c6) (by assumption))).mono ?_); rintro e v5 ⟨rfl, hbv5⟩)
          | (go_at_call 7; refine (prAlive_any _).mono ?_; rintro e v7 ⟨rfl, hbv7⟩))
      rename_i hH
      have hbb := hH.2.2.2.2.2
      go_wp2_with fail
      go_ret
      exact ⟨rfl, B7.out.trans (hbb.mono B7.out.size)⟩
  · rw [show decide (IsFo kd l n L) = false from decide_eq_false hI] at FI
    clear hI
    go_enter Try.func4, Try.ntmps4
    go_wp2_with fail
    generalize w.alloc (.cells #[.int .i64 k, .int .i64 a] 40) = W0 at *
    refine (FI.out _ HB0.out).mono ?_
    rintro e w1 ⟨rfl, hb1⟩
    have B1 := Lib.hid (HB0.out.trans (hb1.mono HB0.out.size))
    clear hb1 x0 x1
    go_wp2_with (go_at_call 7; refine (prAlive_any _).mono ?_; rintro e u6 ⟨rfl, hbu6⟩)
    go_ret
    exact ⟨rfl, B1.out.trans (hbu6.mono B1.out.size)⟩

end Go.Proofs.Ytabbpcpnabecmaa
