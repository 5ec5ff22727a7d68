/- The walk of the statement FoldDoes of layer fold: for every input it returns true, and nothing that was there before is changed. -/
import Derived.Test.YtikiflhpicjefaaFoLaw3
import Derived.Test.YtikiflhpicjefaaTiSame
namespace Go.Proofs.Ytikiflhpicjefaa
set_option linter.unusedVariables false
set_option maxRecDepth 100000
open Go.RowKit

theorem keep_n2 {W a b : World} {N : Nat} {p q : Addr} {x y : Value} (h : a.cell? p = some x ∧ a.cell? q = some y ∧ W.heap.size ≤ a.heap.size ∧ Below N W a) (hb : Below a.heap.size a b) (hN : N ≤ W.heap.size) (hp : p.block < W.heap.size) (hq : q.block < W.heap.size) :
    b.cell? p = some x ∧ b.cell? q = some y ∧ W.heap.size ≤ b.heap.size ∧ Below N W b := by
  obtain ⟨h1, h2, h3, h4⟩ := h
  exact ⟨(hb.cell (by omega)).trans h1, (hb.cell (by omega)).trans h2, Nat.le_trans h3 hb.size, h4.trans (hb.mono (by omega))⟩
set_option maxHeartbeats 3200000 in
theorem walk_foldDoes (kd l : Int) (A : Option Addr) (n c : Nat) (L : List Nd) (a b x : Int) (K0 : -9223372036854775808 ≤ kd) (K1 : kd ≤ 9223372036854775807) (L0 : -9223372036854775808 ≤ l) (L1 : l ≤ 9223372036854775807) (NB : NBds L) (m1 : n ≤ 9223372036854775807)
    (A0 : -9223372036854775808 ≤ a) (A1 : a ≤ 9223372036854775807) (I0 : -9223372036854775808 ≤ b) (I1 : b ≤ 9223372036854775807) (C0 : -9223372036854775808 ≤ x) (C1 : x ≤ 9223372036854775807) (w : World) (H1 : NodesAt w (.slice A n c) L) :
    Calls Try.prog 4 #[.int .i64 kd, .int .i64 l, .agg #[.slice A n c, .int .i64 a, .int .i64 b, .int .i64 x]] w fun e w' => e = .returned (.bool true) ∧ Below w.heap.size w w' := by
  have HV := Lib.hid H1
  have HNB : Hid (NBds L) := NB
  have HB0 : Hid (Below w.heap.size w (w.alloc (.cells #[.slice A n c, .int .i64 a, .int .i64 b, .int .i64 x] 25))) := (Below.refl _ _).alloc (Nat.le_refl _) _
  have XB0 := Lib.hid (box4 w 25 (.slice A n c) (.int .i64 a) (.int .i64 b) (.int .i64 x))
  obtain ⟨x0, x1, x2, x3⟩ := quad_cells XB0.out
  have IS := Lib.hid (fun w1 (hb : Below w.heap.size w w1) => foIs_any kd l A n c L w1 (H1.below hb) NB L0 L1)
  clear H1 NB
  by_cases hI : IsFo kd l n L
  · rw [show decide (IsFo kd l n L) = true from decide_eq_true hI] at IS
    obtain ⟨hn, hp, _, hr⟩ := hI
    have HP := Lib.hid hp
    have HRL := Lib.hid hr
    have LD := Lib.hid (fun w1 (hb : Below w.heap.size w w1) => poLoad_any kd l A n c L w1 (HV.out.below hb) HNB.out (by omega) L0 L1)
    have hRC : RollC l L := of_decide_eq_true hr
    have HRC := Lib.hid hRC
    have RFI := Lib.hid (fun w1 (hb : Below w.heap.size w w1) => rFirst_any l a A n c L w1 (HV.out.below hb) hRC (by omega))
    have RPA := Lib.hid (fun w1 (hb : Below w.heap.size w w1) => rParents_any A n c L w1 (HV.out.below hb) HNB.out (by omega))
    have RDO := Lib.hid (fun w1 (hb : Below w.heap.size w w1) => rDo_any l x A n c L w1 (HV.out.below hb) hRC (by omega) C0 C1)
    have hlen : L.length ≤ 60 := by have := (nodes_cells HV.out).1; omega
    have hpl : (parH L).length ≤ 60 := by have := parH_len L; omega
    clear hp hr hRC
    go_enter Try.func4, Try.ntmps4
    go_wp2_with fail
    generalize w.alloc (.cells #[.slice A n c, .int .i64 a, .int .i64 b, .int .i64 x] 25) = W0 at *
    refine (IS.out _ HB0.out).mono ?_
    rintro e w1 ⟨rfl, hb1⟩
    have B1 := Lib.hid (HB0.out.trans (hb1.mono HB0.out.size))
    have XB1 := Lib.hid (own_below XB0.out hb1)
    have HZ1 : Hid (w.heap.size < w1.heap.size) := (XB1.out.lt _ rfl).2
    obtain ⟨y0, y1, y2, y3⟩ := quad_cells XB1.out
    clear x0 x1 x2 x3 hb1
    go_wp2_with fail
    refine (LD.out _ B1.out).mono ?_
    rintro e w2 ⟨hb2, ⟨hi, _⟩ | ⟨_, hr, _⟩ | ⟨_, _, p, g, h, rfl, hd⟩⟩
    · rw [HP.out] at hi; cases hi
    · rw [HRL.out] at hr; cases hr
    have B2 := Lib.hid (B1.out.trans (hb2.mono B1.out.size))
    have XB2 := Lib.hid (own_below XB1.out hb2)
    obtain ⟨z0, z1, z2, z3⟩ := quad_cells XB2.out
    have D2 := Lib.hid hd
    have HZ12 : Hid (w1.heap.size ≤ w2.heap.size) := hb2.size
    have hz2 : w.heap.size < w2.heap.size := (XB2.out.lt _ rfl).2
    clear y0 y1 y2 y3 hb2 hd LD IS
    go_wp2_with fail
    clear hz2
    have hba : Below w2.heap.size w2 (w2.alloc (.cells #[.int .i64 l, .slice A n c] 34)) := (Below.refl _ _).alloc (Nat.le_refl _) _
    have SB3 := Lib.hid (foBx2 w2 34 (.int .i64 l) (.slice A n c))
    have D3 := Lib.hid (D2.out.below hba)
    have B3 := Lib.hid (B2.out.trans (hba.mono B2.out.size))
    have XB3 := Lib.hid (own_below XB2.out hba)
    have HZ13 : Hid (w1.heap.size ≤ (w2.alloc (.cells #[.int .i64 l, .slice A n c] 34)).heap.size) := Nat.le_trans HZ12.out hba.size
    clear hba z0 z1 z2 z3
    generalize w2.alloc (.cells #[.int .i64 l, .slice A n c] 34) = W3 at *
    have PFI := Lib.hid (foFirst_any a W3 D3.out (by omega))
    refine PFI.out.mono ?_
    rintro e w4 ⟨rfl, hb4⟩
    have B4 := Lib.hid (B3.out.trans (hb4.mono B3.out.size))
    have SB4 := Lib.hid (own_below SB3.out hb4)
    have XB4 := Lib.hid (own_below XB3.out hb4)
    have D4 := Lib.hid (D3.out.below hb4)
    have HZ14 : Hid (w1.heap.size ≤ w4.heap.size) := Nat.le_trans HZ13.out hb4.size
    obtain ⟨z0, z1, z2, z3⟩ := quad_cells XB4.out
    obtain ⟨s0, s1, _, _, _⟩ := box_cells SB4.out
    clear hb4 PFI
    go_wp2_with fail
    refine (RFI.out _ B4.out).mono ?_
    rintro e w5 ⟨rfl, hb5⟩
    have B5 := Lib.hid (B4.out.trans (hb5.mono B4.out.size))
    have D5 := Lib.hid (D4.out.below hb5)
    have XB5 := Lib.hid (own_below XB4.out hb5)
    have SB5 := Lib.hid (own_below SB4.out hb5)
    have HZ15 : Hid (w1.heap.size ≤ w5.heap.size) := Nat.le_trans HZ14.out hb5.size
    obtain ⟨u0, u1, u2, u3⟩ := quad_cells XB5.out
    have HZ5 : Hid (w.heap.size < w5.heap.size) := (XB5.out.lt _ rfl).2
    have PPA := Lib.hid (fun w6 (hb : Below w5.heap.size w5 w6) => (foParents_any w6 (D5.out.below hb) (by omega)).mono (R' := fun e w' => ∃ A7 m7 c7, e = .returned (.slice A7 m7 c7) ∧ IntsAt w' (.slice A7 m7 c7) (parH L) ∧ m7 ≤ 1000 ∧ Below w6.heap.size w6 w') fun e w' ⟨v, h1, h2, h3⟩ => by
      obtain ⟨A7, m7, c7, h4⟩ := own_slice h2
      subst h4
      exact ⟨A7, m7, c7, h1, ownI_ints h2, by have := (ints_cells (ownI_ints h2)).1; omega, h3⟩)
    have RPX := Lib.hid (fun w6 (hb : Below w5.heap.size w5 w6) => RPA.out w6 (B5.out.trans (hb.mono B5.out.size)))
    clear z0 z1 z2 z3 s0 s1 hb5 RPA RFI
    generalize fstN l L a (parH L) = f1 at *
    generalize fstB l L a (parH L) = f2 at *
    obtain ⟨T, hT⟩ : ∃ T, T = parH L := ⟨_, rfl⟩
    rw [← hT] at PPA RPX hpl
    clear hT
    go_wp2_with fail
    go_region_held3 (fun w' => w'.cell? ⟨w.heap.size, 0, none⟩ = some (.slice A n c) ∧ w'.cell? ⟨w.heap.size, 3, none⟩ = some (.int .i64 x) ∧ Below w5.heap.size w5 w')
      (first | assumption | (exact keep_two (by assumption) (by assumption) HZ5.out HZ5.out) | (exact ⟨u0, u3, below_drew _⟩))
      (first
        | ((with_reducible refine (PPA.out _ (below_of (p := ⟨w.heap.size, 0, none⟩) (x := .slice A n c) (q := ⟨w.heap.size, 3, none⟩) (y := .int .i64 x) (by assumption))).mono ?_); rintro e v1 ⟨A7, m7, c7, rfl, ho1, hm7, hbv1⟩)
        | ((with_reducible refine (RPX.out _ (below_of (p := ⟨w.heap.size, 0, none⟩) (x := .slice A n c) (q := ⟨w.heap.size, 3, none⟩) (y := .int .i64 x) (by assumption))).mono ?_); rintro e v2 ⟨A8, m8, c8, rfl, hi8, hbv2⟩; have hm8 : m8 ≤ 1000 := (by have := hi8.len; omega))
        | (go_at_call 18; refine (same5_any _ _ _ _ _ _ T T _ (ho1.below hbv2) hi8.at' (by omega) (by omega)).mono ?_; rw [show decide (T = T) = true from decide_eq_true rfl]; rintro e v3 ⟨rfl, hbv3⟩))
    rename_i hH
    rename_i v3 _ _
    have hbb : Below w5.heap.size w5 v3 := hH.2.2
    have B6 := Lib.hid (B5.out.trans (hbb.mono B5.out.size))
    have D6 := Lib.hid (D5.out.below hbb)
    have XB6 := Lib.hid (own_below XB5.out hbb)
    have SB6 := Lib.hid (own_below SB5.out hbb)
    have HZ16 : Hid (w1.heap.size ≤ v3.heap.size) := Nat.le_trans HZ15.out hbb.size
    obtain ⟨q0, q1, q2, q3⟩ := quad_cells XB6.out
    obtain ⟨t0, t1, _, _, _⟩ := box_cells SB6.out
    clear u0 u1 u2 u3 hbb hH
    go_wp2_with fail
    refine (RDO.out _ B6.out).mono ?_
    rintro e w7 ⟨A9, m9, c9, rfl, hv9, hb9⟩
    have B7 := Lib.hid (B6.out.trans (hb9.mono B6.out.size))
    have D7 := Lib.hid (D6.out.below hb9)
    have XB7 := Lib.hid (own_below XB6.out hb9)
    have HV9 := Lib.hid hv9
    have HZ17 : Hid (w1.heap.size ≤ w7.heap.size) := Nat.le_trans HZ16.out hb9.size
    have HLT := Lib.hid D6.out.lt
    have hz7 : w.heap.size < w7.heap.size := (XB7.out.lt _ rfl).2
    obtain ⟨M, hM⟩ : ∃ M, M = foldW l L x := ⟨_, rfl⟩
    rw [← hM] at HV9
    have HM := Lib.hid hM
    clear hv9 hb9 q0 q1 q2 t0 t1 hM RDO
    generalize hpw : pairW l L x = pw at *
    have HPW := Lib.hid hpw
    clear hpw
    go_wp2_with fail
    clear hz7 q3
    have hba : Below w7.heap.size w7 (w7.alloc (.cells #[.int .i64 l, .slice A9 m9 c9] 34)) := (Below.refl _ _).alloc (Nat.le_refl _) _
    have NB8 := Lib.hid (foBx2 w7 34 (.int .i64 l) (.slice A9 m9 c9))
    have D8 := Lib.hid (D7.out.below hba)
    have B8 := Lib.hid (B7.out.trans (hba.mono B7.out.size))
    have XB8 := Lib.hid (own_below XB7.out hba)
    have HZ18 : Hid (w1.heap.size ≤ (w7.alloc (.cells #[.int .i64 l, .slice A9 m9 c9] 34)).heap.size) := Nat.le_trans HZ17.out hba.size
    have HV10 : Hid ((Value.slice A9 m9 c9 = .slice A n c ∧ M = L) ∨ (OwnNd 66 (w7.alloc (.cells #[.int .i64 l, .slice A9 m9 c9] 34)) 0 (.slice A9 m9 c9) M ∧ ∀ b, (Value.slice A9 m9 c9).ownBlock = some b → v3.heap.size ≤ b)) := HV9.out.imp (fun q => q) fun q => ⟨World.ownsRow.alloc q.1 _, q.2⟩
    clear hba HV9
    generalize w7.alloc (.cells #[.int .i64 l, .slice A9 m9 c9] 34) = W8 at *
    obtain ⟨q0, q1, q2, q3⟩ := quad_cells XB8.out
    obtain ⟨n0, n1, _, _, hz8⟩ := box_cells NB8.out
    have HZ8 := Lib.hid hz8
    have DOC : Hid (∀ u, Below W8.heap.size W8 u → Calls Try.prog 22 #[.pointer (some ⟨p, 0, none⟩), .int .i64 x] u fun e w' => e = .returned (.int .i64 pw) ∧ ∃ h2, PoA w' w1.heap.size p g h2 kd l (L.length + 3) M ∧ NodesAt w' (.slice A9 m9 c9) M ∧ m9 ≤ 1000 ∧
        (w'.cell? ⟨w.heap.size, 3, none⟩ = some (.int .i64 x) ∧ w'.cell? ⟨w7.heap.size, 1, none⟩ = some (.slice A9 m9 c9) ∧ W8.heap.size ≤ w'.heap.size ∧ Below w1.heap.size W8 w')) := by
      intro u hu
      have du := D8.out.below hu
      refine (foDo_any x u du (by omega) C0 C1).mono ?_
      rintro e w' ⟨he, h2, hd2, hc2, _⟩
      rw [← HM.out] at hd2
      have lt := du.lt
      have hzu : w1.heap.size ≤ u.heap.size := Nat.le_trans HZ18.out hu.size
      have hbD : Below w1.heap.size u w' := hc2.below lt.2.1 lt.2.2.2.1 hzu
      have hb8 : Below w1.heap.size W8 w' := (hu.mono HZ18.out).trans hbD
      have r2 := du.other (own_below NB8.out hu) hc2 (by decide) (by decide) (by decide) (by decide)
      have hN : NodesAt w' (.slice A9 m9 c9) M := by
        rcases HV10.out with ⟨e1, e2⟩ | ⟨o, hnw⟩
        · rw [e1, e2]
          exact HV.out.below (B8.out.trans (hb8.mono (Nat.le_of_lt HZ1.out)))
        · refine ownNd_nodes (du.nodes (own_below o hu) hc2 fun e => ?_)
          have := hnw h e
          have := HLT.out.2.2.2.2
          omega
      refine ⟨by rw [he, HPW.out], h2, hd2, hN, ?_, ?_, r2.cellAt 1 (by omega), Nat.le_trans hu.size hc2.size, hb8⟩
      · have a := (nodes_cells hN).1
        have b := hd2.len
        omega
      · exact (hb8.cell (p := ⟨w.heap.size, 3, none⟩) HZ1.out).trans q3
    have hss := same_self M
    have HZW : Hid (w.heap.size < W8.heap.size) := Nat.lt_of_lt_of_le HZ1.out HZ18.out
    clear q0 q1 q2 n0 hz8
    go_wp2_with fail
    go_region_held3 (fun w' => w'.cell? ⟨w.heap.size, 3, none⟩ = some (.int .i64 x) ∧ w'.cell? ⟨w7.heap.size, 1, none⟩ = some (.slice A9 m9 c9) ∧ W8.heap.size ≤ w'.heap.size ∧ Below w1.heap.size W8 w')
      (first | assumption | (exact keep_n2 (by assumption) (by assumption) HZ18.out HZW.out HZ8.out) | (exact ⟨q3, n1, (below_drew _).size, (below_drew _).mono HZ18.out⟩))
      (first
        | ((with_reducible refine (DOC.out _ (below_drew _)).mono ?_); rintro e y1 ⟨rfl, h2, hdD, hnD, hm9, hSD⟩)
        | (go_at_call 24; refine (poSnap_any _ hdD (by omega)).mono ?_; rintro e y2 ⟨A3', m3', c3', rfl, ho3, hb3'⟩; have hm3 : m3' ≤ 1000 := (by have a1 := (nodes_cells (ownNd_nodes ho3)).1; have a2 := hdD.len; omega))
        | (go_at_call 23; refine (same_below (rSame_any _ _ _ _ _ _ M M _ (ownNd_nodes ho3) (hnD.below hb3') (by omega) (by omega))).mono ?_; rw [hss]; rintro e y3 ⟨rfl, hb4'⟩)
        | (go_at_call 10; refine (foAlive_any _).mono ?_; rintro e y4 ⟨rfl, hb5'⟩))
    rename_i hH
    have hbb := hH.2.2.2
    go_wp2_with fail
    go_ret
    exact ⟨rfl, B8.out.trans (hbb.mono (Nat.le_of_lt HZ1.out))⟩
  · rw [show decide (IsFo kd l n L) = false from decide_eq_false hI] at IS
    clear hI
    go_enter Try.func4, Try.ntmps4
    go_wp2_with fail
    generalize w.alloc (.cells #[.slice A n c, .int .i64 a, .int .i64 b, .int .i64 x] 25) = W0 at *
    refine (IS.out _ HB0.out).mono ?_
    rintro e w1 ⟨rfl, hb1⟩
    have B1 := Lib.hid (HB0.out.trans (hb1.mono HB0.out.size))
    clear x0 x1 x2 x3 hb1
    go_wp2_with (go_at_call 10; refine (foAlive_any _).mono ?_; rintro e u6 ⟨rfl, hbu6⟩)
    go_ret
    exact ⟨rfl, B1.out.trans (hbu6.mono B1.out.size)⟩

end Go.Proofs.Ytikiflhpicjefaa
