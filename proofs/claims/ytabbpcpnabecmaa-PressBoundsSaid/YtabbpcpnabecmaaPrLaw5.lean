/- The walk of the statement PressBounds of layer press: for every input it returns true, and nothing that was there before is changed. -/
import Derived.Test.YtabbpcpnabecmaaPrLaw
import Derived.Deep.Cut
import Derived.Deep.DeepCutAuto
namespace Go.Proofs.Ytabbpcpnabecmaa
set_option linter.unusedVariables false
set_option maxRecDepth 100000
open Go.RowKit

/-- folded as far as may be: what is then -/
structure PressedI (l : Int) (L : List Nd) (k : Int) (M : List Nd) : Prop where
  roll : RollC l M
  tight : tightB l M k = true
  tot : sumC M = sumC L
  few : (M.length : Int) ≤ 4 * k - 1
  less : M.length ≤ L.length
  cap : capW M k = capW L k
  light : lightB l L k = true → lightB l M k = true
theorem pressedI {l k : Int} {L : List Nd} (h : RollC l L) (hk : kIs k = true) {j : Nat} (hl : Live l (capW L k) L j) (hx : hasX l (capW L k) (preA l (capW L k) L j) = false) : PressedI l L k (preA l (capW L k) L j) := by
  have q := pre_inv h hl
  have c : capW (preA l (capW L k) L j) k = capW L k := by
    unfold capW at *
    rw [q.tot]
  have kb := of_decide_eq_true hk
  refine ⟨q.roll, ?_, q.tot, ?_, q.len, c, fun hL => ?_⟩
  · unfold tightB
    rw [c, hk, hx]
    rfl
  · refine tight_few q.roll (by omega) fun y => ?_
    have z := none_all q.roll hx y
    have c2 : sumC (preA l (capW L k) L j) / k = capW L k := c
    rw [c2]
    exact z
  · unfold lightB at hL ⊢
    rw [hk] at hL ⊢
    rw [c]
    have z : LightC l (capW L k) L := of_decide_eq_true (by simpa using hL)
    simpa using light_pre h hl z
set_option maxHeartbeats 6400000 in
theorem walk_pressBounds (kd l : Int) (A : Option Addr) (n c : Nat) (L : List Nd) (k : Int) (K0 : -9223372036854775808 ≤ kd) (K1 : kd ≤ 9223372036854775807) (L0 : -9223372036854775808 ≤ l) (L1 : l ≤ 9223372036854775807) (NB : NBds L) (m1 : n ≤ 9223372036854775807)
    (A0 : -9223372036854775808 ≤ k) (A1 : k ≤ 9223372036854775807) (w : World) (H1 : NodesAt w (.slice A n c) L) :
    Calls Try.prog 3 #[.int .i64 kd, .int .i64 l, .slice A n c, .int .i64 k] w fun e w' => e = .returned (.bool true) ∧ Below w.heap.size w w' := by
  have HV := Lib.hid H1
  have HNB : Hid (NBds L) := NB
  have FI := Lib.hid (foIs_any kd l A n c L w H1 NB L0 L1)
  have IS := Lib.hid (fun w => rPrIs_any k w)
  clear H1 NB
  by_cases hI : IsFo kd l n L
  · rw [show decide (IsFo kd l n L) = true from decide_eq_true hI] at FI
    cases hk : kIs k
    · rw [hk] at IS
      clear hI hk
      go_enter Try.func3, Try.ntmps3
      go_wp2_with (first
        | (go_at_call 5; refine FI.out.mono ?_; rintro e w1 ⟨rfl, hb1⟩)
        | (go_at_call 6; refine (IS.out _).mono ?_; rintro e w2 ⟨rfl, rfl⟩)
        | (go_at_call 7; refine (prAlive_any _).mono ?_; rintro e u6 ⟨rfl, hbu6⟩))
      go_ret
      exact ⟨rfl, hb1.trans (hbu6.mono hb1.size)⟩
    · rw [hk] at IS
      have u := isFo_uni hI
      obtain ⟨hn, hp, _, hr⟩ := hI
      have hRC : RollC l L := of_decide_eq_true hr
      have HRC := Lib.hid hRC
      have HK := Lib.hid hk
      have kb := of_decide_eq_true hk
      have HNL := Lib.hid (nodes_cells HV.out).1
      have hlen : L.length ≤ 60 := by have := HNL.out; omega
      have MD := Lib.hid (fun w1 (hb : Below w.heap.size w w1) => prMade_any kd l A n c L w1 (HV.out.below hb) HNB.out (by omega) L0 L1 hp hr)
      have RTT := Lib.hid (fun w1 (hb : Below w.heap.size w w1) => rsTotal_any l A n c L w1 (HV.out.below hb) hRC (by omega))
      have LLE := Lib.hid (fun (j : Nat) hl => live_le (cap := capW L k) (j := j) hRC hl)
      have PRS := Lib.hid (fun (j : Nat) hl hx => pressedI (k := k) (j := j) hRC hk hl hx)
      clear hp hr hRC hk
      go_enter Try.func3, Try.ntmps3
      go_wp2_with (first
        | (go_at_call 5; refine FI.out.mono ?_; rintro e w1 ⟨rfl, hb1⟩)
        | (go_at_call 6; refine (IS.out _).mono ?_; rintro e w2 ⟨rfl, rfl⟩))
      have B1 := Lib.hid hb1
      clear hb1 FI
      refine (MD.out _ B1.out).mono ?_
      rintro e w2 ⟨p, g, h, rfl, hd, hb2⟩
      have hba : Below w2.heap.size w2 (w2.alloc (.cells #[.int .i64 l, .slice A n c] 28)) := (Below.refl _ _).alloc (Nat.le_refl _) _
      have SB3 := Lib.hid (own_low (foBx2 w2 28 (.int .i64 l) (.slice A n c)) (Nat.le_trans B1.out.size hb2.size))
      have D3 := Lib.hid ((hd.low B1.out.size).below hba)
      have B2 := Lib.hid (B1.out.trans (hb2.mono B1.out.size))
      have B3 := Lib.hid (B2.out.trans (hba.mono B2.out.size))
      clear hba hd hb2 MD B1 B2
      go_wp2_with fail
      generalize w2.alloc (.cells #[.int .i64 l, .slice A n c] 28) = W3 at *
      refine (prLight_any k W3 D3.out (by omega)).mono ?_
      rintro e w4 ⟨rfl, hb4⟩
      have D4 := Lib.hid (D3.out.below hb4)
      have B4 := Lib.hid (B3.out.trans (hb4.mono B3.out.size))
      have SB4 := Lib.hid (own_below SB3.out hb4)
      clear hb4
      go_wp2_with fail
      refine (prRun_any k w4 D4.out (by omega) HK.out).mono ?_
      rintro e w5 ⟨j, h5, rfl, hl5, hd5, hc5, hh5⟩
      have PP := Lib.hid (PRS.out j hl5.1 hl5.2)
      have JL := LLE.out j hl5.1
      have JL2 : (j : Int) ≤ l * (n : Int) := by have := HNL.out; rw [this]; exact JL
      have m1 : 0 ≤ l * (n : Int) := Int.mul_nonneg (by omega) (by omega)
      have m2 : l * (n : Int) ≤ 48 * (n : Int) := Int.mul_le_mul_of_nonneg_right u.2 (by omega)
      have D5 := Lib.hid hd5
      have lt5 := D4.out.lt
      have B5 := Lib.hid (B4.out.trans (hc5.below lt5.2.1 lt5.2.2.2.1 B4.out.size))
      have SB5 := Lib.hid (D4.out.other SB4.out hc5 (by decide) (by decide) (by decide) (by decide))
      clear hl5 hd5 hc5 hh5 lt5 JL PRS LLE
      obtain ⟨s0, s1, _, _, hz⟩ := box_cells SB5.out
      have HZ5 := Lib.hid hz
      clear hz
      generalize preA l (capW L k) L j = M at *
      have PT := Lib.hid (fun w6 (hb : Below w5.heap.size w5 w6) => prTight_any k w6 (D5.out.below hb) (by omega) A0 A1)
      have PG := Lib.hid (fun w6 (hb : Below w5.heap.size w5 w6) => prLight_any k w6 (D5.out.below hb) (by omega))
      have PO := Lib.hid (fun w6 (hb : Below w5.heap.size w5 w6) => read_below (poTotal_any w6 (D5.out.below hb) (by omega)))
      have PN := Lib.hid (fun w6 (hb : Below w5.heap.size w5 w6) => read_below (poLen_any w6 (D5.out.below hb) (by omega)))
      have RT := Lib.hid (fun w6 (hb : Below w5.heap.size w5 w6) => RTT.out w6 (B5.out.trans (hb.mono B5.out.size)))
      rw [PP.out.tight] at PT
      rw [PP.out.tot] at PO
      have LG := Lib.hid PP.out.light
      have HML : M.length ≤ 60 := by have := PP.out.less; omega
      have hw1 : IntKind.i64.wrap (4 * k) = 4 * k := wrap_lit rfl (by omega) (by omega)
      have hw2 : IntKind.i64.wrap (4 * k - 1) = 4 * k - 1 := wrap_lit rfl (by omega) (by omega)
      have hw3 : IntKind.i64.wrap (l * (n : Int)) = l * (n : Int) := wrap_lit rfl (by omega) (by omega)
      have c1 : decide (4 * k - 1 < (M.length : Int)) = false := decide_eq_false (by have := PP.out.few; omega)
      have c2 : decide (n < M.length) = false := decide_eq_false (by have a := PP.out.less; have b := HNL.out; omega)
      have c3 : decide (l * (n : Int) < (j : Int)) = false := decide_eq_false (by omega)
      clear RTT m1 m2 JL2
      generalize M.length = ml at *
      generalize sumC L = sc at *
      generalize lightB l M k = lm at *
      generalize lightB l L k = ll at *
      go_upto_region 8 with fail
      go_cut [94] (fun s94 wx => s94 = .bool false ∧ Below w5.heap.size w5 wx)
      case first =>
        cases ll
        · clear LG PG
          refine wp_region_held_drew (S := fun w' => w'.cell? ⟨w2.heap.size, 0, none⟩ = some (.int .i64 l) ∧ w'.cell? ⟨w2.heap.size, 1, none⟩ = some (.slice A n c) ∧ Below w5.heap.size w5 w') (by kernel_rfl) ⟨s0, s1, below_drew _⟩ (fun hHeld => ?_)
          refine wpAnyH_take (i := 0) (oi := { dst := some 48, op := _, type := _, pos := _, after := _, guard := _ }) (v := ?v0) rfl (by kernel_rfl) (by kernel_rfl) (by kernel_rfl) (fun _ _ _ h => h) (Or.inl ⟨by rfl, ?hy0⟩) (by assumption) ?rest0
          case hy0 => (intro w hSw; (try dsimp only at hSw); go_simp <;> with_reducible rfl)
          try simp only [Act.put, List.setIfInBounds_toArray, List.set_cons_zero, List.set_cons_succ]
          refine wpAnyH_take (i := 1) (oi := { dst := some 49, op := _, type := _, pos := _, after := _, guard := _ }) (v := ?v1) rfl (by kernel_rfl) (by kernel_rfl) (by kernel_rfl) (fun _ _ _ h => h) (Or.inl ⟨by rfl, ?hy1⟩) (by assumption) ?rest1
          case hy1 => (intro w hSw; (try dsimp only at hSw); go_simp <;> with_reducible rfl)
          try simp only [Act.put, List.setIfInBounds_toArray, List.set_cons_zero, List.set_cons_succ]
          refine wpAnyH_take (i := 2) (oi := { dst := some 50, op := _, type := _, pos := _, after := _, guard := _ }) (v := ?v2) rfl (by kernel_rfl) (by kernel_rfl) (by kernel_rfl) (fun _ _ _ h => h) (Or.inl ⟨by rfl, ?hy2⟩) (by assumption) ?rest2
          case hy2 => (intro w hSw; (try dsimp only at hSw); go_simp <;> with_reducible rfl)
          try simp only [Act.put, List.setIfInBounds_toArray, List.set_cons_zero, List.set_cons_succ]
          refine wpAnyH_take (i := 3) (oi := { dst := some 51, op := _, type := _, pos := _, after := _, guard := _ }) (v := ?v3) rfl (by kernel_rfl) (by kernel_rfl) (by kernel_rfl) (fun _ _ _ h => h) (Or.inl ⟨by rfl, ?hy3⟩) (by assumption) ?rest3
          case hy3 => (intro w hSw; (try dsimp only at hSw); go_simp <;> with_reducible rfl)
          try simp only [Act.put, List.setIfInBounds_toArray, List.set_cons_zero, List.set_cons_succ]
          refine wpAnyH_take (i := 4) (oi := { dst := some 52, op := _, type := _, pos := _, after := _, guard := _ }) (v := ?v4) rfl (by kernel_rfl) (by kernel_rfl) (by kernel_rfl) (fun _ _ _ h => h) (Or.inl ⟨by rfl, ?hy4⟩) (by assumption) ?rest4
          case hy4 => (intro w hSw; (try dsimp only at hSw); go_simp <;> with_reducible rfl)
          try simp only [Act.put, List.setIfInBounds_toArray, List.set_cons_zero, List.set_cons_succ]
          refine wpAnyH_ready (rs := [5]) (by kernel_rfl) (by simp) (AllReadyH.cons (o := { dst := some 53, op := _, type := _, pos := _, after := _, guard := _ }) rfl (fun K hK => ?_) AllReadyH.nil)
          go_simp
          first
            | ((with_reducible refine (PT.out _ (below_of (p := ⟨w2.heap.size, 0, none⟩) (x := .int .i64 l) (q := ⟨w2.heap.size, 1, none⟩) (y := .slice A n c) (by assumption))).mono ?_); rintro e v1 ⟨rfl, hbv1⟩)
            | ((with_reducible refine (PO.out _ (below_of (p := ⟨w2.heap.size, 0, none⟩) (x := .int .i64 l) (q := ⟨w2.heap.size, 1, none⟩) (y := .slice A n c) (by assumption))).mono ?_); rintro e v2 ⟨rfl, hbv2⟩)
            | ((with_reducible refine (RT.out _ (below_of (p := ⟨w2.heap.size, 0, none⟩) (x := .int .i64 l) (q := ⟨w2.heap.size, 1, none⟩) (y := .slice A n c) (by assumption))).mono ?_); rintro e v3 ⟨rfl, hbv3⟩)
            | ((with_reducible refine (PN.out _ (below_of (p := ⟨w2.heap.size, 0, none⟩) (x := .int .i64 l) (q := ⟨w2.heap.size, 1, none⟩) (y := .slice A n c) (by assumption))).mono ?_); rintro e v4 ⟨rfl, hbv4⟩)
          go_wp2_with fail
          refine hK.out _ _ (by (try dsimp only); exact keep_two (by assumption) (by assumption) HZ5.out HZ5.out) (fun hHeld => ?_)
          clear hK K
          try simp only [Act.put, List.setIfInBounds_toArray, List.set_cons_zero, List.set_cons_succ]
          refine wpAnyH_take (i := 6) (oi := { dst := some 54, op := _, type := _, pos := _, after := _, guard := _ }) (v := ?v6) rfl (by kernel_rfl) (by kernel_rfl) (by kernel_rfl) (fun _ _ _ h => h) (Or.inl ⟨by rfl, ?hy6⟩) (by assumption) ?rest6
          case hy6 => (intro w hSw; (try dsimp only at hSw); go_simp <;> with_reducible rfl)
          try simp only [Act.put, List.setIfInBounds_toArray, List.set_cons_zero, List.set_cons_succ]
          refine wpAnyH_take (i := 7) (oi := { dst := some 55, op := _, type := _, pos := _, after := _, guard := _ }) (v := ?v7) rfl (by kernel_rfl) (by kernel_rfl) (by kernel_rfl) (fun _ _ _ h => h) (Or.inl ⟨by rfl, ?hy7⟩) (by assumption) ?rest7
          case hy7 => (intro w hSw; (try dsimp only at hSw); go_simp <;> with_reducible rfl)
          try simp only [Act.put, List.setIfInBounds_toArray, List.set_cons_zero, List.set_cons_succ]
          refine wpAnyH_take (i := 8) (oi := { dst := some 56, op := _, type := _, pos := _, after := _, guard := _ }) (v := ?v8) rfl (by kernel_rfl) (by kernel_rfl) (by kernel_rfl) (fun _ _ _ h => h) (Or.inl ⟨by rfl, ?hy8⟩) (by assumption) ?rest8
          case hy8 => (intro w hSw; (try dsimp only at hSw); go_simp <;> with_reducible rfl)
          try simp only [Act.put, List.setIfInBounds_toArray, List.set_cons_zero, List.set_cons_succ]
          refine wpAnyH_take (i := 9) (oi := { dst := some 57, op := _, type := _, pos := _, after := _, guard := _ }) (v := ?v9) rfl (by kernel_rfl) (by kernel_rfl) (by kernel_rfl) (fun _ _ _ h => h) (Or.inl ⟨by rfl, ?hy9⟩) (by assumption) ?rest9
          case hy9 => (intro w hSw; (try dsimp only at hSw); go_simp <;> with_reducible rfl)
          try simp only [Act.put, List.setIfInBounds_toArray, List.set_cons_zero, List.set_cons_succ]
          refine wpAnyH_take (i := 11) (oi := { dst := some 59, op := _, type := _, pos := _, after := _, guard := _ }) (v := ?v11) rfl (by kernel_rfl) (by kernel_rfl) (by kernel_rfl) (fun _ _ _ h => h) (Or.inl ⟨by rfl, ?hy11⟩) (by assumption) ?rest11
          case hy11 => (intro w hSw; (try dsimp only at hSw); go_simp <;> with_reducible rfl)
          try simp only [Act.put, List.setIfInBounds_toArray, List.set_cons_zero, List.set_cons_succ]
          refine wpAnyH_ready (rs := [10]) (by kernel_rfl) (by simp) (AllReadyH.cons (o := { dst := some 58, op := _, type := _, pos := _, after := _, guard := _ }) rfl (fun K hK => ?_) AllReadyH.nil)
          go_simp
          first
            | ((with_reducible refine (PT.out _ (below_of (p := ⟨w2.heap.size, 0, none⟩) (x := .int .i64 l) (q := ⟨w2.heap.size, 1, none⟩) (y := .slice A n c) (by assumption))).mono ?_); rintro e v1 ⟨rfl, hbv1⟩)
            | ((with_reducible refine (PO.out _ (below_of (p := ⟨w2.heap.size, 0, none⟩) (x := .int .i64 l) (q := ⟨w2.heap.size, 1, none⟩) (y := .slice A n c) (by assumption))).mono ?_); rintro e v2 ⟨rfl, hbv2⟩)
            | ((with_reducible refine (RT.out _ (below_of (p := ⟨w2.heap.size, 0, none⟩) (x := .int .i64 l) (q := ⟨w2.heap.size, 1, none⟩) (y := .slice A n c) (by assumption))).mono ?_); rintro e v3 ⟨rfl, hbv3⟩)
            | ((with_reducible refine (PN.out _ (below_of (p := ⟨w2.heap.size, 0, none⟩) (x := .int .i64 l) (q := ⟨w2.heap.size, 1, none⟩) (y := .slice A n c) (by assumption))).mono ?_); rintro e v4 ⟨rfl, hbv4⟩)
          go_wp2_with fail
          refine hK.out _ _ (by (try dsimp only); exact keep_two (by assumption) (by assumption) HZ5.out HZ5.out) (fun hHeld => ?_)
          clear hK K
          try simp only [Act.put, List.setIfInBounds_toArray, List.set_cons_zero, List.set_cons_succ]
          refine wpAnyH_ready (rs := [12]) (by kernel_rfl) (by simp) (AllReadyH.cons (o := { dst := some 60, op := _, type := _, pos := _, after := _, guard := _ }) rfl (fun K hK => ?_) AllReadyH.nil)
          go_simp
          first
            | ((with_reducible refine (PT.out _ (below_of (p := ⟨w2.heap.size, 0, none⟩) (x := .int .i64 l) (q := ⟨w2.heap.size, 1, none⟩) (y := .slice A n c) (by assumption))).mono ?_); rintro e v1 ⟨rfl, hbv1⟩)
            | ((with_reducible refine (PO.out _ (below_of (p := ⟨w2.heap.size, 0, none⟩) (x := .int .i64 l) (q := ⟨w2.heap.size, 1, none⟩) (y := .slice A n c) (by assumption))).mono ?_); rintro e v2 ⟨rfl, hbv2⟩)
            | ((with_reducible refine (RT.out _ (below_of (p := ⟨w2.heap.size, 0, none⟩) (x := .int .i64 l) (q := ⟨w2.heap.size, 1, none⟩) (y := .slice A n c) (by assumption))).mono ?_); rintro e v3 ⟨rfl, hbv3⟩)
            | ((with_reducible refine (PN.out _ (below_of (p := ⟨w2.heap.size, 0, none⟩) (x := .int .i64 l) (q := ⟨w2.heap.size, 1, none⟩) (y := .slice A n c) (by assumption))).mono ?_); rintro e v4 ⟨rfl, hbv4⟩)
          go_wp2_with fail
          refine hK.out _ _ (by (try dsimp only); exact keep_two (by assumption) (by assumption) HZ5.out HZ5.out) (fun hHeld => ?_)
          clear hK K
          try simp only [Act.put, List.setIfInBounds_toArray, List.set_cons_zero, List.set_cons_succ]
          refine wpAnyH_take (i := 13) (oi := { dst := some 61, op := _, type := _, pos := _, after := _, guard := _ }) (v := ?v13) rfl (by kernel_rfl) (by kernel_rfl) (by kernel_rfl) (fun _ _ _ h => h) (Or.inl ⟨by rfl, ?hy13⟩) (by assumption) ?rest13
          case hy13 => (intro w hSw; (try dsimp only at hSw); go_simp <;> with_reducible rfl)
          try simp only [Act.put, List.setIfInBounds_toArray, List.set_cons_zero, List.set_cons_succ]
          refine wpAnyH_take (i := 14) (oi := { dst := some 62, op := _, type := _, pos := _, after := _, guard := _ }) (v := ?v14) rfl (by kernel_rfl) (by kernel_rfl) (by kernel_rfl) (fun _ _ _ h => h) (Or.inl ⟨by rfl, ?hy14⟩) (by assumption) ?rest14
          case hy14 => (intro w hSw; (try dsimp only at hSw); go_simp <;> with_reducible rfl)
          try simp only [Act.put, List.setIfInBounds_toArray, List.set_cons_zero, List.set_cons_succ]
          refine wpAnyH_take (i := 15) (oi := { dst := some 63, op := _, type := _, pos := _, after := _, guard := _ }) (v := ?v15) rfl (by kernel_rfl) (by kernel_rfl) (by kernel_rfl) (fun _ _ _ h => h) (Or.inl ⟨by rfl, ?hy15⟩) (by assumption) ?rest15
          case hy15 => (intro w hSw; (try dsimp only at hSw); go_simp <;> with_reducible rfl)
          try simp only [Act.put, List.setIfInBounds_toArray, List.set_cons_zero, List.set_cons_succ]
          refine wpAnyH_take (i := 16) (oi := { dst := some 64, op := _, type := _, pos := _, after := _, guard := _ }) (v := ?v16) rfl (by kernel_rfl) (by kernel_rfl) (by kernel_rfl) (fun _ _ _ h => h) (Or.inl ⟨by rfl, ?hy16⟩) (by assumption) ?rest16
          case hy16 => (intro w hSw; (try dsimp only at hSw); go_simp <;> with_reducible rfl)
          try simp only [Act.put, List.setIfInBounds_toArray, List.set_cons_zero, List.set_cons_succ]
          refine wpAnyH_take (i := 18) (oi := { dst := some 66, op := _, type := _, pos := _, after := _, guard := _ }) (v := ?v18) rfl (by kernel_rfl) (by kernel_rfl) (by kernel_rfl) (fun _ _ _ h => h) (Or.inl ⟨by rfl, ?hy18⟩) (by assumption) ?rest18
          case hy18 => (intro w hSw; (try dsimp only at hSw); go_simp <;> with_reducible rfl)
          try simp only [Act.put, List.setIfInBounds_toArray, List.set_cons_zero, List.set_cons_succ]
          refine wpAnyH_take (i := 19) (oi := { dst := some 67, op := _, type := _, pos := _, after := _, guard := _ }) (v := ?v19) rfl (by kernel_rfl) (by kernel_rfl) (by kernel_rfl) (fun _ _ _ h => h) (Or.inl ⟨by rfl, ?hy19⟩) (by assumption) ?rest19
          case hy19 => (intro w hSw; (try dsimp only at hSw); go_simp <;> with_reducible rfl)
          try simp only [Act.put, List.setIfInBounds_toArray, List.set_cons_zero, List.set_cons_succ]
          refine wpAnyH_take (i := 20) (oi := { dst := some 68, op := _, type := _, pos := _, after := _, guard := _ }) (v := ?v20) rfl (by kernel_rfl) (by kernel_rfl) (by kernel_rfl) (fun _ _ _ h => h) (Or.inl ⟨by rfl, ?hy20⟩) (by assumption) ?rest20
          case hy20 => (intro w hSw; (try dsimp only at hSw); go_simp <;> with_reducible rfl)
          try simp only [Act.put, List.setIfInBounds_toArray, List.set_cons_zero, List.set_cons_succ]
          refine wpAnyH_ready (rs := [17]) (by kernel_rfl) (by simp) (AllReadyH.cons (o := { dst := some 65, op := _, type := _, pos := _, after := _, guard := _ }) rfl (fun K hK => ?_) AllReadyH.nil)
          go_simp
          first
            | ((with_reducible refine (PT.out _ (below_of (p := ⟨w2.heap.size, 0, none⟩) (x := .int .i64 l) (q := ⟨w2.heap.size, 1, none⟩) (y := .slice A n c) (by assumption))).mono ?_); rintro e v1 ⟨rfl, hbv1⟩)
            | ((with_reducible refine (PO.out _ (below_of (p := ⟨w2.heap.size, 0, none⟩) (x := .int .i64 l) (q := ⟨w2.heap.size, 1, none⟩) (y := .slice A n c) (by assumption))).mono ?_); rintro e v2 ⟨rfl, hbv2⟩)
            | ((with_reducible refine (RT.out _ (below_of (p := ⟨w2.heap.size, 0, none⟩) (x := .int .i64 l) (q := ⟨w2.heap.size, 1, none⟩) (y := .slice A n c) (by assumption))).mono ?_); rintro e v3 ⟨rfl, hbv3⟩)
            | ((with_reducible refine (PN.out _ (below_of (p := ⟨w2.heap.size, 0, none⟩) (x := .int .i64 l) (q := ⟨w2.heap.size, 1, none⟩) (y := .slice A n c) (by assumption))).mono ?_); rintro e v4 ⟨rfl, hbv4⟩)
          go_wp2_with fail
          refine hK.out _ _ (by (try dsimp only); exact keep_two (by assumption) (by assumption) HZ5.out HZ5.out) (fun hHeld => ?_)
          clear hK K
          try simp only [Act.put, List.setIfInBounds_toArray, List.set_cons_zero, List.set_cons_succ]
          refine wpAnyH_take (i := 21) (oi := { dst := some 69, op := _, type := _, pos := _, after := _, guard := _ }) (v := ?v21) rfl (by kernel_rfl) (by kernel_rfl) (by kernel_rfl) (fun _ _ _ h => h) (Or.inl ⟨by rfl, ?hy21⟩) (by assumption) ?rest21
          case hy21 => (intro w hSw; (try dsimp only at hSw); go_simp <;> with_reducible rfl)
          try simp only [Act.put, List.setIfInBounds_toArray, List.set_cons_zero, List.set_cons_succ]
          refine wpAnyH_take (i := 22) (oi := { dst := some 70, op := _, type := _, pos := _, after := _, guard := _ }) (v := ?v22) rfl (by kernel_rfl) (by kernel_rfl) (by kernel_rfl) (fun _ _ _ h => h) (Or.inl ⟨by rfl, ?hy22⟩) (by assumption) ?rest22
          case hy22 => (intro w hSw; (try dsimp only at hSw); go_simp <;> with_reducible rfl)
          try simp only [Act.put, List.setIfInBounds_toArray, List.set_cons_zero, List.set_cons_succ]
          refine wpAnyH_take (i := 23) (oi := { dst := some 71, op := _, type := _, pos := _, after := _, guard := _ }) (v := ?v23) rfl (by kernel_rfl) (by kernel_rfl) (by kernel_rfl) (fun _ _ _ h => h) (Or.inl ⟨by rfl, ?hy23⟩) (by assumption) ?rest23
          case hy23 => (intro w hSw; (try dsimp only at hSw); go_simp <;> with_reducible rfl)
          try simp only [Act.put, List.setIfInBounds_toArray, List.set_cons_zero, List.set_cons_succ]
          refine wpAnyH_take (i := 24) (oi := { dst := some 72, op := _, type := _, pos := _, after := _, guard := _ }) (v := ?v24) rfl (by kernel_rfl) (by kernel_rfl) (by kernel_rfl) (fun _ _ _ h => h) (Or.inl ⟨by rfl, ?hy24⟩) (by assumption) ?rest24
          case hy24 => (intro w hSw; (try dsimp only at hSw); go_simp <;> with_reducible rfl)
          try simp only [Act.put, List.setIfInBounds_toArray, List.set_cons_zero, List.set_cons_succ]
          refine wpAnyH_take (i := 26) (oi := { dst := some 74, op := _, type := _, pos := _, after := _, guard := _ }) (v := ?v26) rfl (by kernel_rfl) (by kernel_rfl) (by kernel_rfl) (fun _ _ _ h => h) (Or.inl ⟨by rfl, ?hy26⟩) (by assumption) ?rest26
          case hy26 => (intro w hSw; (try dsimp only at hSw); go_simp <;> with_reducible rfl)
          try simp only [Act.put, List.setIfInBounds_toArray, List.set_cons_zero, List.set_cons_succ]
          refine wpAnyH_take (i := 27) (oi := { dst := some 75, op := _, type := _, pos := _, after := _, guard := _ }) (v := ?v27) rfl (by kernel_rfl) (by kernel_rfl) (by kernel_rfl) (fun _ _ _ h => h) (Or.inl ⟨by rfl, ?hy27⟩) (by assumption) ?rest27
          case hy27 => (intro w hSw; (try dsimp only at hSw); go_simp <;> with_reducible rfl)
          try simp only [Act.put, List.setIfInBounds_toArray, List.set_cons_zero, List.set_cons_succ]
          refine wpAnyH_ready (rs := [25]) (by kernel_rfl) (by simp) (AllReadyH.cons (o := { dst := some 73, op := _, type := _, pos := _, after := _, guard := _ }) rfl (fun K hK => ?_) AllReadyH.nil)
          go_simp
          first
            | ((with_reducible refine (PT.out _ (below_of (p := ⟨w2.heap.size, 0, none⟩) (x := .int .i64 l) (q := ⟨w2.heap.size, 1, none⟩) (y := .slice A n c) (by assumption))).mono ?_); rintro e v1 ⟨rfl, hbv1⟩)
            | ((with_reducible refine (PO.out _ (below_of (p := ⟨w2.heap.size, 0, none⟩) (x := .int .i64 l) (q := ⟨w2.heap.size, 1, none⟩) (y := .slice A n c) (by assumption))).mono ?_); rintro e v2 ⟨rfl, hbv2⟩)
            | ((with_reducible refine (RT.out _ (below_of (p := ⟨w2.heap.size, 0, none⟩) (x := .int .i64 l) (q := ⟨w2.heap.size, 1, none⟩) (y := .slice A n c) (by assumption))).mono ?_); rintro e v3 ⟨rfl, hbv3⟩)
            | ((with_reducible refine (PN.out _ (below_of (p := ⟨w2.heap.size, 0, none⟩) (x := .int .i64 l) (q := ⟨w2.heap.size, 1, none⟩) (y := .slice A n c) (by assumption))).mono ?_); rintro e v4 ⟨rfl, hbv4⟩)
          go_wp2_with fail
          refine hK.out _ _ (by (try dsimp only); exact keep_two (by assumption) (by assumption) HZ5.out HZ5.out) (fun hHeld => ?_)
          clear hK K
          try simp only [Act.put, List.setIfInBounds_toArray, List.set_cons_zero, List.set_cons_succ]
          refine wpAnyH_take (i := 28) (oi := { dst := some 76, op := _, type := _, pos := _, after := _, guard := _ }) (v := ?v28) rfl (by kernel_rfl) (by kernel_rfl) (by kernel_rfl) (fun _ _ _ h => h) (Or.inl ⟨by rfl, ?hy28⟩) (by assumption) ?rest28
          case hy28 => (intro w hSw; (try dsimp only at hSw); go_simp <;> with_reducible rfl)
          try simp only [Act.put, List.setIfInBounds_toArray, List.set_cons_zero, List.set_cons_succ]
          refine wpAnyH_take (i := 29) (oi := { dst := some 77, op := _, type := _, pos := _, after := _, guard := _ }) (v := ?v29) rfl (by kernel_rfl) (by kernel_rfl) (by kernel_rfl) (fun _ _ _ h => h) (Or.inl ⟨by rfl, ?hy29⟩) (by assumption) ?rest29
          case hy29 => (intro w hSw; (try dsimp only at hSw); go_simp <;> with_reducible rfl)
          try simp only [Act.put, List.setIfInBounds_toArray, List.set_cons_zero, List.set_cons_succ]
          refine wpAnyH_take (i := 30) (oi := { dst := some 78, op := _, type := _, pos := _, after := _, guard := _ }) (v := ?v30) rfl (by kernel_rfl) (by kernel_rfl) (by kernel_rfl) (fun _ _ _ h => h) (Or.inl ⟨by rfl, ?hy30⟩) (by assumption) ?rest30
          case hy30 => (intro w hSw; (try dsimp only at hSw); go_simp <;> with_reducible rfl)
          try simp only [Act.put, List.setIfInBounds_toArray, List.set_cons_zero, List.set_cons_succ]
          refine wpAnyH_take (i := 31) (oi := { dst := some 79, op := _, type := _, pos := _, after := _, guard := _ }) (v := ?v31) rfl (by kernel_rfl) (by kernel_rfl) (by kernel_rfl) (fun _ _ _ h => h) (Or.inl ⟨by rfl, ?hy31⟩) (by assumption) ?rest31
          case hy31 => (intro w hSw; (try dsimp only at hSw); go_simp <;> with_reducible rfl)
          try simp only [Act.put, List.setIfInBounds_toArray, List.set_cons_zero, List.set_cons_succ]
          refine wpAnyH_take (i := 32) (oi := { dst := some 80, op := _, type := _, pos := _, after := _, guard := _ }) (v := ?v32) rfl (by kernel_rfl) (by kernel_rfl) (by kernel_rfl) (fun _ _ _ h => h) (Or.inl ⟨by rfl, ?hy32⟩) (by assumption) ?rest32
          case hy32 => (intro w hSw; (try dsimp only at hSw); go_simp <;> with_reducible rfl)
          try simp only [Act.put, List.setIfInBounds_toArray, List.set_cons_zero, List.set_cons_succ]
          refine wpAnyH_take (i := 33) (oi := { dst := some 81, op := _, type := _, pos := _, after := _, guard := _ }) (v := ?v33) rfl (by kernel_rfl) (by kernel_rfl) (by kernel_rfl) (fun _ _ _ h => h) (Or.inl ⟨by rfl, ?hy33⟩) (by assumption) ?rest33
          case hy33 => (intro w hSw; (try dsimp only at hSw); go_simp <;> with_reducible rfl)
          try simp only [Act.put, List.setIfInBounds_toArray, List.set_cons_zero, List.set_cons_succ]
          refine wpAnyH_take (i := 34) (oi := { dst := some 82, op := _, type := _, pos := _, after := _, guard := _ }) (v := ?v34) rfl (by kernel_rfl) (by kernel_rfl) (by kernel_rfl) (fun _ _ _ h => h) (Or.inl ⟨by rfl, ?hy34⟩) (by assumption) ?rest34
          case hy34 => (intro w hSw; (try dsimp only at hSw); go_simp <;> with_reducible rfl)
          try simp only [Act.put, List.setIfInBounds_toArray, List.set_cons_zero, List.set_cons_succ]
          refine wpAnyH_take (i := 35) (oi := { dst := some 83, op := _, type := _, pos := _, after := _, guard := _ }) (v := ?v35) rfl (by kernel_rfl) (by kernel_rfl) (by kernel_rfl) (fun _ _ _ h => h) (Or.inl ⟨by rfl, ?hy35⟩) (by assumption) ?rest35
          case hy35 => (intro w hSw; (try dsimp only at hSw); go_simp <;> with_reducible rfl)
          try simp only [Act.put, List.setIfInBounds_toArray, List.set_cons_zero, List.set_cons_succ]
          refine wpAnyH_take (i := 36) (oi := { dst := some 84, op := _, type := _, pos := _, after := _, guard := _ }) (v := ?v36) rfl (by kernel_rfl) (by kernel_rfl) (by kernel_rfl) (fun _ _ _ h => h) (Or.inl ⟨by rfl, ?hy36⟩) (by assumption) ?rest36
          case hy36 => (intro w hSw; (try dsimp only at hSw); go_simp <;> with_reducible rfl)
          try simp only [Act.put, List.setIfInBounds_toArray, List.set_cons_zero, List.set_cons_succ]
          refine wpAnyH_take (i := 37) (oi := { dst := some 85, op := _, type := _, pos := _, after := _, guard := _ }) (v := ?v37) rfl (by kernel_rfl) (by kernel_rfl) (by kernel_rfl) (fun _ _ _ h => h) (Or.inl ⟨by rfl, ?hy37⟩) (by assumption) ?rest37
          case hy37 => (intro w hSw; (try dsimp only at hSw); go_simp <;> with_reducible rfl)
          try simp only [Act.put, List.setIfInBounds_toArray, List.set_cons_zero, List.set_cons_succ]
          refine wpAnyH_take (i := 38) (oi := { dst := some 86, op := _, type := _, pos := _, after := _, guard := _ }) (v := ?v38) rfl (by kernel_rfl) (by kernel_rfl) (by kernel_rfl) (fun _ _ _ h => h) (Or.inl ⟨by rfl, ?hy38⟩) (by assumption) ?rest38
          case hy38 => (intro w hSw; (try dsimp only at hSw); go_simp <;> with_reducible rfl)
          try simp only [Act.put, List.setIfInBounds_toArray, List.set_cons_zero, List.set_cons_succ]
          refine wpAnyH_take (i := 39) (oi := { dst := some 87, op := _, type := _, pos := _, after := _, guard := _ }) (v := ?v39) rfl (by kernel_rfl) (by kernel_rfl) (by kernel_rfl) (fun _ _ _ h => h) (Or.inl ⟨by rfl, ?hy39⟩) (by assumption) ?rest39
          case hy39 => (intro w hSw; (try dsimp only at hSw); go_simp <;> with_reducible rfl)
          try simp only [Act.put, List.setIfInBounds_toArray, List.set_cons_zero, List.set_cons_succ]
          refine wpAnyH_take (i := 40) (oi := { dst := some 88, op := _, type := _, pos := _, after := _, guard := _ }) (v := ?v40) rfl (by kernel_rfl) (by kernel_rfl) (by kernel_rfl) (fun _ _ _ h => h) (Or.inl ⟨by rfl, ?hy40⟩) (by assumption) ?rest40
          case hy40 => (intro w hSw; (try dsimp only at hSw); go_simp <;> with_reducible rfl)
          try simp only [Act.put, List.setIfInBounds_toArray, List.set_cons_zero, List.set_cons_succ]
          refine wpAnyH_take (i := 41) (oi := { dst := some 89, op := _, type := _, pos := _, after := _, guard := _ }) (v := undef) rfl (by kernel_rfl) (by kernel_rfl) (by kernel_rfl) (fun _ _ _ h => h) (Or.inr ⟨by rfl, rfl⟩) (by assumption) ?_
          try simp only [Act.put, List.setIfInBounds_toArray, List.set_cons_zero, List.set_cons_succ]
          refine wpAnyH_take (i := 42) (oi := { dst := some 90, op := _, type := _, pos := _, after := _, guard := _ }) (v := undef) rfl (by kernel_rfl) (by kernel_rfl) (by kernel_rfl) (fun _ _ _ h => h) (Or.inr ⟨by rfl, rfl⟩) (by assumption) ?_
          try simp only [Act.put, List.setIfInBounds_toArray, List.set_cons_zero, List.set_cons_succ]
          refine wpAnyH_take (i := 43) (oi := { dst := some 91, op := _, type := _, pos := _, after := _, guard := _ }) (v := undef) rfl (by kernel_rfl) (by kernel_rfl) (by kernel_rfl) (fun _ _ _ h => h) (Or.inr ⟨by rfl, rfl⟩) (by assumption) ?_
          try simp only [Act.put, List.setIfInBounds_toArray, List.set_cons_zero, List.set_cons_succ]
          refine wpAnyH_take (i := 44) (oi := { dst := some 92, op := _, type := _, pos := _, after := _, guard := _ }) (v := undef) rfl (by kernel_rfl) (by kernel_rfl) (by kernel_rfl) (fun _ _ _ h => h) (Or.inr ⟨by rfl, rfl⟩) (by assumption) ?_
          try simp only [Act.put, List.setIfInBounds_toArray, List.set_cons_zero, List.set_cons_succ]
          refine wpAnyH_take (i := 45) (oi := { dst := some 93, op := _, type := _, pos := _, after := _, guard := _ }) (v := ?v45) rfl (by kernel_rfl) (by kernel_rfl) (by kernel_rfl) (fun _ _ _ h => h) (Or.inl ⟨by rfl, ?hy45⟩) (by assumption) ?rest45
          case hy45 => (intro w hSw; (try dsimp only at hSw); go_simp <;> with_reducible rfl)
          try simp only [Act.put, List.setIfInBounds_toArray, List.set_cons_zero, List.set_cons_succ]
          refine wpAnyH_take (i := 46) (oi := { dst := some 94, op := _, type := _, pos := _, after := _, guard := _ }) (v := ?v46) rfl (by kernel_rfl) (by kernel_rfl) (by kernel_rfl) (fun _ _ _ h => h) (Or.inl ⟨by rfl, ?hy46⟩) (by assumption) ?rest46
          case hy46 => (intro w hSw; (try dsimp only at hSw); go_simp <;> with_reducible rfl)
          try simp only [Act.put, List.setIfInBounds_toArray, List.set_cons_zero, List.set_cons_succ]
          refine wpAnyH_done (by kernel_rfl) ?_ _
          have hbb := hHeld.2.2
          go_wp2_with fail
          go_meet
          case rel => exact ⟨rfl, hbb⟩
        · have hlm := LG.out rfl
          subst hlm
          clear LG
          go_region_held3 (fun w' => w'.cell? ⟨w2.heap.size, 0, none⟩ = some (.int .i64 l) ∧ w'.cell? ⟨w2.heap.size, 1, none⟩ = some (.slice A n c) ∧ Below w5.heap.size w5 w')
            (first | assumption | (exact keep_two (by assumption) (by assumption) HZ5.out HZ5.out) | (exact ⟨s0, s1, below_drew _⟩))
            (first
              | ((with_reducible refine (PT.out _ (below_of (p := ⟨w2.heap.size, 0, none⟩) (x := .int .i64 l) (q := ⟨w2.heap.size, 1, none⟩) (y := .slice A n c) (by assumption))).mono ?_); rintro e v1 ⟨rfl, hbv1⟩)
              | ((with_reducible refine (PO.out _ (below_of (p := ⟨w2.heap.size, 0, none⟩) (x := .int .i64 l) (q := ⟨w2.heap.size, 1, none⟩) (y := .slice A n c) (by assumption))).mono ?_); rintro e v2 ⟨rfl, hbv2⟩)
              | ((with_reducible refine (RT.out _ (below_of (p := ⟨w2.heap.size, 0, none⟩) (x := .int .i64 l) (q := ⟨w2.heap.size, 1, none⟩) (y := .slice A n c) (by assumption))).mono ?_); rintro e v3 ⟨rfl, hbv3⟩)
              | ((with_reducible refine (PN.out _ (below_of (p := ⟨w2.heap.size, 0, none⟩) (x := .int .i64 l) (q := ⟨w2.heap.size, 1, none⟩) (y := .slice A n c) (by assumption))).mono ?_); rintro e v4 ⟨rfl, hbv4⟩)
              | ((with_reducible refine (PG.out _ (below_of (p := ⟨w2.heap.size, 0, none⟩) (x := .int .i64 l) (q := ⟨w2.heap.size, 1, none⟩) (y := .slice A n c) (by assumption))).mono ?_); rintro e v5 ⟨rfl, hbv5⟩))
          rename_i hH
          have hbb := hH.2.2
          go_wp2_with fail
          go_meet
          case rel => exact ⟨rfl, hbb⟩
      case rest =>
        obtain ⟨hs94, hbc⟩ := hcut
        subst hs94
        have DC := Lib.hid (D5.out.below hbc)
        have BC := Lib.hid (B5.out.trans (hbc.mono B5.out.size))
        clear hbc PT PO PN RT PG LG s0 s1 c1 c2 c3
        have SN1 := Lib.hid (poSnap_any wc DC.out (by omega))
        go_wp2_with fail
        refine SN1.out.mono ?_
        rintro e w6 ⟨A6, m6, c6, rfl, ho6, hb6⟩
        have D6 := Lib.hid (DC.out.below hb6)
        have B6 := Lib.hid (BC.out.trans (hb6.mono BC.out.size))
        have O6 := Lib.hid ho6
        have HC6 : Hid (wc.heap.size ≤ w6.heap.size) := hb6.size
        clear hb6 ho6 SN1
        have RN := Lib.hid (prRun_any k w6 D6.out (by omega) HK.out)
        have TI := PP.out.tight
        unfold tightB at TI
        rw [HK.out] at TI
        have TX : hasX l (capW M k) M = false := by simpa using TI
        go_wp2_with fail
        refine RN.out.mono ?_
        rintro e w7 ⟨j7, h7, rfl, hl7, hd7, hc7, hh7⟩
        obtain rfl : (0 : Nat) = j7 := live_uniq (fun i hi => absurd hi (Nat.not_lt_zero i)) hl7.1 TX hl7.2
        have D7 : Hid (PoA w7 w.heap.size p g h7 kd l L.length M) := hd7
        have lt7 := D6.out.lt
        have B7 := Lib.hid (B6.out.trans (hc7.below lt7.2.1 lt7.2.2.2.1 B6.out.size))
        have O7 : Hid (NodesAt w7 (.slice A6 m6 c6) M) := by
          refine ownNd_nodes (D6.out.nodes O6.out hc7 fun e => ?_)
          have a1 := (World.ownsRow.lt O6.out _ e).1
          have a2 := DC.out.lt
          omega
        clear hl7 hd7 hc7 hh7 lt7 RN TX TI O6
        have SN7 := Lib.hid ((poSnap_any w7 D7.out (by omega)).mono (R' := fun e w' => ∃ A3 m3 c3, e = .returned (.slice A3 m3 c3) ∧ NodesAt w' (.slice A3 m3 c3) M ∧ m3 ≤ 1000 ∧ Below w7.heap.size w7 w') fun e w' ⟨A3, m3, c3, he, ho, hb⟩ => ⟨A3, m3, c3, he, ownNd_nodes ho, by have a1 := (nodes_cells (ownNd_nodes ho)).1; have a2 := D7.out.len; omega, hb⟩)
        have SA7 := Lib.hid (fun (w8 : World) (A3 : Option Addr) (m3 c3 : Nat) (hb : Below w7.heap.size w7 w8) (ho : NodesAt w8 (.slice A3 m3 c3) M) (hm : m3 ≤ 1000) => prSame_below (rSame_any _ _ m3 c3 m6 c6 M M w8 ho (O7.out.below hb) (by omega) (by have a1 := (nodes_cells O7.out).1; have a2 := D7.out.len; omega)))
        rw [same_self] at SA7
        go_wp2_with fail
        refine SN7.out.mono ?_
        rintro e w8 ⟨A8, m8, c8, rfl, ho8, hm8, hb8⟩
        have SX := Lib.hid (SA7.out w8 A8 m8 c8 hb8 ho8 hm8)
        have B8 := Lib.hid (B7.out.trans (hb8.mono B7.out.size))
        clear hb8 ho8 hm8 SA7 SN7
        go_wp2_with fail
        refine SX.out.mono ?_
        rintro e w9 ⟨rfl, hb9⟩
        have B9 := Lib.hid (B8.out.trans (hb9.mono B8.out.size))
        clear hb9 SX
        go_wp2_with (go_at_call 7; refine (prAlive_any _).mono ?_; rintro e v7 ⟨rfl, hbv7⟩)
        go_ret
        exact ⟨rfl, B9.out.trans (hbv7.mono B9.out.size)⟩
  · rw [show decide (IsFo kd l n L) = false from decide_eq_false hI] at FI
    clear hI
    go_enter Try.func3, Try.ntmps3
    go_wp2_with (first
      | (go_at_call 5; refine FI.out.mono ?_; rintro e w1 ⟨rfl, hb1⟩)
      | (go_at_call 7; refine (prAlive_any _).mono ?_; rintro e u6 ⟨rfl, hbu6⟩))
    go_ret
    exact ⟨rfl, hb1.trans (hbu6.mono hb1.size)⟩

end Go.Proofs.Ytabbpcpnabecmaa
