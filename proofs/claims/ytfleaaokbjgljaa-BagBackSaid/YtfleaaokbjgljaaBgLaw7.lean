/- The walk of BagBack. -/
import Derived.Test.YtfleaaokbjgljaaBgLaw6
import Derived.Deep.CutRange
import Derived.Deep.DeepCutAuto
import Derived.IntWalk
namespace Go.Proofs.Ytfleaaokbjgljaa
set_option linter.unusedVariables false
set_option maxRecDepth 100000
open Go.RowKit
attribute [local go_sem ↓] Go.wp_at_zero Go.wp_at_succ

theorem two_bx (w : World) (t t2 : TypeId) (a b c d e : Value) : ((w.alloc (.cells #[a, b] t)).alloc (.cells #[c, d, e] t2)).cell? ⟨w.heap.size, 0, none⟩ = some a ∧ ((w.alloc (.cells #[a, b] t)).alloc (.cells #[c, d, e] t2)).cell? ⟨w.heap.size, 1, none⟩ = some b ∧
    ((w.alloc (.cells #[a, b] t)).alloc (.cells #[c, d, e] t2)).cell? ⟨w.heap.size + 1, 0, none⟩ = some c ∧ ((w.alloc (.cells #[a, b] t)).alloc (.cells #[c, d, e] t2)).cell? ⟨w.heap.size + 1, 1, none⟩ = some d ∧ ((w.alloc (.cells #[a, b] t)).alloc (.cells #[c, d, e] t2)).cell? ⟨w.heap.size + 1, 2, none⟩ = some e ∧
    ((w.alloc (.cells #[a, b] t)).alloc (.cells #[c, d, e] t2)).heap.size = w.heap.size + 2 := ⟨by simp, by simp, by simp, by simp, by simp, by simp⟩
theorem held_ask {w w' : World} {o : Nat} {a b c : Value} (h : w.cell? ⟨o, 0, none⟩ = some a ∧ w.cell? ⟨o, 1, none⟩ = some b ∧ w.cell? ⟨o, 2, none⟩ = some c) (ho : o < w.heap.size) (hb : Below w.heap.size w w') : w'.cell? ⟨o, 0, none⟩ = some a ∧ w'.cell? ⟨o, 1, none⟩ = some b ∧ w'.cell? ⟨o, 2, none⟩ = some c :=
  ⟨(hb.cell (p := ⟨o, 0, none⟩) ho).trans h.1, (hb.cell (p := ⟨o, 1, none⟩) ho).trans h.2.1, (hb.cell (p := ⟨o, 2, none⟩) ho).trans h.2.2⟩
theorem kth_told {l : Int} {L : List Nd} (h : BagC l L) {r : Int} (e : kthE L r = 0) : r ≤ betN L 0 (kthV L r) ∧ betN L 0 (kthV L r - 1) < r ∧ 0 ≤ kthV L r ∧ kthV L r ≤ 281474976710655 := by
  by_cases h1 : L = []
  · rw [(kth_empty h1).1] at e; omega
  · by_cases h2 : r < 1 ∨ sumC L < r
    · rw [(kth_arg h1 h2).1] at e; omega
    · rw [(kth_ok h1 h2).2]
      obtain ⟨a, b, n, hn, q⟩ := kth_law h.good (fun n hn => (h.bds n hn).1.1) (r := r) (by omega) (by omega)
      have := h.bds n hn
      exact ⟨a, b, by omega, by omega⟩
theorem img_pows {l b X : Int} (h1 : l ≤ 48) (h2 : 0 ≤ b) (h3 : b < l) : wrap64 (2 ^ (l - b).toNat) = 2 ^ (l - b).toNat ∧ (2 : Int) ^ (l - b).toNat ≤ 281474976710656 ∧
    (0 ≤ X → X < 2 ^ (l - b).toNat → wrap64 ((X + 1) * 2 ^ b.toNat) = (X + 1) * 2 ^ b.toNat ∧ 1 ≤ (X + 1) * 2 ^ b.toNat ∧ (X + 1) * 2 ^ b.toNat ≤ 281474976710656) := by
  have e : (2 : Int) ^ 48 = 281474976710656 := by decide
  have a := two_pos (l - b).toNat
  have c : (2 : Int) ^ (l - b).toNat ≤ 2 ^ 48 := two_le _ _ (by omega)
  refine ⟨IntWalk.wrap64_in _ ⟨by omega, by omega⟩, by omega, fun x0 x1 => ?_⟩
  have d : (2 : Int) ^ (l - b).toNat * 2 ^ b.toNat ≤ 2 ^ 48 := by rw [← two_add]; exact two_le _ _ (by omega)
  have f : (X + 1) * 2 ^ b.toNat ≤ 2 ^ (l - b).toNat * 2 ^ b.toNat := Int.mul_le_mul_of_nonneg_right (by omega) (by have := two_pos b.toNat; omega)
  have g : 1 * 1 ≤ (X + 1) * 2 ^ b.toNat := Int.mul_le_mul (by omega) (by have := two_pos b.toNat; omega) (by omega) (by omega)
  exact ⟨IntWalk.wrap64_in _ ⟨by omega, by omega⟩, by omega, by omega⟩
theorem askHeld {W b : World} {p : Addr} {x : Value} (h : W.cell? p = some x) (hp : p.block < W.heap.size) (hb : Below W.heap.size W b) : b.cell? p = some x ∧ Below W.heap.size W b := ⟨(hb.cell hp).trans h, hb⟩
set_option maxHeartbeats 12800000 in
theorem walk_bagBack (l : Int) (A : Option Addr) (n c : Nat) (R : List Nd) (A2 : Option Addr) (n2 c2 : Nat) (R2 : List Nd) (a0 a1 a2 : Int) (L0 : -9223372036854775808 ≤ l) (L1 : l ≤ 9223372036854775807) (hB : NBds R) (hc : n ≤ 9223372036854775807) (hB2 : NBds R2) (hc2 : n2 ≤ 9223372036854775807)
    (A00 : -9223372036854775808 ≤ a0) (A01 : a0 ≤ 9223372036854775807) (A10 : -9223372036854775808 ≤ a1) (A11 : a1 ≤ 9223372036854775807) (A20 : -9223372036854775808 ≤ a2) (A21 : a2 ≤ 9223372036854775807) (w : World) (h : NodesAt w (.slice A n c) R) (h2 : NodesAt w (.slice A2 n2 c2) R2) :
    Calls Try.prog 7 #[.int .i64 l, .agg #[.slice A n c, .slice A2 n2 c2], .agg #[.int .i64 a0, .int .i64 a1, .int .i64 a2]] w fun e w' => e = .returned (.bool true) ∧ Below w.heap.size w w' := by
  have hb0 : Below w.heap.size w ((w.alloc (.cells #[.slice A n c, .slice A2 n2 c2] 51)).alloc (.cells #[.int .i64 a0, .int .i64 a1, .int .i64 a2] 37)) := below_two ..
  have HB0 := Lib.hid hb0
  have HN := Lib.hid (h.below hb0)
  have HN2 := Lib.hid (h2.below hb0)
  have HNB := Lib.hid hB
  have HNB2 := Lib.hid hB2
  have hL := Lib.hid (nodes_cells h).1
  have hL2 := Lib.hid (nodes_cells h2).1
  clear h h2 hB hB2
  by_cases hn : n ≤ 60 ∧ n2 ≤ 60 ∧ (1 ≤ l ∧ l ≤ 48)
  · obtain ⟨n1, n3, u0, u1⟩ := hn
    have TB := two_bx w 51 37 (.slice A n c) (.slice A2 n2 c2) (.int .i64 a0) (.int .i64 a1) (.int .i64 a2)
    obtain ⟨x0, x1, x2, x3, x4, hz⟩ := TB
    have hzW := Lib.hid hz
    clear hz
    go_enter Try.func7, Try.ntmps7
    go_wp2_with fail
    generalize (w.alloc (.cells #[.slice A n c, .slice A2 n2 c2] 51)).alloc (.cells #[.int .i64 a0, .int .i64 a1, .int .i64 a2] 37) = w1 at *
    have hz1 := hzW.out
    have ASK1 := Lib.hid (show w1.cell? ⟨w.heap.size + 1, 0, none⟩ = some (.int .i64 a0) ∧ w1.cell? ⟨w.heap.size + 1, 1, none⟩ = some (.int .i64 a1) ∧ w1.cell? ⟨w.heap.size + 1, 2, none⟩ = some (.int .i64 a2) from ⟨x2, x3, x4⟩)
    refine (bgMade_any l A n c R w1 HN.out HNB.out ⟨u0, u1⟩ (by omega)).mono ?_
    rintro e w2 ⟨g, v, A5, m5, c5, N, rfl, M⟩
    have hSl : (ofS l R).length ≤ 60 := by have := of_len l R; have := hL.out; omega
    have b2 := M.below
    generalize ofS l R = S at *
    have bx := box_at w2 (.int .i64 l) (.slice A5 m5 c5)
    have M3 := Lib.hid (M.to bx.2.2.2)
    have B13 := Lib.hid (bel_tr b2 bx.2.2.2 (Nat.le_refl _))
    have z2 := b2.size
    have z3 := Lib.hid bx.2.2.1
    have y1 := (bx.2.2.2.cell (p := ⟨w.heap.size, 1, none⟩) (by show w.heap.size < _; omega)).trans ((b2.cell (p := ⟨w.heap.size, 1, none⟩) (by show w.heap.size < _; omega)).trans x1)
    clear M b2 bx x0 x1 x2 x3 x4
    go_wp2_with fail
    generalize w2.alloc (.cells #[.int .i64 l, .slice A5 m5 c5] 29) = w3 at *
    have hz3 := z3.out
    refine (bgMade_any l A2 n2 c2 R2 w3 (HN2.out.below B13.out) HNB2.out ⟨u0, u1⟩ (by omega)).mono ?_
    rintro e w4 ⟨g4, v4, A6, m6, c6, N4, rfl, Mb⟩
    have hTl : (ofS l R2).length ≤ 60 := by have := of_len l R2; have := hL2.out; omega
    generalize ofS l R2 = T at *
    have b4 := Mb.below
    have bx := box_at w4 (.int .i64 l) (.slice A6 m6 c6)
    have M5 := Lib.hid (Mb.to bx.2.2.2)
    have B35 := Lib.hid (bel_tr b4 bx.2.2.2 (Nat.le_refl _))
    have z4 := b4.size
    have z5 := Lib.hid bx.2.2.1
    clear Mb b4 bx y1
    have hq1 : ∀ (g : Nat) w, (binOp .eql 24 (.pointer (some ⟨g, 0, none⟩)) (.pointer none)).run Try.prog w = .ok (.bool false) w := fun _ _ => by kernel_rfl
    go_wp2_with fail
    generalize w4.alloc (.cells #[.int .i64 l, .slice A6 m6 c6] 29) = w5 at *
    have hz5 := z5.out
    have ASK5 := held_ask ASK1.out (by omega) (bel_tr B13.out B35.out (Nat.le_refl _))
    have MA5 := Lib.hid (M3.out.to B35.out)
    have BW5 := Lib.hid (bel_tr (bel_tr HB0.out B13.out (Nat.le_refl _)) B35.out (Nat.le_refl _))
    have ASK := Lib.hid ASK5
    obtain ⟨s0, s1, s2⟩ := ASK5
    have hA : w.heap.size + 1 < w5.heap.size := by omega
    go_quiet (fail)
    have HQ := Lib.hid (drewN_below (Below.refl w5.heap.size w5) nq)
    have MA6 := Lib.hid (MA5.out.to HQ.out)
    have MB6 := Lib.hid (M5.out.to HQ.out)
    have BW6 := Lib.hid (bel_tr BW5.out HQ.out (Nat.le_refl _))
    have ASK6 := Lib.hid (held_ask ASK.out hA HQ.out)
    have hA6 : w.heap.size + 1 < (w5.drewN nq).heap.size := hA
    have hXY : (if a1 < a0 then a1 else a0) ≤ (if a0 < a1 then a1 else a0) := by split <;> split <;> omega
    have bX0 : -9223372036854775808 ≤ (if a1 < a0 then a1 else a0) := by split <;> omega
    have bX1 : (if a1 < a0 then a1 else a0) ≤ 9223372036854775807 := by split <;> omega
    clear s0 s1 s2
    generalize w5.drewN nq = w6 at *
    generalize (if a1 < a0 then a1 else a0) = X at *
    generalize (if a0 < a1 then a1 else a0) = Y at *
    have NNS := Lib.hid (good_nonneg MA6.out.bag.bag.good)
    have BDS := Lib.hid MA6.out.bag.bag.bds
    have TTS := Lib.hid MA6.out.bag.bag.tot
    have RK := Lib.hid (fun x w7 (q : Below w6.heap.size w6 w7) => (bgRank_any x w7 (MA6.out.bag.below q) (by omega)).mono (R' := fun e w' => e = .returned (.int .i64 (betN S 0 x)) ∧ Below w6.heap.size w6 w') fun e w' ⟨a, b⟩ => ⟨a, bel_tr q b (Nat.le_refl _)⟩)
    have BT := Lib.hid (fun x y w7 (q : Below w6.heap.size w6 w7) => (bgBetween_any x y w7 (MA6.out.bag.below q) (by omega)).mono (R' := fun e w' => e = .returned (.int .i64 (betN S x y)) ∧ Below w6.heap.size w6 w') fun e w' ⟨a, b⟩ => ⟨a, bel_tr q b (Nat.le_refl _)⟩)
    have h66 : Below w6.heap.size w6 w6 := Below.refl _ _
    have bdn := fun x => bet_bd NNS.out 0 x
    go_upto_region 8 with fail
    go_cut [95] (fun s95 wx => s95 = .bool false ∧ Below w6.heap.size w6 wx)
    case first =>
      have m1 := bet_mono (L := S) NNS.out (x := 0) hXY
      have RX := Lib.hid (fun w7 q => RK.out X w7 q)
      have RY := Lib.hid (fun w7 q => RK.out Y w7 q)
      have bX := bdn X
      have bY := bdn Y
      by_cases hX : -4611686018427387904 < X
      · have RX1 := Lib.hid (fun w7 q => RK.out (X - 1) w7 q)
        have bX2 := bdn (X - 1)
        have BTX := Lib.hid (fun w7 q => BT.out X Y w7 q)
        rw [bet_sub (fun n hn => (BDS.out n hn).1.1) hXY] at BTX
        have tt := TTS.out
        generalize betN S 0 X = rX at *
        generalize betN S 0 Y = rY at *
        generalize betN S 0 (X - 1) = rX1 at *
        clear RK BT bdn
        go_wp2_with (first
          | (go_at_call 17; (with_reducible refine (RX.out _ (by assumption)).mono ?_); rintro e w7 ⟨rfl, hb7⟩)
          | (go_at_call 17; (with_reducible refine (RY.out _ (by assumption)).mono ?_); rintro e w7 ⟨rfl, hb7⟩)
          | (go_at_call 17; (with_reducible refine (RX1.out _ (by assumption)).mono ?_); rintro e w7 ⟨rfl, hb7⟩)
          | (go_at_call 19; (with_reducible refine (BTX.out _ (by assumption)).mono ?_); rintro e w7 ⟨rfl, hb7⟩))
        go_meet
        case rel => exact ⟨congrArg Value.bool (decide_eq_false (by omega)), by assumption⟩
      · have tt := TTS.out
        generalize betN S 0 X = rX at *
        generalize betN S 0 Y = rY at *
        clear RK BT bdn
        go_wp2_with (first
          | (go_at_call 17; (with_reducible refine (RX.out _ (by assumption)).mono ?_); rintro e w7 ⟨rfl, hb7⟩)
          | (go_at_call 17; (with_reducible refine (RY.out _ (by assumption)).mono ?_); rintro e w7 ⟨rfl, hb7⟩))
        go_meet
        case rel => exact ⟨congrArg Value.bool (decide_eq_false (by omega)), by assumption⟩
    case rest =>
      obtain ⟨hs95, hbc⟩ := hcut
      have ASKc := held_ask ASK6.out hA6 hbc
      obtain ⟨s0, s1, s2⟩ := ASKc
      subst hs95
      obtain ⟨ke, hke⟩ : ∃ ke, ke = kthE S a2 := ⟨_, rfl⟩
      obtain ⟨kv, hkv⟩ : ∃ kv, kv = kthV S a2 := ⟨_, rfl⟩
      have KT := bgKth_any a2 wc (MA6.out.bag.below hbc) (by omega) A20 A21
      rw [← hke, ← hkv] at KT
      have KLAW : Hid (ke = 0 → a2 ≤ betN S 0 kv ∧ betN S 0 (kv - 1) < a2 ∧ 0 ≤ kv ∧ kv ≤ 281474976710655) := by
        intro e
        rw [hke] at e; rw [hkv]
        exact kth_told MA6.out.bag.bag e
      clear hke hkv
      go_upto_region 11 with (go_at_call 15; refine KT.mono ?_; rintro e w8 ⟨rfl, q8, rfl⟩)
      have hD : Below w6.heap.size w6 (wc.drewN q8) := drewN_below hbc q8
      have c2 : (wc.drewN q8).cell? ⟨w.heap.size + 1, 2, none⟩ = some (.int .i64 a2) := s2
      clear KT s0 s1 s2 hbc
      generalize wc.drewN q8 = w8 at *
      go_cut [121] (fun s wx => s = .bool false ∧ Below w6.heap.size w6 wx)
      case first =>
        by_cases hk : ke = 0
        · obtain ⟨k1, k2, k3, k4⟩ := KLAW.out hk
          subst hk
          have RX := Lib.hid (fun w7 q => RK.out kv w7 q)
          have RX1 := Lib.hid (fun w7 q => RK.out (kv - 1) w7 q)
          have hw1 : IntKind.i64.wrap (kv - 1) = kv - 1 := IntWalk.i64_in _ (by omega)
          generalize betN S 0 kv = rK at *
          generalize betN S 0 (kv - 1) = rK1 at *
          clear RK BT bdn
          have HA2 := Lib.hid ASK6.out.2.2
          have HA6 := Lib.hid hA6
          have f1 : decide (rK < a2) = false := decide_eq_false (by omega)
          have f2 : decide (rK1 ≥ a2) = false := decide_eq_false (by omega)
          go_region_held3 (fun w' => w'.cell? ⟨w.heap.size + 1, 2, none⟩ = some (.int .i64 a2) ∧ Below w6.heap.size w6 w')
            (first | assumption | (exact askHeld HA2.out HA6.out (by assumption)) | (exact askHeld HA2.out HA6.out (drewN_below (by assumption) _)) | (exact askHeld HA2.out HA6.out (Below.drew (by assumption))))
            (first
              | (go_at_call 17; (with_reducible refine (RX.out _ (held1B (p := ⟨w.heap.size + 1, 2, none⟩) (x := .int .i64 a2) (by assumption))).mono ?_); rintro e w7 ⟨rfl, hb7⟩)
              | (go_at_call 17; (with_reducible refine (RX1.out _ (held1B (p := ⟨w.heap.size + 1, 2, none⟩) (x := .int .i64 a2) (by assumption))).mono ?_); rintro e w7 ⟨rfl, hb7⟩))
          all_goals
            go_wp2_with fail
            go_meet
            case rel => exact ⟨rfl, by assumption⟩
        · have hk0 : (ke == 0) = false := by simpa using hk
          clear RK BT bdn
          go_quiet (fail)
          go_wp2_with fail
          go_meet
          case rel => exact ⟨rfl, drewN_below hD _⟩
      case rest =>
        obtain ⟨hs121, hbd⟩ := hcut
        have ASKd := held_ask ASK6.out hA6 hbd
        obtain ⟨s0, s1, s2⟩ := ASKd
        subst hs121
        have RX := Lib.hid (fun w7 q => RK.out X w7 q)
        have RT := Lib.hid (fun w7 (q : Below w6.heap.size w6 w7) => (bgRank_any X w7 (MB6.out.bag.below q) (by omega)).mono (R' := fun e w' => e = .returned (.int .i64 (betN T 0 X)) ∧ Below w6.heap.size w6 w') fun e w' ⟨a, b⟩ => ⟨a, bel_tr q b (Nat.le_refl _)⟩)
        go_upto_region 14 with (first
          | (go_at_call 17; (with_reducible refine (RX.out _ (by assumption)).mono ?_); rintro e w7 ⟨rfl, hb7⟩)
          | (go_at_call 17; (with_reducible refine (RT.out _ (by assumption)).mono ?_); rintro e w7 ⟨rfl, hb7⟩))
        clear RX RT
        rename_i hb7 wc0 hb8
        have B8 := Lib.hid (show Below w6.heap.size w6 w7 by assumption)
        have s2' := (held_ask ASK6.out hA6 B8.out).2.2
        clear hbd s0 s1 s2
        go_upto_region 15 with fail
        go_cut [136] (fun s wx => s = .bool (decide (0 ≤ a2 ∧ a2 < l)) ∧ wx = w7)
        case first =>
          by_cases h1 : 0 ≤ a2
          · go_wp2_with fail
            go_meet
            case rel => exact ⟨by simp [h1], rfl⟩
          · go_wp2_with fail
            go_meet
            case rel => exact ⟨congrArg Value.bool (by simp; omega), rfl⟩
        case rest =>
          obtain ⟨rfl, rfl⟩ := hcut
          have RKB := RK
          clear RK BT bdn
          have TT7 := Lib.hid (show ∀ w7 (q : Below w6.heap.size w6 w7), Calls Try.prog 30 #[.pointer (some ⟨g, 0, none⟩)] w7 fun e w' => e = .returned (.int .i64 (sumC S)) ∧ w7 = w' from fun w7 q => bgTotal_any w7 (MA6.out.bag.below q))
          go_upto_if 136 with fail
          go_cut [16] (fun s wx => s = .int .i64 (betN T 0 X) ∧ Below w6.heap.size w6 wx)
          case first =>
            by_cases h1 : 0 ≤ a2 ∧ a2 < l
            · obtain ⟨h1, h2⟩ := h1
              have IM := bgImage_any a2 _ (MA6.out.bag.below B8.out) (by omega) h1 h2
              go_wp2_with (go_at_call 26; refine IM.mono ?_; rintro e w9 ⟨g9, v9, rfl, d9, b9⟩)
              have T9 := bgTotal_any _ d9
              rw [show sumC (imgS S a2) = sumC S by rw [imgS, pours_tot, img_sum]; simp [sumC]] at T9
              have B9 := Lib.hid (bel_tr B8.out b9 (Nat.le_refl _))
              have D9 := Lib.hid d9
              clear d9 b9 IM
              have TA := TT7.out _ B9.out
              have RG := bgRank_any X _ D9.out (by have := img_len S a2; omega)
              rw [img_rank (fun n hn => (BDS.out n hn).1.1)] at RG
              have RA := Lib.hid (fun w7 q => RKB.out ((X + 1) * 2 ^ a2.toNat - 1) w7 q)
              obtain ⟨p1, p2, p3⟩ := img_pows (X := X) u1 h1 h2
              by_cases hq : 0 ≤ X ∧ X < 2 ^ (l - a2).toNat
              · obtain ⟨q, q2⟩ := hq
                obtain ⟨p4, p5, p6⟩ := p3 q q2
                generalize betN S 0 ((X + 1) * 2 ^ a2.toNat - 1) = rI at *
                have hq2 : decide (X < 2 ^ (l - a2).toNat) = true := decide_eq_true q2
                go_wp2_with (first
                  | (go_at_call 30; (with_reducible refine T9.mono ?_); rintro e w10 ⟨rfl, rfl⟩)
                  | (go_at_call 30; (with_reducible refine TA.mono ?_); rintro e w10 ⟨rfl, rfl⟩)
                  | (go_at_call 17; (with_reducible refine RG.mono ?_); rintro e w11 ⟨rfl, b11⟩)
                  | (go_at_call 17; refine (RA.out _ (bel_tr B9.out b11 (Nat.le_refl _))).mono ?_; rintro e w12 ⟨rfl, b12⟩))
                go_meet
                case rel => exact ⟨rfl, b12⟩
              · have hq2 : 0 ≤ X → ¬ X < 2 ^ (l - a2).toNat := by omega
                by_cases q : 0 ≤ X
                · have hq3 : 2 ^ (l - a2).toNat ≤ X := by have := hq2 q; omega
                  clear p3 RG RA hq hq2
                  go_wp2_with (first
                    | (go_at_call 30; (with_reducible refine T9.mono ?_); rintro e w10 ⟨rfl, rfl⟩)
                    | (go_at_call 30; (with_reducible refine TA.mono ?_); rintro e w10 ⟨rfl, rfl⟩))
                  go_meet
                  case rel => exact ⟨rfl, B9.out⟩
                · clear p3 RG RA hq hq2
                  go_wp2_with (first
                    | (go_at_call 30; (with_reducible refine T9.mono ?_); rintro e w10 ⟨rfl, rfl⟩)
                    | (go_at_call 30; (with_reducible refine TA.mono ?_); rintro e w10 ⟨rfl, rfl⟩))
                  go_meet
                  case rel => exact ⟨rfl, B9.out⟩
            · go_wp2_with fail
              go_meet
              case rel => exact ⟨rfl, B8.out⟩
          case rest =>
            obtain ⟨hs16, B9⟩ := hcut
            subst hs16
            have HB9 := Lib.hid B9
            have zB : w1.heap.size ≤ wc.heap.size := by have := MA6.out.bag.lt; have := B9.size; omega
            have PR := bgPour_any wc (MA6.out.bag.below B9) (MB6.out.bag.below B9) (by omega) (by omega)
            have AL := Lib.hid (fun w' => bgAlive_any w')
            by_cases hf : 72057594037927935 < sumC S + sumC T
            · rw [(pour_full hf).1, (pour_full hf).2] at PR
              go_wp2_with (first
                | (go_at_call 25; refine PR.mono ?_; rintro e w10 ⟨v10, rfl, d10, k10, _⟩)
                | (go_at_call 9; refine (AL.out _).mono ?_; rintro e w11 ⟨rfl, b11⟩))
              go_ret
              exact ⟨rfl, bel_tr ((bel_tr BW6.out HB9.out (Nat.le_refl _)).trans ((bg_below (MA6.out.bag.below HB9.out) k10 zB).mono (by omega))) b11 (by have := k10.size; have := BW6.out.size; have := HB9.out.size; omega)⟩
            · rw [(pour_ok hf).1, (pour_ok hf).2] at PR
              have RP := Lib.hid (fun w10 v10 (d : BgA w10 w1.heap.size g l (poursN S T) v10) => bgRank_any X w10 d (by have := pours_len T S; omega))
              rw [pours_bet] at RP
              have e1 := bet_bd NNS.out 0 X
              have e2 := bet_bd (good_nonneg MB6.out.bag.bag.good) 0 X
              have e3 := TTS.out
              have e4 := MB6.out.bag.bag.tot
              generalize betN S 0 X = rS at *
              generalize betN T 0 X = rT at *
              go_wp2_with (first
                | (go_at_call 25; refine PR.mono ?_; rintro e w10 ⟨v10, rfl, d10, k10, _⟩)
                | (go_at_call 17; refine (RP.out _ _ d10).mono ?_; rintro e w12 ⟨rfl, b12⟩)
                | (go_at_call 9; refine (AL.out _).mono ?_; rintro e w11 ⟨rfl, b11⟩))
              go_ret
              exact ⟨rfl, bel_tr (bel_tr ((bel_tr BW6.out HB9.out (Nat.le_refl _)).trans ((bg_below (MA6.out.bag.below HB9.out) k10 zB).mono (by omega))) b12 (by have := k10.size; have := BW6.out.size; have := HB9.out.size; omega)) b11 (by have := k10.size; have := BW6.out.size; have := HB9.out.size; have := b12.size; omega)⟩
  · rcases (show ¬ n ≤ 60 ∨ (n ≤ 60 ∧ ¬ n2 ≤ 60) ∨ (n ≤ 60 ∧ n2 ≤ 60 ∧ l < 1) ∨ (n ≤ 60 ∧ n2 ≤ 60 ∧ ¬ l < 1 ∧ 48 < l) by omega) with q | ⟨q, q2⟩ | ⟨q, q2, q3⟩ | ⟨q, q2, q3, q4⟩
    all_goals
      clear hn
      go_enter Try.func7, Try.ntmps7
      go_wp2_with (go_at_call 9; refine (bgAlive_any _).mono ?_; rintro e w3 ⟨rfl, b3⟩)
      go_ret
      exact ⟨rfl, HB0.out.trans (b3.mono HB0.out.size)⟩

end Go.Proofs.Ytfleaaokbjgljaa
