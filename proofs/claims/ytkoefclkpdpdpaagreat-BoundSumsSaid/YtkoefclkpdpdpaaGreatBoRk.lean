/- The document's answers of package dewpondref01 for layer bound: Bits (a number of two words by its digits), Order. -/
import Derived.Test.YtkoefclkpdpdpaaGreatRfQ
namespace Go.Proofs.YtkoefclkpdpdpaaGreat
set_option linter.unusedVariables false
open Go.RowKit

theorem seg_one (w : World) (a : Int) (t : TypeId) : Seg (w.alloc (.cells #[.int .i64 a] t)) (.slice (some ⟨w.heap.size, 0, none⟩) 1 1) [a] :=
  ⟨_, 1, rfl, fun _ => ⟨w.heap.size, 0, rfl, by simp, fun k hk => by
    match k, hk with
    | 0, _ => rw [World.cell?_alloc_at _ _ _ _ rfl]; rfl⟩⟩

/-- what has been read of two words, before word k is read -/
def bval (lo hi k : Int) : Int := if k = 1 then 0 else if k = 0 then hi else hi * 18446744073709551616 + lo
theorem bval_1 (lo hi : Int) : bval lo hi 1 = 0 := rfl
theorem bval_0 (lo hi : Int) : bval lo hi 0 = hi := rfl
theorem bval_end (lo hi : Int) : bval lo hi (-1) = hi * 18446744073709551616 + lo := rfl

theorem bit_step {X word : Int} {i : Int} (h0 : 0 ≤ word) (i0 : 0 ≤ i) (i1 : i ≤ 63) :
    X * 2 ^ (63 - (i - 1)).toNat + word / 2 ^ (i - 1 + 1).toNat = 2 * (X * 2 ^ (63 - i).toNat + word / 2 ^ (i + 1).toNat) + word / 2 ^ i.toNat % 2 := by
  have e1 : (63 - (i - 1)).toNat = (63 - i).toNat + 1 := by omega
  have e2 : (i - 1 + 1).toNat = i.toNat := by omega
  have e3 : (i + 1).toNat = i.toNat + 1 := by omega
  rw [e1, e2, e3, two_succ, two_succ]
  have p := two_pos i.toNat
  have e4 : word / (2 * 2 ^ i.toNat) = word / 2 ^ i.toNat / 2 := by
    rw [Int.mul_comm, ← Int.ediv_ediv_of_nonneg (Int.le_of_lt p)]
  rw [e4]
  have e5 : X * (2 * 2 ^ (63 - i).toNat) = 2 * (X * 2 ^ (63 - i).toNat) := by rw [← Int.mul_assoc, Int.mul_comm X 2, Int.mul_assoc]
  rw [e5]
  omega

set_option maxHeartbeats 1600000 in
theorem rbits_any (lo hi : Int) (w : World) (l0 : 0 ≤ lo) (l1 : lo ≤ 18446744073709551615) (h0 : 0 ≤ hi) (h1 : hi ≤ 18446744073709551615) :
    Calls Tryz.prog 17 #[.agg #[.int .u64 lo, .int .u64 hi]] w fun e w' => NewDigs w w' e (hi * 18446744073709551616 + lo) 300 := by
  go_enter Tryz.func17, Tryz.ntmps17
  go_wp2_with fail
  have g0 : (w.alloc (.cells #[.int .u64 lo, .int .u64 hi] 45)).cell? ⟨w.heap.size, 0, none⟩ = some (.int .u64 lo) := by rw [World.cell?_alloc_at _ _ _ _ rfl]; rfl
  have g1 : (w.alloc (.cells #[.int .u64 lo, .int .u64 hi] 45)).cell? ⟨w.heap.size, 1, none⟩ = some (.int .u64 hi) := by rw [World.cell?_alloc_at _ _ _ _ rfl]; rfl
  have gz : (w.alloc (.cells #[.int .u64 lo, .int .u64 hi] 45)).heap.size = w.heap.size + 1 := by simp
  have gb := below_one w (.cells #[.int .u64 lo, .int .u64 hi] 45)
  generalize w.alloc (.cells #[.int .u64 lo, .int .u64 hi] 45) = w0 at *
  have GZ := Lib.hid gz
  clear gz
  go_loopw [3, 4] (fun v kv wr => ∃ (o : List Int) (k : Int), kv = .int .i64 k ∧ -1 ≤ k ∧ k ≤ 1 ∧ Seg wr v o ∧ Dig o ∧ (o.length : Int) ≤ 128 * (1 - k) ∧ Hid (dv o = bval lo hi k) ∧ Below w0.heap.size w0 wr) (fun _ kv _ => (intOf kv + 1).toNat)
  case atStart => exact ⟨[], 1, rfl, by decide, by decide, seg_nil _, dig_nil, by simp, rfl, Below.refl _ _⟩
  case round =>
    obtain ⟨o, k, rfl, k0, k1, SO, hd, hlo, HV, hb⟩ := hrel
    obtain ⟨wo, rfl⟩ : ∃ wo : World, wo = wr := ⟨_, rfl⟩
    by_cases hk : 0 ≤ k
    · obtain ⟨word, hc, wd0, wd1, HN⟩ : ∃ word : Int, wo.cell? ⟨w.heap.size, k.toNat, none⟩ = some (.int .u64 word) ∧ 0 ≤ word ∧ word ≤ 18446744073709551615 ∧ Hid (bval lo hi (k - 1) = bval lo hi k * 18446744073709551616 + word) := by
        rcases (show k = 0 ∨ k = 1 by omega) with rfl | rfl
        · exact ⟨lo, (hb.cell (p := ⟨w.heap.size, 0, none⟩) (by show w.heap.size < w0.heap.size; rw [GZ.out]; omega)).trans g0, l0, l1, rfl⟩
        · exact ⟨hi, (hb.cell (p := ⟨w.heap.size, 1, none⟩) (by show w.heap.size < w0.heap.size; rw [GZ.out]; omega)).trans g1, h0, h1, by show bval lo hi 0 = bval lo hi 1 * _ + hi; rw [bval_0, bval_1]; omega⟩
      have hwb : w.heap.size < wo.heap.size := by have := hb.size; rw [GZ.out] at this; omega
      go_wp2_with fail
      go_loopw [3, 5] (fun v iv wr => ∃ (o : List Int) (i : Int), iv = .int .i64 i ∧ -1 ≤ i ∧ i ≤ 63 ∧ Seg wr v o ∧ Dig o ∧ (o.length : Int) ≤ 128 * (1 - k) + 2 * (63 - i) ∧ Hid (dv o = bval lo hi k * 2 ^ (63 - i).toNat + word / 2 ^ (i + 1).toNat) ∧ Below wo.heap.size wo wr) (fun _ iv _ => (intOf iv + 1).toNat)
      case atStart =>
        refine ⟨o, 63, rfl, by decide, by decide, SO, hd, by omega, ?_, Below.refl _ _⟩
        have e : word / 2 ^ (63 + 1 : Int).toNat = 0 := Int.ediv_eq_zero_of_lt wd0 (by show word < 18446744073709551616; omega)
        show _ = _
        rw [e, HV.out]
        show bval lo hi k = bval lo hi k * 1 + 0
        omega
      clear hd SO hlo
      case round =>
        obtain ⟨o, i, rfl, i0, i1, SO, hd, hlo, HI, hbi⟩ := hrel
        by_cases hi2 : 0 ≤ i
        · have hcr : wr.cell? ⟨w.heap.size, k.toNat, none⟩ = some (.int .u64 word) := (hbi.cell (p := ⟨w.heap.size, k.toNat, none⟩) hwb).trans hc
          have HS := Lib.hid (bit_step (X := bval lo hi k) wd0 hi2 i1)
          have d0 : 0 ≤ word / 2 ^ i.toNat := Int.ediv_nonneg wd0 (Int.le_of_lt (two_pos _))
          have ol : o.length ≤ 500 := by omega
          go_wp2_with fail
          refine (sum_any _ _ o o o.length _ SO SO hd hd (Nat.le_refl _) (Nat.le_refl _) (by omega)).mono ?_
          rintro e w2 ⟨v2, l2, rfl, S2, D2, V2, L2, B2⟩
          have H2 := Lib.hid V2
          clear V2
          have hwr : w.heap.size < wr.heap.size := by have := hbi.size; omega
          have hc2 : w2.cell? ⟨w.heap.size, k.toNat, none⟩ = some (.int .u64 word) := (B2.cell (p := ⟨w.heap.size, k.toNat, none⟩) hwr).trans hcr
          have hb2 := hbi.trans (B2.mono hbi.size)
          clear hcr SO hd B2
          by_cases hbit : word / 2 ^ i.toNat % 2 = 1
          · have hb' : (word / 2 ^ i.toNat % 2 == 1) = true := by simp [hbit]
            have HB := Lib.hid hbit
            clear hbit
            go_wp2_with fail
            refine (sum_any _ _ l2 [1] (o.length + 1) _ (seg_alloc S2 _) (seg_one _ _ _) D2 ?_ L2 ?_ ?_).mono ?_
            · exact dig_app dig_nil (by decide) (by decide)
            · simp
            · omega
            rintro e w3 ⟨v3, l3, rfl, S3, D3, V3, L3, B3⟩
            have H3 : Hid (dv l3 = bval lo hi k * 2 ^ (63 - (i - 1)).toNat + word / 2 ^ (i - 1 + 1).toNat) := by
              show _ = _
              rw [V3, H2.out, HI.out, HS.out, HB.out]
              show _ + 1 = _
              omega
            clear V3
            have hb3 := (hb2.alloc hb2.size (.cells #[.int .i64 1] 3)).trans (B3.mono (by have := hb2.size; simp; omega))
            go_wp2_with fail
            go_roundw
            case rel => exact ⟨l3, i - 1, rfl, by omega, by omega, S3, D3, by omega, H3.out, hb3⟩
            case measure => simp [intOf]; omega
          · have hb' : (word / 2 ^ i.toNat % 2 == 1) = false := by simp [hbit]
            have H3 : Hid (dv l2 = bval lo hi k * 2 ^ (63 - (i - 1)).toNat + word / 2 ^ (i - 1 + 1).toNat) := by
              show _ = _
              rw [H2.out, HI.out, HS.out]
              omega
            clear hbit
            go_wp2_with fail
            go_roundw
            case rel => exact ⟨l2, i - 1, rfl, by omega, by omega, S2, D2, by omega, H3.out, hb2⟩
            case measure => simp [intOf]; omega
        · have hi3 : i = -1 := by omega
          have H3 : Hid (dv o = bval lo hi (k - 1)) := by
            have := HI.out
            show _ = _
            rw [hi3] at this
            rw [this, HN.out]
            show bval lo hi k * 18446744073709551616 + word / 1 = _
            rw [Int.ediv_one]
          clear hi3
          go_wp2_with fail
          go_roundw
          case rel => exact ⟨o, k - 1, rfl, by omega, by omega, SO, hd, by omega, H3.out, hb.trans (hbi.mono hb.size)⟩
          case measure => simp [intOf]; omega
    · have hk1 : k = -1 := by omega
      have H3 : Hid (dv o = hi * 18446744073709551616 + lo) := by
        have := HV.out
        rw [hk1, bval_end] at this
        exact this
      clear hk1
      go_wp2_with fail
      go_ret
      exact ⟨_, o, rfl, SO, hd, H3.out, by omega, gb.trans (hb.mono gb.size)⟩
set_option maxHeartbeats 1600000 in
theorem rfOrd_any (a b c d : Int) (w : World) (A0 : -9223372036854775808 ≤ a) (A1 : a ≤ 9223372036854775807) (B0 : -9223372036854775808 ≤ b) (B1 : b ≤ 9223372036854775807) (C0 : -9223372036854775808 ≤ c) (C1 : c ≤ 9223372036854775807) (D0 : -9223372036854775808 ≤ d) (D1 : d ≤ 9223372036854775807) :
    Calls Tryz.prog 24 #[.int .i64 a, .int .i64 b, .int .i64 c, .int .i64 d] w fun e w' => Ans2 (ordN a b c d) (ordB a b c d) w w' e := by
  rcases (show a < 0 ∨ (0 ≤ a ∧ b < 0) ∨ (0 ≤ a ∧ 0 ≤ b ∧ c < 0) ∨ (0 ≤ a ∧ 0 ≤ b ∧ 0 ≤ c ∧ d < 0) ∨ (0 ≤ a ∧ 0 ≤ b ∧ 0 ≤ c ∧ 0 ≤ d) by omega) with h | h | h | h | h
  · have H := Lib.hid (ord_no (a := a) (b := b) (c := c) (d := d) (by unfold ordC; omega))
    have hn : decide (0 ≤ a) = false := decide_eq_false (by omega)
    go_enter Tryz.func24, Tryz.ntmps24
    go_wp2
    go_ret2
    exact ans2 H.out (Below.refl _ _)
  · have H := Lib.hid (ord_no (a := a) (b := b) (c := c) (d := d) (by unfold ordC; omega))
    obtain ⟨h1, h2⟩ := h
    have hn : decide (0 ≤ b) = false := decide_eq_false (by omega)
    go_enter Tryz.func24, Tryz.ntmps24
    go_wp2
    go_ret2
    exact ans2 H.out (Below.refl _ _)
  · have H := Lib.hid (ord_no (a := a) (b := b) (c := c) (d := d) (by unfold ordC; omega))
    obtain ⟨h1, h2, h3⟩ := h
    have hn : decide (0 ≤ c) = false := decide_eq_false (by omega)
    go_enter Tryz.func24, Tryz.ntmps24
    go_wp2
    go_ret2
    exact ans2 H.out (Below.refl _ _)
  · have H := Lib.hid (ord_no (a := a) (b := b) (c := c) (d := d) (by unfold ordC; omega))
    obtain ⟨h1, h2, h3, h4⟩ := h
    have hn : decide (0 ≤ d) = false := decide_eq_false (by omega)
    go_enter Tryz.func24, Tryz.ntmps24
    go_wp2
    go_ret2
    exact ans2 H.out (Below.refl _ _)
  · obtain ⟨h1, h2, h3, h4⟩ := h
    have H := Lib.hid (ord_yes (a := a) (b := b) (c := c) (d := d) ⟨h1, h2, h3, h4⟩)
    go_enter Tryz.func24, Tryz.ntmps24
    go_wp2_with (go_at_call 56; refine (rfIs_any _ _).mono ?_; rintro e w' ⟨rfl, rfl⟩)
    refine (digits_any _ _ (by omega) (by omega)).mono ?_
    rintro e w1 ⟨v1, l1, rfl, S1, D1, V1, L1, B1⟩
    have H1 := Lib.hid V1
    clear V1
    go_wp2_with fail
    refine (digits_any _ _ (by omega) (by omega)).mono ?_
    rintro e w2 ⟨v2, l2, rfl, S2, D2, V2, L2, B2⟩
    have H2 := Lib.hid V2
    clear V2
    go_wp2_with fail
    refine (times_any _ _ l1 l2 7 _ (seg_below S1 B2) S2 D1 D2 (by omega) (by omega) (by omega)).mono ?_
    rintro e w3 ⟨v3, l3, rfl, S3, D3, V3, L3, B3⟩
    have hv3 : dv l3 = a * b := by rw [V3, H1.out, H2.out]
    have H3 := Lib.hid hv3
    clear V3 hv3 H1 H2 S1 S2 D1 D2 L1 L2
    have Bt3 : Below w.heap.size w w3 := (B1.trans (B2.mono B1.size)).trans (B3.mono (Nat.le_trans B1.size B2.size))
    clear B1 B2 B3
    go_wp2_with fail
    refine (digits_any _ _ (by omega) (by omega)).mono ?_
    rintro e w4 ⟨v4, l4, rfl, S4, D4, V4, L4, B4⟩
    have H4 := Lib.hid V4
    clear V4
    go_wp2_with fail
    refine (digits_any _ _ (by omega) (by omega)).mono ?_
    rintro e w5 ⟨v5, l5, rfl, S5, D5, V5, L5, B5⟩
    have H5 := Lib.hid V5
    clear V5
    go_wp2_with fail
    refine (times_any _ _ l4 l5 7 _ (seg_below S4 B5) S5 D4 D5 (by omega) (by omega) (by omega)).mono ?_
    rintro e w6 ⟨v6, l6, rfl, S6, D6, V6, L6, B6⟩
    have hv6 : dv l6 = c * d := by rw [V6, H4.out, H5.out]
    have H6 := Lib.hid hv6
    clear V6 hv6 H4 H5 S4 S5 D4 D5 L4 L5
    have Bt6 : Below w3.heap.size w3 w6 := (B4.trans (B5.mono B4.size)).trans (B6.mono (Nat.le_trans B4.size B5.size))
    clear B4 B5 B6
    go_wp2_with fail
    refine (less_any _ _ l3 l6 _ (seg_below S3 Bt6) S6 D3 D6 (by omega) (by omega)).mono ?_
    rintro e w7 ⟨rfl, rfl⟩
    go_wp2_with fail
    go_ret2
    exact ans2 (by rw [H.out.1, H.out.2, H3.out, H6.out]; exact ⟨rfl, rfl⟩) (Bt3.trans (Bt6.mono Bt3.size))

end Go.Proofs.YtkoefclkpdpdpaaGreat
