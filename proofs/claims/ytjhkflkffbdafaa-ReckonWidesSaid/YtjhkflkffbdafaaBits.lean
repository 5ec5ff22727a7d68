/- The document's answer for layer reckon, Bits and Over: the digits of a number of two words, bit by bit; how often a number goes into it. -/
import Derived.Test.YtjhkflkffbdafaaRec3
namespace Go.Proofs.Ytjhkflkffbdafaa
set_option linter.unusedVariables false
open Go.RowKit

theorem seg_one (w : World) (a : Int) (t : TypeId) : Seg (w.alloc (.cells #[.int .i64 a] t)) (.slice (some ⟨w.heap.size, 0, none⟩) 1 1) [a] :=
  ⟨_, 1, rfl, fun _ => ⟨w.heap.size, 0, rfl, by simp, fun k hk => by
    match k, hk with
    | 0, _ => rw [World.cell?_alloc_at _ _ _ _ rfl]; rfl⟩⟩

/-- what has been read of two words, before word k is read -/
def bval (lo hi k : Int) : Int := if k = 1 then 0 else if k = 0 then hi else hi * 18446744073709551616 + lo
theorem bval_1 (lo hi : Int) : bval lo hi 1 = 0 := rfl
theorem bval_0 (lo hi : Int) : bval lo hi 0 = hi := rfl
theorem bval_end (lo hi : Int) : bval lo hi (-1) = hi * 18446744073709551616 + lo := rfl

theorem bit_step {X word : Int} {i : Int} (h0 : 0 ≤ word) (i0 : 0 ≤ i) (i1 : i ≤ 63) :
    X * 2 ^ (63 - (i - 1)).toNat + word / 2 ^ (i - 1 + 1).toNat = 2 * (X * 2 ^ (63 - i).toNat + word / 2 ^ (i + 1).toNat) + word / 2 ^ i.toNat % 2 := by
  have e1 : (63 - (i - 1)).toNat = (63 - i).toNat + 1 := by omega
  have e2 : (i - 1 + 1).toNat = i.toNat := by omega
  have e3 : (i + 1).toNat = i.toNat + 1 := by omega
  rw [e1, e2, e3, two_succ, two_succ]
  have p := two_pos i.toNat
  have e4 : word / (2 * 2 ^ i.toNat) = word / 2 ^ i.toNat / 2 := by
    rw [Int.mul_comm, ← Int.ediv_ediv_of_nonneg (Int.le_of_lt p)]
  rw [e4]
  have e5 : X * (2 * 2 ^ (63 - i).toNat) = 2 * (X * 2 ^ (63 - i).toNat) := by rw [← Int.mul_assoc, Int.mul_comm X 2, Int.mul_assoc]
  rw [e5]
  omega

set_option maxHeartbeats 1600000 in
theorem rbits_any (lo hi : Int) (w : World) (l0 : 0 ≤ lo) (l1 : lo ≤ 18446744073709551615) (h0 : 0 ≤ hi) (h1 : hi ≤ 18446744073709551615) :
    Calls Try.prog 35 #[.agg #[.int .u64 lo, .int .u64 hi]] w fun e w' => NewDigs w w' e (hi * 18446744073709551616 + lo) 300 := by
  go_enter Try.func35, Try.ntmps35
  go_wp2_with fail
  have g0 : (w.alloc (.cells #[.int .u64 lo, .int .u64 hi] 33)).cell? ⟨w.heap.size, 0, none⟩ = some (.int .u64 lo) := by rw [World.cell?_alloc_at _ _ _ _ rfl]; rfl
  have g1 : (w.alloc (.cells #[.int .u64 lo, .int .u64 hi] 33)).cell? ⟨w.heap.size, 1, none⟩ = some (.int .u64 hi) := by rw [World.cell?_alloc_at _ _ _ _ rfl]; rfl
  have gz : (w.alloc (.cells #[.int .u64 lo, .int .u64 hi] 33)).heap.size = w.heap.size + 1 := by simp
  have gb := below_one w (.cells #[.int .u64 lo, .int .u64 hi] 33)
  generalize w.alloc (.cells #[.int .u64 lo, .int .u64 hi] 33) = w0 at *
  have GZ := Lib.hid gz
  clear gz
  go_loopw [3, 4] (fun v kv wr => ∃ (o : List Int) (k : Int), kv = .int .i64 k ∧ -1 ≤ k ∧ k ≤ 1 ∧ Seg wr v o ∧ Dig o ∧ (o.length : Int) ≤ 128 * (1 - k) ∧ Hid (dv o = bval lo hi k) ∧ Below w0.heap.size w0 wr) (fun _ kv _ => (intOf kv + 1).toNat)
  case atStart => exact ⟨[], 1, rfl, by decide, by decide, seg_nil _, dig_nil, by simp, rfl, Below.refl _ _⟩
  case round =>
    obtain ⟨o, k, rfl, k0, k1, SO, hd, hlo, HV, hb⟩ := hrel
    obtain ⟨wo, rfl⟩ : ∃ wo : World, wo = wr := ⟨_, rfl⟩
    by_cases hk : 0 ≤ k
    · obtain ⟨word, hc, wd0, wd1, HN⟩ : ∃ word : Int, wo.cell? ⟨w.heap.size, k.toNat, none⟩ = some (.int .u64 word) ∧ 0 ≤ word ∧ word ≤ 18446744073709551615 ∧ Hid (bval lo hi (k - 1) = bval lo hi k * 18446744073709551616 + word) := by
        rcases (show k = 0 ∨ k = 1 by omega) with rfl | rfl
        · exact ⟨lo, (hb.cell (p := ⟨w.heap.size, 0, none⟩) (by show w.heap.size < w0.heap.size; rw [GZ.out]; omega)).trans g0, l0, l1, rfl⟩
        · exact ⟨hi, (hb.cell (p := ⟨w.heap.size, 1, none⟩) (by show w.heap.size < w0.heap.size; rw [GZ.out]; omega)).trans g1, h0, h1, by show bval lo hi 0 = bval lo hi 1 * _ + hi; rw [bval_0, bval_1]; omega⟩
      have hwb : w.heap.size < wo.heap.size := by have := hb.size; rw [GZ.out] at this; omega
      go_wp2_with fail
      go_loopw [3, 5] (fun v iv wr => ∃ (o : List Int) (i : Int), iv = .int .i64 i ∧ -1 ≤ i ∧ i ≤ 63 ∧ Seg wr v o ∧ Dig o ∧ (o.length : Int) ≤ 128 * (1 - k) + 2 * (63 - i) ∧ Hid (dv o = bval lo hi k * 2 ^ (63 - i).toNat + word / 2 ^ (i + 1).toNat) ∧ Below wo.heap.size wo wr) (fun _ iv _ => (intOf iv + 1).toNat)
      case atStart =>
        refine ⟨o, 63, rfl, by decide, by decide, SO, hd, by omega, ?_, Below.refl _ _⟩
        have e : word / 2 ^ (63 + 1 : Int).toNat = 0 := Int.ediv_eq_zero_of_lt wd0 (by show word < 18446744073709551616; omega)
        show _ = _
        rw [e, HV.out]
        show bval lo hi k = bval lo hi k * 1 + 0
        omega
      clear hd SO hlo
      case round =>
        obtain ⟨o, i, rfl, i0, i1, SO, hd, hlo, HI, hbi⟩ := hrel
        by_cases hi2 : 0 ≤ i
        · have hcr : wr.cell? ⟨w.heap.size, k.toNat, none⟩ = some (.int .u64 word) := (hbi.cell (p := ⟨w.heap.size, k.toNat, none⟩) hwb).trans hc
          have HS := Lib.hid (bit_step (X := bval lo hi k) wd0 hi2 i1)
          have d0 : 0 ≤ word / 2 ^ i.toNat := Int.ediv_nonneg wd0 (Int.le_of_lt (two_pos _))
          have ol : o.length ≤ 500 := by omega
          go_wp2_with fail
          refine (sum_any _ _ o o o.length _ SO SO hd hd (Nat.le_refl _) (Nat.le_refl _) (by omega)).mono ?_
          rintro e w2 ⟨v2, l2, rfl, S2, D2, V2, L2, B2⟩
          have H2 := Lib.hid V2
          clear V2
          have hwr : w.heap.size < wr.heap.size := by have := hbi.size; omega
          have hc2 : w2.cell? ⟨w.heap.size, k.toNat, none⟩ = some (.int .u64 word) := (B2.cell (p := ⟨w.heap.size, k.toNat, none⟩) hwr).trans hcr
          have hb2 := hbi.trans (B2.mono hbi.size)
          clear hcr SO hd B2
          by_cases hbit : word / 2 ^ i.toNat % 2 = 1
          · have hb' : (word / 2 ^ i.toNat % 2 == 1) = true := by simp [hbit]
            have HB := Lib.hid hbit
            clear hbit
            go_wp2_with fail
            refine (sum_any _ _ l2 [1] (o.length + 1) _ (seg_alloc S2 _) (seg_one _ _ _) D2 ?_ L2 ?_ ?_).mono ?_
            · exact dig_app dig_nil (by decide) (by decide)
            · simp
            · omega
            rintro e w3 ⟨v3, l3, rfl, S3, D3, V3, L3, B3⟩
            have H3 : Hid (dv l3 = bval lo hi k * 2 ^ (63 - (i - 1)).toNat + word / 2 ^ (i - 1 + 1).toNat) := by
              show _ = _
              rw [V3, H2.out, HI.out, HS.out, HB.out]
              show _ + 1 = _
              omega
            clear V3
            have hb3 := (hb2.alloc hb2.size (.cells #[.int .i64 1] 3)).trans (B3.mono (by have := hb2.size; simp; omega))
            go_wp2_with fail
            go_roundw
            case rel => exact ⟨l3, i - 1, rfl, by omega, by omega, S3, D3, by omega, H3.out, hb3⟩
            case measure => simp [intOf]; omega
          · have hb' : (word / 2 ^ i.toNat % 2 == 1) = false := by simp [hbit]
            have H3 : Hid (dv l2 = bval lo hi k * 2 ^ (63 - (i - 1)).toNat + word / 2 ^ (i - 1 + 1).toNat) := by
              show _ = _
              rw [H2.out, HI.out, HS.out]
              omega
            clear hbit
            go_wp2_with fail
            go_roundw
            case rel => exact ⟨l2, i - 1, rfl, by omega, by omega, S2, D2, by omega, H3.out, hb2⟩
            case measure => simp [intOf]; omega
        · have hi3 : i = -1 := by omega
          have H3 : Hid (dv o = bval lo hi (k - 1)) := by
            have := HI.out
            show _ = _
            rw [hi3] at this
            rw [this, HN.out]
            show bval lo hi k * 18446744073709551616 + word / 1 = _
            rw [Int.ediv_one]
          clear hi3
          go_wp2_with fail
          go_roundw
          case rel => exact ⟨o, k - 1, rfl, by omega, by omega, SO, hd, by omega, H3.out, hb.trans (hbi.mono hb.size)⟩
          case measure => simp [intOf]; omega
    · have hk1 : k = -1 := by omega
      have H3 : Hid (dv o = hi * 18446744073709551616 + lo) := by
        have := HV.out
        rw [hk1, bval_end] at this
        exact this
      clear hk1
      go_wp2_with fail
      go_ret
      exact ⟨_, o, rfl, SO, hd, H3.out, by omega, gb.trans (hb.mono gb.size)⟩

end Go.Proofs.Ytjhkflkffbdafaa
