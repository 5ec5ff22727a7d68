/- The document's answer for layer reckon, Times: the product of two numbers, digit by digit: it returns digits of just that worth, and nothing that was there before is changed. -/
import Derived.Test.YtjhkflkffbdafaaRef
import Derived.IntWalk
namespace Go.Proofs.Ytjhkflkffbdafaa
set_option linter.unusedVariables false
open Go.RowKit

theorem digit_same (v : Value) (l : List Int) (i : Int) (w : World) (h : Seg w v l) (hl : l.length ≤ 1000000) (h0 : 0 ≤ i) (h1 : i ≤ 1000000) :
    Calls Try.prog 50 #[v, .int .i64 i] w fun e w' => e = .returned (.int .i64 (dg l i.toNat)) ∧ w' = w :=
  (digit_any v l i w h hl h0 h1).mono fun _ _ ⟨a, b⟩ => ⟨a, b.symm⟩

set_option maxHeartbeats 1600000 in
theorem times_any (va vb : Value) (a b : List Int) (m : Nat) (w : World) (SA : Seg w va a) (SB : Seg w vb b) (DA : Dig a) (DB : Dig b) (ha : a.length ≤ m) (hb : b.length ≤ m) (hm : m ≤ 200000) :
    Calls Try.prog 43 #[va, vb] w fun e w' => NewDigs w w' e (dv a * dv b) (3 * m) := by
  obtain ⟨i0, hi, hz0, hz1, hz2⟩ := info_parts Try.info3
  have SA0 := SA
  have SB0 := SB
  obtain ⟨A, ca, rfl, -⟩ := SA0
  obtain ⟨B, cb, rfl, -⟩ := SB0
  go_enter Try.func43, Try.ntmps43
  go_wp2
  go_loopw [5, 6] (fun v i wr => ∃ (o : List Int) (n : Nat), i = .int .i64 n ∧ n ≤ b.length ∧ Seg wr v o ∧ Dig o ∧ o.length ≤ a.length + 2 * n ∧ Hid (dv o = dv a * dt b n) ∧ Below w.heap.size w wr) (fun _ i _ => (b.length - (intOf i).toNat))
  case atStart => exact ⟨[], 0, rfl, by omega, seg_nil _, dig_nil, by simp, by show dv [] = dv a * dt b 0; simp [dv, dt], Below.refl _ _⟩
  case round =>
    obtain ⟨o, n, rfl, hn, SO, hd, hlo, HV, hbl⟩ := hrel
    obtain ⟨wo, rfl⟩ : ∃ wo : World, wo = wr := ⟨_, rfl⟩
    by_cases hnb : n < b.length
    · have SA1 := seg_below SA hbl
      have SB1 := seg_below SB hbl
      have dbn := DB n
      have SO0 := SO
      obtain ⟨O, co, rfl, -⟩ := SO0
      obtain ⟨bb, bo, rfl, hbb, hcB⟩ := seg_at SB1 hnb
      have hcn := hcB n hnb
      clear hcB
      go_wp2
      go_loopw [7, 8] (fun r k wr => ∃ (z : List Int) (j : Nat), k = .int .i64 j ∧ j ≤ n ∧ Hid (z.length = j) ∧ wr.ownsRow wo.heap.size 3 1 r z.length (z.map (Value.int .i64)) ∧ Dig z ∧ Hid (dv z = 0) ∧ Below wo.heap.size wo wr) (fun _ k _ => (n - (intOf k).toNat))
      case atStart => exact ⟨[], 0, rfl, by omega, rfl, World.ownsRow_nil _ _ _ _, dig_nil, rfl, Below.refl _ _⟩
      case round =>
        obtain ⟨z, j, rfl, hj, HZ, hown, hdz, HVZ, hbz⟩ := hrel
        have hzl : z.length ≤ n := by have := HZ.out; omega
        by_cases hjn : j < n
        · go_wp2_with (at_builtin; refine wpList_append_own _ rfl _ _ 37 rfl wo.heap.size 3 i0 (.int .i64 0) 1 8 Try.underlying37 hi hz0 hz1 hz2 rfl (by decide) _ _ _ rfl (hown.alloc _) ⟨wr.heap.size, 0, none⟩ 1 1 [.int .i64 0] rfl rfl ?c1 ?c2 ?c3 ?c4 ?c5 ?_)
          case c1 => exact cell_new _ _ _
          case c2 => exact int_cell _
          case c3 => unfold maxLen; omega
          case c4 => omega
          case c5 => have := hbz.size; simp; omega
          intro v' w1 hown' hgrow _
          have hb1 := (hbz.alloc hbz.size (.cells #[.int .i64 0] 3)).grown hgrow (by have := hbz.size; simp; omega) (fun g hg => (hown.lt g hg).1)
          have ho := own_app hown'
          clear hown' hgrow hown hbz
          go_wp2
          go_roundw
          case rel => exact ⟨z ++ [0], j + 1, by go_num, by omega, by have := HZ.out; show (z ++ [_]).length = j + 1; simp; exact this, ho, dig_app hdz (by decide) (by decide), by have := HVZ.out; show dv _ = 0; rw [dv_app, this]; simp, hb1⟩
          case measure => simp [intOf]; omega
        · have ejn : j = n := by omega
          clear hjn
          obtain ⟨w1, rfl⟩ : ∃ w1 : World, w1 = wr := ⟨_, rfl⟩
          go_wp2
          go_loopw [7, 9, 10] (fun r c k wr => ∃ (z : List Int) (t : Nat) (x : Int), c = .int .i64 x ∧ k = .int .i64 t ∧ 0 ≤ x ∧ x ≤ 998 ∧ t ≤ a.length + 1 ∧ Hid (a.length < t → x = 0) ∧ Hid (z.length = n + t) ∧
            wr.ownsRow wo.heap.size 3 1 r z.length (z.map (Value.int .i64)) ∧ Dig z ∧ Hid (dv z + x * 1000 ^ (n + t) = dt a t * dg b n * 1000 ^ n) ∧ Below wo.heap.size wo wr) (fun _ _ k _ => (a.length + 1 - (intOf k).toNat))
          case atStart => exact ⟨z, 0, 0, rfl, rfl, by decide, by decide, by omega, fun _ => rfl, by have := HZ.out; show _ = _; omega, hown, hdz, by have := HVZ.out; show _ = _; rw [this]; simp [dt], hbz⟩
          clear hdz HVZ hown hbz HZ hzl hj ejn
          case round =>
            obtain ⟨z, t, x, rfl, rfl, x0, x1, ht, HE, HZ, hown, hdz, HVZ, hbz⟩ := hrel
            have hend := HE.out
            have hzl : z.length ≤ n + a.length + 1 := by have := HZ.out; omega
            have SA2 := seg_below SA1 hbz
            have hcr : wr.cell? ⟨bb, bo + n, none⟩ = some (.int .i64 (dg b n)) := (hbz.cell (p := ⟨bb, bo + n, none⟩) hbb).trans hcn
            rcases (show (a.length ≤ t ∧ x = 0) ∨ t < a.length ∨ (a.length ≤ t ∧ 0 < x) by omega) with h | h | h
            · obtain ⟨h1, rfl⟩ := h
              have hv := HVZ.out
              have ho := HV.out
              rw [dt_end a t h1] at hv
              have hn1 : dv o + dv z = dv a * dt b (n + 1) := by
                rw [dt, Int.mul_add, ← Int.mul_assoc]; omega
              have HN := Lib.hid hn1
              have SZ := seg_own hown
              have SO2 := seg_below SO hbz
              clear hv ho hn1 hend HE HVZ HZ
              go_wp2_with (go_at_call 49; refine (sum_any _ _ o z (a.length + 2 * n + 1) _ SO2 SZ hd hdz (by omega) (by omega) (by omega)).mono ?_; rintro e w3 ⟨v3, l3, rfl, S3, D3, V3, L3, B3⟩)
              have H3 := Lib.hid V3
              clear V3
              go_wp2
              go_roundw
              case rel => exact ⟨l3, n + 1, by go_num, by omega, S3, D3, by omega, H3.out.trans HN.out, hbl.trans ((hbz.trans (B3.mono hbz.size)).mono hbl.size)⟩
              case measure => simp [intOf]; omega
            all_goals
              have HS := Lib.hid (row_step HZ.out DA hdz dbn.1 dbn.2 x0 x1 HVZ.out)
              have p0 := HS.out.1
              have p1 := HS.out.2.1
              have dat := DA t
              have htm : t ≤ a.length := by
                by_cases g : a.length < t
                · have := hend g; omega
                · omega
              have hin : (n : Int) < (b.length : Int) := by omega
              have hin0 : (0 : Int) ≤ (n : Int) := by omega
              have ht1 : t ≤ 1000000 := by omega
              have hE : a.length < t + 1 → (x + dg a t * dg b n) / 1000 = 0 := fun g => by
                rw [show dg a t = 0 from getD_end a t (by omega)]; omega
              have HE2 := Lib.hid hE
              clear hend hE HE
              go_wp2_with fail
              have q1 : IntKind.i64.wrap (dg a t * dg b n) = dg a t * dg b n := IntWalk.i64_in _ (by omega)
              have q2 : IntKind.i64.wrap (x + dg a t * dg b n) = x + dg a t * dg b n := IntWalk.i64_in _ (by omega)
              go_quiet ((go_at_call 50; exact Calls.quiet_of_same (digit_same _ a _ _ SA2 (by omega) (by omega) (by omega))))
              clear q1 q2
              have hown4 : ∀ q, (wr.drewN q).ownsRow wo.heap.size 3 1 _ z.length (z.map (Value.int .i64)) := fun q => hown
              go_wp2_with (at_builtin; refine wpList_append_own _ rfl _ _ 37 rfl wo.heap.size 3 i0 (.int .i64 0) 1 8 Try.underlying37 hi hz0 hz1 hz2 rfl (by decide) _ _ _ rfl ((hown4 _).alloc _) ⟨wr.heap.size, 0, none⟩ 1 1 [.int .i64 ((x + dg a t * dg b n) % 1000)] rfl rfl ?c1 ?c2 ?c3 ?c4 ?c5 ?_)
              case c1 => exact cell_new _ _ _
              case c2 => exact int_cell _
              case c3 => unfold maxLen; omega
              case c4 => omega
              case c5 => have := hbz.size; simp; omega
              intro v' w4 hown' hgrow _
              have hb1 := ((below_drewN hbz _).alloc hbz.size (.cells #[.int .i64 ((x + dg a t * dg b n) % 1000)] 3)).grown hgrow (by have := hbz.size; simp; omega) (fun g hg => (hown.lt g hg).1)
              have ho := own_app hown'
              clear hown' hgrow hown hbz hown4
              go_wp2
              go_roundw
              case rel => exact ⟨z ++ [(x + dg a t * dg b n) % 1000], t + 1, (x + dg a t * dg b n) / 1000, rfl, by go_num, HS.out.2.2.2.1, HS.out.2.2.2.2.1, by omega, HE2.out, by have := HZ.out; show (z ++ [_]).length = n + (t + 1); simp; omega, ho, HS.out.2.2.1, HS.out.2.2.2.2.2, hb1⟩
              case measure => simp [intOf]; omega
    · have hnb' : n = b.length := by omega
      have hv := HV.out
      rw [hnb'] at hv
      have HN := Lib.hid hv
      clear hv HV hnb'
      go_wp2
      go_ret
      exact ⟨_, o, rfl, SO, hd, HN.out, by omega, hbl⟩

end Go.Proofs.Ytjhkflkffbdafaa
