/- Texts laid together: Ref, Times, Quot, RfPart. -/
import Derived.Test.YtelekchdbiimiaaGreatRows
import Derived.Test.YtelekchdbiimiaaGreatRkT
import Derived.WalkKit
import Derived.WalkSpells
import Derived.WalkLawsBesides
import Derived.Lib.Hide
import Derived.Deep.QuietTactic
import Derived.BigQuiet
import Derived.IntWalk
namespace Go.Proofs.YtelekchdbiimiaaGreat
set_option linter.unusedVariables false
set_option maxRecDepth 100000
open Go.RowKit
theorem Tryz.info3 : (Tryz.prog.info? 3).map (fun i => (i.zero, i.size, i.bytes)) = some (some (.int .i64 0), 1, 8) := by kernel_rfl
set_option maxHeartbeats 400000 in
theorem digit_any (v : Value) (l : List Int) (i : Int) (w : World) (h : Seg w v l) (hl : l.length ≤ 1000000) (h0 : 0 ≤ i) (h1 : i ≤ 1000000) :
    Calls Tryz.prog 80 #[v, .int .i64 i] w fun e w' => e = .returned (.int .i64 (dg l i.toNat)) ∧ w = w' := by
  obtain ⟨A, c, rfl, hc⟩ := h
  by_cases hi : i < l.length
  · obtain ⟨b, o, rfl, _, hk⟩ := hc (by omega)
    have hcell := hk i.toNat (by omega)
    clear hk hc
    go_enter Tryz.func80, Tryz.ntmps80
    go_wp2
    go_ret
    exact ⟨ret_i (by simp [dg, List.getD_eq_getElem?_getD, List.getElem?_eq_getElem (show i.toNat < l.length by omega)]), rfl⟩
  · have hz : dg l i.toNat = 0 := getD_end l _ (by omega)
    rw [hz]
    clear hc hz
    go_enter Tryz.func80, Tryz.ntmps80
    go_wp2
    go_ret
    exact ⟨rfl, rfl⟩
/-- a new slice: it reads as a list of digits of this worth, and is no longer than this; nothing that was there is changed -/
def NewDigs (w w' : World) (e : Ending) (x : Int) (m : Nat) : Prop :=
  ∃ v l, e = .returned v ∧ Seg w' v l ∧ Dig l ∧ dv l = x ∧ l.length ≤ m ∧ Below w.heap.size w w'
set_option maxHeartbeats 800000 in
theorem digits_any (n : Int) (w : World) (h0 : 0 ≤ n) (h1 : n ≤ 9223372036854775807) :
    Calls Tryz.prog 44 #[.int .i64 n] w fun e w' => NewDigs w w' e n 7 := by
  obtain ⟨i0, hi, hz0, hz1, hz2⟩ := info_parts Tryz.info3
  go_enter Tryz.func44, Tryz.ntmps44
  go_wp2
  go_loopw [0, 3] (fun m v wr => ∃ (l : List Int) (k : Int), m = .int .i64 k ∧ 0 ≤ k ∧ k ≤ 9223372036854775807 ∧ wr.ownsRow w.heap.size 3 1 v l.length (l.map (Value.int .i64)) ∧ Dig l ∧ l.length ≤ 7 ∧ Hid (dv l + k * 1000 ^ l.length = n) ∧ Below w.heap.size w wr) (fun m _ _ => (intOf m).toNat)
  case atStart => exact ⟨[], n, rfl, h0, h1, World.ownsRow_nil _ _ _ _, dig_nil, by simp, by show dv [] + n * 1000 ^ 0 = n; simp [dv, dt], Below.refl _ _⟩
  case round =>
    obtain ⟨l, k, rfl, k0, k1, hown, hd, hlen, HV, hb⟩ := hrel
    by_cases hk : 0 < k
    · have hl6 := digs_len hd hk h1 HV.out
      have hS := digs_step hd k0 HV.out
      have HS := Lib.hid hS
      clear hS
      go_wp2_with (at_builtin; refine wpList_append_own _ rfl _ _ 91 rfl w.heap.size 3 i0 (.int .i64 0) 1 8 Tryz.underlying91 hi hz0 hz1 hz2 rfl (by decide) _ _ _ rfl (hown.alloc _) ⟨wr.heap.size, 0, none⟩ 1 1 [.int .i64 (k % 1000)] rfl rfl ?c1 ?c2 ?c3 ?c4 ?c5 ?_)
      case c1 => exact cell_new _ _ _
      case c2 => exact int_cell _
      case c3 => unfold maxLen; omega
      case c4 => omega
      case c5 => have := hb.size; simp; omega
      intro v' w1 hown' hgrow _
      have hb1 := (hb.alloc hb.size (.cells #[.int .i64 (k % 1000)] 3)).grown hgrow (by have := hb.size; simp; omega) (fun g hg => (hown.lt g hg).1)
      have ho := own_app hown'
      clear hown' hgrow hown hb
      go_wp2
      go_roundw
      case rel => exact ⟨l ++ [k % 1000], k / 1000, rfl, by omega, by omega, ho, HS.out.1, by simp; omega, HS.out.2, hb1⟩
      case measure => simp [intOf]; omega
    · have hk0 : k = 0 := by omega
      have hv := HV.out
      subst hk0
      clear HV
      go_wp2
      go_ret
      exact ⟨_, l, rfl, seg_own hown, hd, by simpa using hv, hlen, hb⟩
set_option maxHeartbeats 800000 in
theorem sum_any (va vb : Value) (a b : List Int) (m : Nat) (w : World) (SA : Seg w va a) (SB : Seg w vb b) (DA : Dig a) (DB : Dig b) (ha : a.length ≤ m) (hb : b.length ≤ m) (hm : m ≤ 900000) :
    Calls Tryz.prog 45 #[va, vb] w fun e w' => NewDigs w w' e (dv a + dv b) (m + 1) := by
  obtain ⟨i0, hi, hz0, hz1, hz2⟩ := info_parts Tryz.info3
  have SA0 := SA
  have SB0 := SB
  obtain ⟨A, ca, rfl, -⟩ := SA0
  obtain ⟨B, cb, rfl, -⟩ := SB0
  go_enter Tryz.func45, Tryz.ntmps45
  go_wp2
  go_loopw [5, 6, 7] (fun v c i wr => ∃ (o : List Int) (k : Nat) (x : Int), c = .int .i64 x ∧ i = .int .i64 k ∧ 0 ≤ x ∧ x ≤ 1 ∧ k ≤ m + 1 ∧ Hid (a.length < k ∧ b.length < k → x = 0) ∧ Hid (o.length = k) ∧
      wr.ownsRow w.heap.size 3 1 v o.length (o.map (Value.int .i64)) ∧ Dig o ∧ Hid (dv o + x * 1000 ^ k = dt a k + dt b k) ∧ Below w.heap.size w wr) (fun _ _ i _ => (m + 1 - (intOf i).toNat))
  case atStart => exact ⟨[], 0, 0, rfl, rfl, by decide, by decide, by omega, fun _ => rfl, rfl, World.ownsRow_nil _ _ _ _, dig_nil, by show dv [] + 0 * 1000 ^ 0 = dt a 0 + dt b 0; simp [dv, dt], Below.refl _ _⟩
  case round =>
    obtain ⟨o, k, x, rfl, rfl, x0, x1, hkm, HE, HO, hown, hd, HV, hbl⟩ := hrel
    have SA1 := seg_below SA hbl
    have SB1 := seg_below SB hbl
    have da := DA k
    have db := DB k
    have hlo : o.length ≤ m + 1 := by have := HO.out; omega
    have HS := Lib.hid (sum_step HO.out DA DB hd x0 x1 HV.out)
    have hend := HE.out
    rcases (show (a.length ≤ k ∧ b.length ≤ k ∧ x = 0) ∨ k < a.length ∨ (a.length ≤ k ∧ k < b.length) ∨ (a.length ≤ k ∧ b.length ≤ k ∧ 0 < x) by omega) with h | h | h | h
    · obtain ⟨h1, h2, rfl⟩ := h
      have hv := HV.out
      rw [dt_end a k h1, dt_end b k h2] at hv
      clear hend HE HS HV SA1 SB1 SA SB da db
      go_wp2
      go_ret
      exact ⟨_, o, rfl, seg_own hown, hd, by simpa using hv, hlo, hbl⟩
    all_goals
      have hkm' : k ≤ m := by omega
      have hE : a.length < k + 1 ∧ b.length < k + 1 → (x + dg a k + dg b k) / 1000 = 0 := fun g => by
        rw [show dg a k = 0 from getD_end a k (by omega), show dg b k = 0 from getD_end b k (by omega)]; omega
      have HE2 := Lib.hid hE
      clear hend hE HE
      go_wp2_with (first
        | (go_at_call 80; ((with_reducible refine (digit_any _ a _ _ SA1 (by omega) (by omega) (by omega)).mono ?_); rintro e w' ⟨rfl, rfl⟩))
        | (go_at_call 80; ((with_reducible refine (digit_any _ b _ _ SB1 (by omega) (by omega) (by omega)).mono ?_); rintro e w' ⟨rfl, rfl⟩))
        | (at_builtin; refine wpList_append_own _ rfl _ _ 91 rfl w.heap.size 3 i0 (.int .i64 0) 1 8 Tryz.underlying91 hi hz0 hz1 hz2 rfl (by decide) _ _ _ rfl (hown.alloc _) ⟨wr.heap.size, 0, none⟩ 1 1 [.int .i64 ((x + dg a k + dg b k) % 1000)] rfl rfl ?c1 ?c2 ?c3 ?c4 ?c5 ?_))
      case c1 => exact cell_new _ _ _
      case c2 => exact int_cell _
      case c3 => unfold maxLen; omega
      case c4 => omega
      case c5 => have := hbl.size; simp; omega
      intro v' w1 hown' hgrow _
      have hb1 := (hbl.alloc hbl.size (.cells #[.int .i64 ((x + dg a k + dg b k) % 1000)] 3)).grown hgrow (by have := hbl.size; simp; omega) (fun g hg => (hown.lt g hg).1)
      have ho := own_app hown'
      clear hown' hgrow hown hbl
      go_wp2
      go_roundw
      case rel => exact ⟨o ++ [(x + dg a k + dg b k) % 1000], k + 1, (x + dg a k + dg b k) / 1000, rfl, by go_num, HS.out.2.1, HS.out.2.2.1, by omega, HE2.out, by have := HO.out; show (o ++ [_]).length = k + 1; simp; exact this, ho, HS.out.1, HS.out.2.2.2, hb1⟩
      case measure => simp [intOf]; omega
set_option maxHeartbeats 800000 in
theorem less_any (va vb : Value) (a b : List Int) (w : World) (SA : Seg w va a) (SB : Seg w vb b) (DA : Dig a) (DB : Dig b) (ha : a.length ≤ 900000) (hb : b.length ≤ 900000) :
    Calls Tryz.prog 42 #[va, vb] w fun e w' => e = .returned (.int .i64 (cmp3 (dv a) (dv b))) ∧ w = w' := by
  have SA0 := SA
  have SB0 := SB
  obtain ⟨A, ca, rfl, -⟩ := SA0
  obtain ⟨B, cb, rfl, -⟩ := SB0
  by_cases hab : (a.length : Int) < b.length
  all_goals
    go_enter Tryz.func42, Tryz.ntmps42
    go_wp2
    go_loop [6] (fun i => ∃ j : Int, i = .int .i64 j ∧ -1 ≤ j ∧ j ≤ 900000 ∧ Hid (dv a - dt a (j + 1).toNat = dv b - dt b (j + 1).toNat)) (fun i => (intOf i + 1).toNat)
    case atStart =>
      refine ⟨_, rfl, by omega, by omega, ?_⟩
      show _ = _
      rw [dt_end a _ (by omega), dt_end b _ (by omega)]; omega
    case round =>
      obtain ⟨j, rfl, j0, j1, HV⟩ := hrel
      by_cases hj : 0 ≤ j
      · have e : (j + 1).toNat = j.toNat + 1 := by omega
        have hv := HV.out
        rw [e] at hv
        rcases (show dg a j.toNat < dg b j.toNat ∨ (¬ dg a j.toNat < dg b j.toNat ∧ dg b j.toNat < dg a j.toNat) ∨ (¬ dg a j.toNat < dg b j.toNat ∧ ¬ dg b j.toNat < dg a j.toNat) by omega) with h | h | h
        · have HF := Lib.hid (cmp3_lt (show dv a < dv b by have := dt_lt DA DB _ h; omega))
          clear hv HV e
          go_wp2_with (first
            | (go_at_call 80; ((with_reducible refine (digit_any _ a _ _ SA (by omega) (by omega) (by omega)).mono ?_); rintro e w' ⟨rfl, rfl⟩))
            | (go_at_call 80; ((with_reducible refine (digit_any _ b _ _ SB (by omega) (by omega) (by omega)).mono ?_); rintro e w' ⟨rfl, rfl⟩)))
          go_ret
          exact ⟨ret_i HF.out.symm, rfl⟩
        · have HF := Lib.hid (cmp3_gt (show dv b < dv a by have := dt_lt DB DA _ h.2; omega))
          clear hv HV e
          go_wp2_with (first
            | (go_at_call 80; ((with_reducible refine (digit_any _ a _ _ SA (by omega) (by omega) (by omega)).mono ?_); rintro e w' ⟨rfl, rfl⟩))
            | (go_at_call 80; ((with_reducible refine (digit_any _ b _ _ SB (by omega) (by omega) (by omega)).mono ?_); rintro e w' ⟨rfl, rfl⟩)))
          go_ret
          exact ⟨ret_i HF.out.symm, rfl⟩
        · have hn : dv a - dt a (j - 1 + 1).toNat = dv b - dt b (j - 1 + 1).toNat := by
            rw [show (j - 1 + 1).toNat = j.toNat by omega]
            have e3 : dg a j.toNat = dg b j.toNat := by omega
            rw [dt, dt, e3] at hv; omega
          have HN := Lib.hid hn
          clear hv HV e hn
          go_wp2_with (first
            | (go_at_call 80; ((with_reducible refine (digit_any _ a _ _ SA (by omega) (by omega) (by omega)).mono ?_); rintro e w' ⟨rfl, rfl⟩))
            | (go_at_call 80; ((with_reducible refine (digit_any _ b _ _ SB (by omega) (by omega) (by omega)).mono ?_); rintro e w' ⟨rfl, rfl⟩)))
          go_round
          case rel => exact ⟨j - 1, rfl, by omega, by omega, HN.out⟩
          case measure => simp [intOf]; omega
      · have hz : dv a = dv b := by
          have hv := HV.out
          rw [show (j + 1).toNat = 0 by omega] at hv
          simpa [dt] using hv
        have HF := Lib.hid (cmp3_eq hz)
        clear HV hz
        go_wp2_with fail
        go_ret
        exact ⟨ret_i HF.out.symm, rfl⟩
end Go.Proofs.YtelekchdbiimiaaGreat
namespace Go.Proofs.YtelekchdbiimiaaGreat
set_option linter.unusedVariables false
set_option maxRecDepth 100000
open Go.RowKit
theorem digit_same (v : Value) (l : List Int) (i : Int) (w : World) (h : Seg w v l) (hl : l.length ≤ 1000000) (h0 : 0 ≤ i) (h1 : i ≤ 1000000) :
    Calls Tryz.prog 80 #[v, .int .i64 i] w fun e w' => e = .returned (.int .i64 (dg l i.toNat)) ∧ w' = w :=
  (digit_any v l i w h hl h0 h1).mono fun _ _ ⟨a, b⟩ => ⟨a, b.symm⟩
set_option maxHeartbeats 1600000 in
theorem times_any (va vb : Value) (a b : List Int) (m : Nat) (w : World) (SA : Seg w va a) (SB : Seg w vb b) (DA : Dig a) (DB : Dig b) (ha : a.length ≤ m) (hb : b.length ≤ m) (hm : m ≤ 200000) :
    Calls Tryz.prog 43 #[va, vb] w fun e w' => NewDigs w w' e (dv a * dv b) (3 * m) := by
  obtain ⟨i0, hi, hz0, hz1, hz2⟩ := info_parts Tryz.info3
  have SA0 := SA
  have SB0 := SB
  obtain ⟨A, ca, rfl, -⟩ := SA0
  obtain ⟨B, cb, rfl, -⟩ := SB0
  go_enter Tryz.func43, Tryz.ntmps43
  go_wp2
  go_loopw [5, 6] (fun v i wr => ∃ (o : List Int) (n : Nat), i = .int .i64 n ∧ n ≤ b.length ∧ Seg wr v o ∧ Dig o ∧ o.length ≤ a.length + 2 * n ∧ Hid (dv o = dv a * dt b n) ∧ Below w.heap.size w wr) (fun _ i _ => (b.length - (intOf i).toNat))
  case atStart => exact ⟨[], 0, rfl, by omega, seg_nil _, dig_nil, by simp, by show dv [] = dv a * dt b 0; simp [dv, dt], Below.refl _ _⟩
  case round =>
    obtain ⟨o, n, rfl, hn, SO, hd, hlo, HV, hbl⟩ := hrel
    obtain ⟨wo, rfl⟩ : ∃ wo : World, wo = wr := ⟨_, rfl⟩
    by_cases hnb : n < b.length
    · have SA1 := seg_below SA hbl
      have SB1 := seg_below SB hbl
      have dbn := DB n
      have SO0 := SO
      obtain ⟨O, co, rfl, -⟩ := SO0
      obtain ⟨bb, bo, rfl, hbb, hcB⟩ := seg_at SB1 hnb
      have hcn := hcB n hnb
      clear hcB
      go_wp2
      go_loopw [7, 8] (fun r k wr => ∃ (z : List Int) (j : Nat), k = .int .i64 j ∧ j ≤ n ∧ Hid (z.length = j) ∧ wr.ownsRow wo.heap.size 3 1 r z.length (z.map (Value.int .i64)) ∧ Dig z ∧ Hid (dv z = 0) ∧ Below wo.heap.size wo wr) (fun _ k _ => (n - (intOf k).toNat))
      case atStart => exact ⟨[], 0, rfl, by omega, rfl, World.ownsRow_nil _ _ _ _, dig_nil, rfl, Below.refl _ _⟩
      case round =>
        obtain ⟨z, j, rfl, hj, HZ, hown, hdz, HVZ, hbz⟩ := hrel
        have hzl : z.length ≤ n := by have := HZ.out; omega
        by_cases hjn : j < n
        · go_wp2_with (at_builtin; refine wpList_append_own _ rfl _ _ 91 rfl wo.heap.size 3 i0 (.int .i64 0) 1 8 Tryz.underlying91 hi hz0 hz1 hz2 rfl (by decide) _ _ _ rfl (hown.alloc _) ⟨wr.heap.size, 0, none⟩ 1 1 [.int .i64 0] rfl rfl ?c1 ?c2 ?c3 ?c4 ?c5 ?_)
          case c1 => exact cell_new _ _ _
          case c2 => exact int_cell _
          case c3 => unfold maxLen; omega
          case c4 => omega
          case c5 => have := hbz.size; simp; omega
          intro v' w1 hown' hgrow _
          have hb1 := (hbz.alloc hbz.size (.cells #[.int .i64 0] 3)).grown hgrow (by have := hbz.size; simp; omega) (fun g hg => (hown.lt g hg).1)
          have ho := own_app hown'
          clear hown' hgrow hown hbz
          go_wp2
          go_roundw
          case rel => exact ⟨z ++ [0], j + 1, by go_num, by omega, by have := HZ.out; show (z ++ [_]).length = j + 1; simp; exact this, ho, dig_app hdz (by decide) (by decide), by have := HVZ.out; show dv _ = 0; rw [dv_app, this]; simp, hb1⟩
          case measure => simp [intOf]; omega
        · have ejn : j = n := by omega
          clear hjn
          obtain ⟨w1, rfl⟩ : ∃ w1 : World, w1 = wr := ⟨_, rfl⟩
          go_wp2
          go_loopw [7, 9, 10] (fun r c k wr => ∃ (z : List Int) (t : Nat) (x : Int), c = .int .i64 x ∧ k = .int .i64 t ∧ 0 ≤ x ∧ x ≤ 998 ∧ t ≤ a.length + 1 ∧ Hid (a.length < t → x = 0) ∧ Hid (z.length = n + t) ∧
            wr.ownsRow wo.heap.size 3 1 r z.length (z.map (Value.int .i64)) ∧ Dig z ∧ Hid (dv z + x * 1000 ^ (n + t) = dt a t * dg b n * 1000 ^ n) ∧ Below wo.heap.size wo wr) (fun _ _ k _ => (a.length + 1 - (intOf k).toNat))
          case atStart => exact ⟨z, 0, 0, rfl, rfl, by decide, by decide, by omega, fun _ => rfl, by have := HZ.out; show _ = _; omega, hown, hdz, by have := HVZ.out; show _ = _; rw [this]; simp [dt], hbz⟩
          clear hdz HVZ hown hbz HZ hzl hj ejn
          case round =>
            obtain ⟨z, t, x, rfl, rfl, x0, x1, ht, HE, HZ, hown, hdz, HVZ, hbz⟩ := hrel
            have hend := HE.out
            have hzl : z.length ≤ n + a.length + 1 := by have := HZ.out; omega
            have SA2 := seg_below SA1 hbz
            have hcr : wr.cell? ⟨bb, bo + n, none⟩ = some (.int .i64 (dg b n)) := (hbz.cell (p := ⟨bb, bo + n, none⟩) hbb).trans hcn
            rcases (show (a.length ≤ t ∧ x = 0) ∨ t < a.length ∨ (a.length ≤ t ∧ 0 < x) by omega) with h | h | h
            · obtain ⟨h1, rfl⟩ := h
              have hv := HVZ.out
              have ho := HV.out
              rw [dt_end a t h1] at hv
              have hn1 : dv o + dv z = dv a * dt b (n + 1) := by
                rw [dt, Int.mul_add, ← Int.mul_assoc]; omega
              have HN := Lib.hid hn1
              have SZ := seg_own hown
              have SO2 := seg_below SO hbz
              clear hv ho hn1 hend HE HVZ HZ
              go_wp2_with (go_at_call 45; refine (sum_any _ _ o z (a.length + 2 * n + 1) _ SO2 SZ hd hdz (by omega) (by omega) (by omega)).mono ?_; rintro e w3 ⟨v3, l3, rfl, S3, D3, V3, L3, B3⟩)
              have H3 := Lib.hid V3
              clear V3
              go_wp2
              go_roundw
              case rel => exact ⟨l3, n + 1, by go_num, by omega, S3, D3, by omega, H3.out.trans HN.out, hbl.trans ((hbz.trans (B3.mono hbz.size)).mono hbl.size)⟩
              case measure => simp [intOf]; omega
            all_goals
              have HS := Lib.hid (row_step HZ.out DA hdz dbn.1 dbn.2 x0 x1 HVZ.out)
              have p0 := HS.out.1
              have p1 := HS.out.2.1
              have dat := DA t
              have htm : t ≤ a.length := by
                by_cases g : a.length < t
                · have := hend g; omega
                · omega
              have hin : (n : Int) < (b.length : Int) := by omega
              have hin0 : (0 : Int) ≤ (n : Int) := by omega
              have ht1 : t ≤ 1000000 := by omega
              have hE : a.length < t + 1 → (x + dg a t * dg b n) / 1000 = 0 := fun g => by
                rw [show dg a t = 0 from getD_end a t (by omega)]; omega
              have HE2 := Lib.hid hE
              clear hend hE HE
              go_wp2_with fail
              have q1 : IntKind.i64.wrap (dg a t * dg b n) = dg a t * dg b n := IntWalk.i64_in _ (by omega)
              have q2 : IntKind.i64.wrap (x + dg a t * dg b n) = x + dg a t * dg b n := IntWalk.i64_in _ (by omega)
              go_quiet ((go_at_call 80; exact Calls.quiet_of_same (digit_same _ a _ _ SA2 (by omega) (by omega) (by omega))))
              clear q1 q2
              have hown4 : ∀ q, (wr.drewN q).ownsRow wo.heap.size 3 1 _ z.length (z.map (Value.int .i64)) := fun q => hown
              go_wp2_with (at_builtin; refine wpList_append_own _ rfl _ _ 91 rfl wo.heap.size 3 i0 (.int .i64 0) 1 8 Tryz.underlying91 hi hz0 hz1 hz2 rfl (by decide) _ _ _ rfl ((hown4 _).alloc _) ⟨wr.heap.size, 0, none⟩ 1 1 [.int .i64 ((x + dg a t * dg b n) % 1000)] rfl rfl ?c1 ?c2 ?c3 ?c4 ?c5 ?_)
              case c1 => exact cell_new _ _ _
              case c2 => exact int_cell _
              case c3 => unfold maxLen; omega
              case c4 => omega
              case c5 => have := hbz.size; simp; omega
              intro v' w4 hown' hgrow _
              have hb1 := ((below_drewN hbz _).alloc hbz.size (.cells #[.int .i64 ((x + dg a t * dg b n) % 1000)] 3)).grown hgrow (by have := hbz.size; simp; omega) (fun g hg => (hown.lt g hg).1)
              have ho := own_app hown'
              clear hown' hgrow hown hbz hown4
              go_wp2
              go_roundw
              case rel => exact ⟨z ++ [(x + dg a t * dg b n) % 1000], t + 1, (x + dg a t * dg b n) / 1000, rfl, by go_num, HS.out.2.2.2.1, HS.out.2.2.2.2.1, by omega, HE2.out, by have := HZ.out; show (z ++ [_]).length = n + (t + 1); simp; omega, ho, HS.out.2.2.1, HS.out.2.2.2.2.2, hb1⟩
              case measure => simp [intOf]; omega
    · have hnb' : n = b.length := by omega
      have hv := HV.out
      rw [hnb'] at hv
      have HN := Lib.hid hv
      clear hv HV hnb'
      go_wp2
      go_ret
      exact ⟨_, o, rfl, SO, hd, HN.out, by omega, hbl⟩
end Go.Proofs.YtelekchdbiimiaaGreat
namespace Go.Proofs.YtelekchdbiimiaaGreat
set_option linter.unusedVariables false
set_option maxRecDepth 100000
open Go.RowKit
/-- the product's digits, of two numbers: Times(Digits(p), Digits(n)) -/
theorem cmp3_le {x y : Int} (h : x ≤ y) : cmp3 x y ≤ 0 := by unfold cmp3; split <;> (try split) <;> omega
theorem cmp3_nle {x y : Int} (h : y < x) : ¬ cmp3 x y ≤ 0 := by rw [cmp3_gt h]; decide
theorem cmp3_neg {x y : Int} : decide (cmp3 x y < 0) = decide (x < y) := by
  apply decide_eq_decide.2
  unfold cmp3; split <;> (try split) <;> omega
/-- what Quot returns -/
def IsQuot (x n : Int) (w w' : World) (e : Ending) : Prop := e = .returned (.tuple #[.int .i64 (quotN x n), .bool (quotR x n), .bool (quotB x n)]) ∧ Below w.heap.size w w'
set_option maxHeartbeats 1600000 in
theorem quot_any (vx : Value) (x : List Int) (n : Int) (w : World) (SX : Seg w vx x) (DX : Dig x) (hx : x.length ≤ 100000) (n1 : 1 ≤ n) (n2 : n ≤ 9223372036854775807) :
    Calls Tryz.prog 118 #[vx, .int .i64 n] w fun e w' => IsQuot (dv x) n w w' e := by
  have x0 := dv_nonneg DX
  go_enter Tryz.func118, Tryz.ntmps118
  go_wp2
  go_loopw [7, 8] (fun qv bv wr => ∃ (q b : Int) (k : Nat), qv = .int .i64 q ∧ bv = .int .i64 b ∧ 0 ≤ b ∧ b ≤ 4611686018427387904 ∧ Hid (b = 2 ^ k / 2) ∧ Hid (Seek (dv x) n q k) ∧ Below w.heap.size w wr) (fun _ b _ => (intOf b).toNat)
  case atStart => exact ⟨0, _, 63, rfl, rfl, by decide, by decide, by show _ = _; decide, seek_start x0, Below.refl _ _⟩
  case round =>
    obtain ⟨q, b, k, rfl, rfl, b0, b1, HB, HS, hbl⟩ := hrel
    have SX1 := seg_below SX hbl
    have q0 : 0 ≤ q := HS.out.1
    cases k with
    | zero =>
      have hb := HB.out
      simp only [Int.pow_zero] at hb
      have hb0 : b = 0 := by omega
      clear HB hb b0 b1
      subst hb0
      have hq : q ≤ 9223372036854775807 := by have := HS.out.2.1; simp only [Int.pow_zero] at this; omega
      have HE := Lib.hid (seek_end n1 HS.out)
      clear HS
      go_wp2_with fail
      refine (digits_any _ _ (by omega) (by omega)).mono ?_
      rintro e w1 ⟨v1, l1, rfl, S1, D1, V1, L1, B1⟩
      have H1 := Lib.hid V1
      clear V1
      go_wp2_with fail
      refine (digits_any _ _ (by omega) (by omega)).mono ?_
      rintro e w2 ⟨v2, l2, rfl, S2, D2, V2, L2, B2⟩
      have H2 := Lib.hid V2
      clear V2
      go_wp2_with fail
      refine (times_any _ _ l1 l2 7 _ (seg_below S1 B2) S2 D1 D2 (by omega) (by omega) (by omega)).mono ?_
      rintro e w3 ⟨v3, l3, rfl, S3, D3, V3, L3, B3⟩
      have hv : dv l3 = q * n := by rw [V3, H1.out, H2.out]
      have H3 := Lib.hid hv
      clear V3 hv H1 H2
      go_wp2_with fail
      refine (digits_any _ _ (by omega) (by omega)).mono ?_
      rintro e w4 ⟨v4, l4, rfl, S4, D4, V4, L4, B4⟩
      have H4 := Lib.hid V4
      clear V4
      go_wp2_with fail
      refine (sum_any _ _ l3 l4 21 _ (seg_below S3 B4) S4 D3 D4 (by omega) (by omega) (by omega)).mono ?_
      rintro e w5 ⟨v5, l5, rfl, S5, D5, V5, L5, B5⟩
      have hv : dv l5 = q * n + n := by rw [V5, H3.out, H4.out]
      have H5 := Lib.hid hv
      clear V5 hv H4
      have SX3 := seg_below (seg_below (seg_below SX1 B1) B2) B3
      have SX5 := seg_below (seg_below SX3 B4) B5
      have S35 := seg_below (seg_below S3 B4) B5
      go_wp2_with fail
      refine (less_any _ _ l5 x _ S5 SX5 D5 DX (by omega) (by omega)).mono ?_
      rintro e w6 ⟨rfl, rfl⟩
      have z3 := Nat.le_trans B1.size B2.size
      have z4 := Nat.le_trans z3 B3.size
      have z5 := Nat.le_trans z4 B4.size
      have hb5 : Below w.heap.size w w5 := hbl.trans (((((B1.trans (B2.mono B1.size)).trans (B3.mono z3)).trans (B4.mono z4)).trans (B5.mono z5)).mono hbl.size)
      clear S1 S2 S3 S4 S5 SX3 B1 B2 B3 B4 B5 D1 D2 D4 D5 L1 L2 L4 L5 hbl SX1 z3 z4 z5
      by_cases hle : q * n + n ≤ dv x
      · have hc : cmp3 (dv l5) (dv x) ≤ 0 := cmp3_le (by rw [H5.out]; exact hle)
        have HF := Lib.hid (HE.out.1 hle)
        clear hle HE H5 H3
        go_wp2_with fail
        go_ret3
        refine ⟨?_, hb5⟩
        rw [HF.out.1, HF.out.2.1, HF.out.2.2]
        rfl
      · have hc : ¬ cmp3 (dv l5) (dv x) ≤ 0 := cmp3_nle (by rw [H5.out]; omega)
        have HF := Lib.hid (HE.out.2 (by omega))
        clear hle HE H5
        go_wp2_with fail
        refine (less_any _ _ l3 x _ S35 SX5 D3 DX (by omega) (by omega)).mono ?_
        rintro e w6 ⟨rfl, rfl⟩
        go_wp2_with fail
        go_ret3
        refine ⟨?_, hb5⟩
        rw [HF.out.1, HF.out.2.1, HF.out.2.2, ← H3.out, ← cmp3_neg (x := dv l3) (y := dv x)]
        rfl
    | succ k =>
      have hb : b = 2 ^ k := by have := HB.out; rw [two_succ] at this; omega
      have hbp : 1 ≤ b := by have := two_pos k; omega
      have hqb : q + b ≤ 9223372036854775807 := by have := HS.out.2.1; rw [two_succ] at this; omega
      have HB2 := Lib.hid hb
      clear hb HB
      go_wp2_with fail
      refine (digits_any _ _ (by omega) (by omega)).mono ?_
      rintro e w1 ⟨v1, l1, rfl, S1, D1, V1, L1, B1⟩
      have H1 := Lib.hid V1
      clear V1
      go_wp2_with fail
      refine (digits_any _ _ (by omega) (by omega)).mono ?_
      rintro e w2 ⟨v2, l2, rfl, S2, D2, V2, L2, B2⟩
      have H2 := Lib.hid V2
      clear V2
      go_wp2_with fail
      refine (times_any _ _ l1 l2 7 _ (seg_below S1 B2) S2 D1 D2 (by omega) (by omega) (by omega)).mono ?_
      rintro e w3 ⟨v3, l3, rfl, S3, D3, V3, L3, B3⟩
      have hv : dv l3 = (q + b) * n := by rw [V3, H1.out, H2.out]
      have H3 := Lib.hid hv
      clear V3 hv
      have SX3 := seg_below (seg_below (seg_below SX1 B1) B2) B3
      go_wp2_with fail
      refine (less_any _ _ l3 x _ S3 SX3 D3 DX (by omega) (by omega)).mono ?_
      rintro e w4 ⟨rfl, rfl⟩
      have hb4 : Below w.heap.size w w3 := hbl.trans (((B1.trans (B2.mono B1.size)).trans (B3.mono (Nat.le_trans B1.size B2.size))).mono hbl.size)
      clear S1 S2 S3 SX3 B1 B2 B3 D1 D2 D3 L1 L2 L3 hbl SX1
      have HN : Hid (b / 2 = 2 ^ k / 2) := by have := HB2.out; show _ = _; rw [this]
      by_cases hle : (q + b) * n ≤ dv x
      · have hc : cmp3 (dv l3) (dv x) ≤ 0 := cmp3_le (by rw [H3.out]; exact hle)
        have HK : Hid (Seek (dv x) n (q + b) k) := by have := seek_yes (k := k) (q := q) HS.out (by rw [← HB2.out]; exact hle); rw [← HB2.out] at this; exact this
        clear hle H3 H2 H1 HS HB2
        go_wp2_with fail
        go_roundw
        case rel => exact ⟨q + b, b / 2, k, rfl, rfl, by omega, by omega, HN, HK, hb4⟩
        case measure => simp [intOf]; omega
      · have hc : ¬ cmp3 (dv l3) (dv x) ≤ 0 := cmp3_nle (by rw [H3.out]; omega)
        have HK : Hid (Seek (dv x) n q k) := seek_no HS.out (by rw [← HB2.out]; omega)
        clear hle H3 H2 H1 HS HB2
        go_wp2_with fail
        go_roundw
        case rel => exact ⟨q, b / 2, k, rfl, rfl, by omega, by omega, HN, HK, hb4⟩
        case measure => simp [intOf]; omega
end Go.Proofs.YtelekchdbiimiaaGreat
namespace Go.Proofs.YtelekchdbiimiaaGreat
set_option linter.unusedVariables false
open Go.RowKit
theorem rfIs_any (n : Int) (w : World) : Calls Tryz.prog 41 #[.int .i64 n] w fun e w' => e = .returned (.bool (decide (0 ≤ n))) ∧ w = w' := by
  go_enter Tryz.func41, Tryz.ntmps41
  go_wp2
  go_ret
  exact ⟨rfl, rfl⟩
set_option maxHeartbeats 1600000 in
theorem rfPartUp_any (n m d : Int) (w : World) (N0 : -9223372036854775808 ≤ n) (N1 : n ≤ 9223372036854775807) (M0 : -9223372036854775808 ≤ m) (M1 : m ≤ 9223372036854775807) (D0 : -9223372036854775808 ≤ d) (D1 : d ≤ 9223372036854775807) :
    Calls Tryz.prog 74 #[.int .i64 n, .int .i64 m, .int .i64 d] w fun e w' => Ans2 (partUpN n m d) (partUpB n m d) w w' e := by
  rcases (show n < 0 ∨ (0 ≤ n ∧ m < 0) ∨ (0 ≤ n ∧ 0 ≤ m ∧ d < 1) ∨ (0 ≤ n ∧ 0 ≤ m ∧ 1 ≤ d) by omega) with h | h | h | h
  · have H := Lib.hid (partUp_none (n := n) (m := m) (d := d) (by unfold partC; omega))
    have hn : decide (0 ≤ n) = false := decide_eq_false (by omega)
    go_enter Tryz.func74, Tryz.ntmps74
    go_wp2
    go_ret2
    exact ans2 H.out (Below.refl _ _)
  · have H := Lib.hid (partUp_none (n := n) (m := m) (d := d) (by unfold partC; omega))
    obtain ⟨h1, h2⟩ := h
    have hn : decide (0 ≤ m) = false := decide_eq_false (by omega)
    go_enter Tryz.func74, Tryz.ntmps74
    go_wp2
    go_ret2
    exact ans2 H.out (Below.refl _ _)
  · have H := Lib.hid (partUp_none (n := n) (m := m) (d := d) (by unfold partC; omega))
    obtain ⟨h1, h2, h3⟩ := h
    go_enter Tryz.func74, Tryz.ntmps74
    go_wp2
    go_ret2
    exact ans2 H.out (Below.refl _ _)
  · obtain ⟨h1, h2, h3⟩ := h
    have H := Lib.hid (part_yes (n := n) (m := m) (d := d) ⟨h1, h2, h3⟩)
    have bd := part_bd n m d
    go_enter Tryz.func74, Tryz.ntmps74
    go_wp2_with (go_at_call 41; refine (rfIs_any _ _).mono ?_; rintro e w' ⟨rfl, rfl⟩)
    refine (digits_any _ _ (by omega) (by omega)).mono ?_
    rintro e w1 ⟨v1, l1, rfl, S1, D1, V1, L1, B1⟩
    have H1 := Lib.hid V1
    clear V1
    go_wp2_with fail
    refine (digits_any _ _ (by omega) (by omega)).mono ?_
    rintro e w2 ⟨v2, l2, rfl, S2, D2, V2, L2, B2⟩
    have H2 := Lib.hid V2
    clear V2
    go_wp2_with fail
    refine (times_any _ _ l1 l2 7 _ (seg_below S1 B2) S2 D1 D2 (by omega) (by omega) (by omega)).mono ?_
    rintro e w3 ⟨v3, l3, rfl, S3, D3, V3, L3, B3⟩
    have hv3 : dv l3 = n * m := by rw [V3, H1.out, H2.out]
    have H3 := Lib.hid hv3
    clear V3 hv3 H1 H2 S1 S2 D1 D2 L1 L2
    have Bt3 : Below w.heap.size w w3 := (B1.trans (B2.mono B1.size)).trans (B3.mono (Nat.le_trans B1.size B2.size))
    clear B1 B2 B3
    go_wp2_with fail
    refine (quot_any _ l3 _ _ S3 D3 (by omega) (by omega) (by omega)).mono ?_
    rintro e w4 ⟨he, B4⟩
    rw [H3.out, ← H.out.1, ← H.out.2.1, ← H.out.2.2] at he
    subst he
    have Bt4 := Bt3.trans (B4.mono Bt3.size)
    clear H H3 B4 Bt3 D3 S3 L3
    by_cases hr : partR n m d = true
    · have ho := part_rest hr
      by_cases hm : partN n m d = 9223372036854775807
      · have H := Lib.hid (partUp_max hr hm)
        have hm' : (partN n m d == 9223372036854775807) = true := by simp [hm]
        clear hm
        go_wp2_with fail
        go_ret2
        exact ans2 H.out Bt4
      · have H := Lib.hid (partUp_more hr (by omega))
        have hm' : (partN n m d == 9223372036854775807) = false := by simp [hm]
        have hm2 : partN n m d ≤ 9223372036854775806 := by omega
        go_wp2_with fail
        go_ret2
        exact ans2 H.out Bt4
    · have hr' : partR n m d = false := by simpa using hr
      have H := Lib.hid (partUp_flat hr')
      clear hr
      by_cases ho : partB n m d = true
      · go_wp2_with fail
        go_ret2
        exact ans2 (by rw [H.out.1, H.out.2, ho]; exact ⟨rfl, rfl⟩) Bt4
      · have ho' : partB n m d = false := by simpa using ho
        clear ho
        go_wp2_with fail
        go_ret2
        exact ans2 (by rw [H.out.1, H.out.2, ho']; exact ⟨rfl, rfl⟩) Bt4
set_option maxHeartbeats 800000 in
theorem rfPart_any (n m d : Int) (w : World) (N0 : -9223372036854775808 ≤ n) (N1 : n ≤ 9223372036854775807) (M0 : -9223372036854775808 ≤ m) (M1 : m ≤ 9223372036854775807) (D0 : -9223372036854775808 ≤ d) (D1 : d ≤ 9223372036854775807) :
    Calls Tryz.prog 73 #[.int .i64 n, .int .i64 m, .int .i64 d] w fun e w' => Ans2 (partN n m d) (partB n m d) w w' e := by
  rcases (show n < 0 ∨ (0 ≤ n ∧ m < 0) ∨ (0 ≤ n ∧ 0 ≤ m ∧ d < 1) ∨ (0 ≤ n ∧ 0 ≤ m ∧ 1 ≤ d) by omega) with h | h | h | h
  · have H := Lib.hid (part_no (n := n) (m := m) (d := d) (by unfold partC; omega))
    have hn : decide (0 ≤ n) = false := decide_eq_false (by omega)
    go_enter Tryz.func73, Tryz.ntmps73
    go_wp2
    go_ret2
    exact ans2 ⟨H.out.1, H.out.2.2⟩ (Below.refl _ _)
  · have H := Lib.hid (part_no (n := n) (m := m) (d := d) (by unfold partC; omega))
    obtain ⟨h1, h2⟩ := h
    have hn : decide (0 ≤ m) = false := decide_eq_false (by omega)
    go_enter Tryz.func73, Tryz.ntmps73
    go_wp2
    go_ret2
    exact ans2 ⟨H.out.1, H.out.2.2⟩ (Below.refl _ _)
  · have H := Lib.hid (part_no (n := n) (m := m) (d := d) (by unfold partC; omega))
    obtain ⟨h1, h2, h3⟩ := h
    go_enter Tryz.func73, Tryz.ntmps73
    go_wp2
    go_ret2
    exact ans2 ⟨H.out.1, H.out.2.2⟩ (Below.refl _ _)
  · obtain ⟨h1, h2, h3⟩ := h
    have H := Lib.hid (part_yes (n := n) (m := m) (d := d) ⟨h1, h2, h3⟩)
    go_enter Tryz.func73, Tryz.ntmps73
    go_wp2_with (go_at_call 41; refine (rfIs_any _ _).mono ?_; rintro e w' ⟨rfl, rfl⟩)
    refine (digits_any _ _ (by omega) (by omega)).mono ?_
    rintro e w1 ⟨v1, l1, rfl, S1, D1, V1, L1, B1⟩
    have H1 := Lib.hid V1
    clear V1
    go_wp2_with fail
    refine (digits_any _ _ (by omega) (by omega)).mono ?_
    rintro e w2 ⟨v2, l2, rfl, S2, D2, V2, L2, B2⟩
    have H2 := Lib.hid V2
    clear V2
    go_wp2_with fail
    refine (times_any _ _ l1 l2 7 _ (seg_below S1 B2) S2 D1 D2 (by omega) (by omega) (by omega)).mono ?_
    rintro e w3 ⟨v3, l3, rfl, S3, D3, V3, L3, B3⟩
    have hv3 : dv l3 = n * m := by rw [V3, H1.out, H2.out]
    have H3 := Lib.hid hv3
    clear V3 hv3 H1 H2 S1 S2 D1 D2 L1 L2
    have Bt3 : Below w.heap.size w w3 := (B1.trans (B2.mono B1.size)).trans (B3.mono (Nat.le_trans B1.size B2.size))
    clear B1 B2 B3
    go_wp2_with fail
    refine (quot_any _ l3 _ _ S3 D3 (by omega) (by omega) (by omega)).mono ?_
    rintro e w4 ⟨rfl, B4⟩
    go_wp2_with fail
    go_ret2
    exact ans2 (by rw [H.out.1, H.out.2.2, H3.out]; exact ⟨rfl, rfl⟩) (Bt3.trans (B4.mono Bt3.size))
end Go.Proofs.YtelekchdbiimiaaGreat
