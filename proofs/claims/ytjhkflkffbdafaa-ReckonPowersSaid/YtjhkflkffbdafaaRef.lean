/- The document's answer for layer reckon, its means: digit, Sum, Digits, Times, Less, Quot, Bits: each returns what the plain numbers say, and nothing that was there before is changed. -/
import Derived.Test.YtjhkflkffbdafaaRows
import Derived.Test.YtjhkflkffbdafaaMem
import Derived.WalkKit
import Derived.WalkSpells
import Derived.WalkLawsBesides
import Derived.Lib.Hide
import Derived.Deep.QuietTactic
import Derived.BigQuiet
namespace Go.Proofs.Ytjhkflkffbdafaa
set_option linter.unusedVariables false
open Go.RowKit

theorem Try.info3 : (Try.prog.info? 3).map (fun i => (i.zero, i.size, i.bytes)) = some (some (.int .i64 0), 1, 8) := by kernel_rfl

set_option maxHeartbeats 400000 in
theorem digit_any (v : Value) (l : List Int) (i : Int) (w : World) (h : Seg w v l) (hl : l.length ≤ 1000000) (h0 : 0 ≤ i) (h1 : i ≤ 1000000) :
    Calls Try.prog 50 #[v, .int .i64 i] w fun e w' => e = .returned (.int .i64 (dg l i.toNat)) ∧ w = w' := by
  obtain ⟨A, c, rfl, hc⟩ := h
  by_cases hi : i < l.length
  · obtain ⟨b, o, rfl, _, hk⟩ := hc (by omega)
    have hcell := hk i.toNat (by omega)
    clear hk hc
    go_enter Try.func50, Try.ntmps50
    go_wp2
    go_ret
    exact ⟨ret_i (by simp [dg, List.getD_eq_getElem?_getD, List.getElem?_eq_getElem (show i.toNat < l.length by omega)]), rfl⟩
  · have hz : dg l i.toNat = 0 := getD_end l _ (by omega)
    rw [hz]
    clear hc hz
    go_enter Try.func50, Try.ntmps50
    go_wp2
    go_ret
    exact ⟨rfl, rfl⟩

/-- a new slice: it reads as a list of digits of this worth, and is no longer than this; nothing that was there is changed -/
def NewDigs (w w' : World) (e : Ending) (x : Int) (m : Nat) : Prop :=
  ∃ v l, e = .returned v ∧ Seg w' v l ∧ Dig l ∧ dv l = x ∧ l.length ≤ m ∧ Below w.heap.size w w'

set_option maxHeartbeats 800000 in
theorem digits_any (n : Int) (w : World) (h0 : 0 ≤ n) (h1 : n ≤ 9223372036854775807) :
    Calls Try.prog 44 #[.int .i64 n] w fun e w' => NewDigs w w' e n 7 := by
  obtain ⟨i0, hi, hz0, hz1, hz2⟩ := info_parts Try.info3
  go_enter Try.func44, Try.ntmps44
  go_wp2
  go_loopw [0, 3] (fun m v wr => ∃ (l : List Int) (k : Int), m = .int .i64 k ∧ 0 ≤ k ∧ k ≤ 9223372036854775807 ∧ wr.ownsRow w.heap.size 3 1 v l.length (l.map (Value.int .i64)) ∧ Dig l ∧ l.length ≤ 7 ∧ Hid (dv l + k * 1000 ^ l.length = n) ∧ Below w.heap.size w wr) (fun m _ _ => (intOf m).toNat)
  case atStart => exact ⟨[], n, rfl, h0, h1, World.ownsRow_nil _ _ _ _, dig_nil, by simp, by show dv [] + n * 1000 ^ 0 = n; simp [dv, dt], Below.refl _ _⟩
  case round =>
    obtain ⟨l, k, rfl, k0, k1, hown, hd, hlen, HV, hb⟩ := hrel
    by_cases hk : 0 < k
    · have hl6 := digs_len hd hk h1 HV.out
      have hS := digs_step hd k0 HV.out
      have HS := Lib.hid hS
      clear hS
      go_wp2_with (at_builtin; refine wpList_append_own _ rfl _ _ 37 rfl w.heap.size 3 i0 (.int .i64 0) 1 8 Try.underlying37 hi hz0 hz1 hz2 rfl (by decide) _ _ _ rfl (hown.alloc _) ⟨wr.heap.size, 0, none⟩ 1 1 [.int .i64 (k % 1000)] rfl rfl ?c1 ?c2 ?c3 ?c4 ?c5 ?_)
      case c1 => exact cell_new _ _ _
      case c2 => exact int_cell _
      case c3 => unfold maxLen; omega
      case c4 => omega
      case c5 => have := hb.size; simp; omega
      intro v' w1 hown' hgrow _
      have hb1 := (hb.alloc hb.size (.cells #[.int .i64 (k % 1000)] 3)).grown hgrow (by have := hb.size; simp; omega) (fun g hg => (hown.lt g hg).1)
      have ho := own_app hown'
      clear hown' hgrow hown hb
      go_wp2
      go_roundw
      case rel => exact ⟨l ++ [k % 1000], k / 1000, rfl, by omega, by omega, ho, HS.out.1, by simp; omega, HS.out.2, hb1⟩
      case measure => simp [intOf]; omega
    · have hk0 : k = 0 := by omega
      have hv := HV.out
      subst hk0
      clear HV
      go_wp2
      go_ret
      exact ⟨_, l, rfl, seg_own hown, hd, by simpa using hv, hlen, hb⟩

set_option maxHeartbeats 800000 in
theorem sum_any (va vb : Value) (a b : List Int) (m : Nat) (w : World) (SA : Seg w va a) (SB : Seg w vb b) (DA : Dig a) (DB : Dig b) (ha : a.length ≤ m) (hb : b.length ≤ m) (hm : m ≤ 900000) :
    Calls Try.prog 49 #[va, vb] w fun e w' => NewDigs w w' e (dv a + dv b) (m + 1) := by
  obtain ⟨i0, hi, hz0, hz1, hz2⟩ := info_parts Try.info3
  have SA0 := SA
  have SB0 := SB
  obtain ⟨A, ca, rfl, -⟩ := SA0
  obtain ⟨B, cb, rfl, -⟩ := SB0
  go_enter Try.func49, Try.ntmps49
  go_wp2
  go_loopw [5, 6, 7] (fun v c i wr => ∃ (o : List Int) (k : Nat) (x : Int), c = .int .i64 x ∧ i = .int .i64 k ∧ 0 ≤ x ∧ x ≤ 1 ∧ k ≤ m + 1 ∧ Hid (a.length < k ∧ b.length < k → x = 0) ∧ Hid (o.length = k) ∧
      wr.ownsRow w.heap.size 3 1 v o.length (o.map (Value.int .i64)) ∧ Dig o ∧ Hid (dv o + x * 1000 ^ k = dt a k + dt b k) ∧ Below w.heap.size w wr) (fun _ _ i _ => (m + 1 - (intOf i).toNat))
  case atStart => exact ⟨[], 0, 0, rfl, rfl, by decide, by decide, by omega, fun _ => rfl, rfl, World.ownsRow_nil _ _ _ _, dig_nil, by show dv [] + 0 * 1000 ^ 0 = dt a 0 + dt b 0; simp [dv, dt], Below.refl _ _⟩
  case round =>
    obtain ⟨o, k, x, rfl, rfl, x0, x1, hkm, HE, HO, hown, hd, HV, hbl⟩ := hrel
    have SA1 := seg_below SA hbl
    have SB1 := seg_below SB hbl
    have da := DA k
    have db := DB k
    have hlo : o.length ≤ m + 1 := by have := HO.out; omega
    have HS := Lib.hid (sum_step HO.out DA DB hd x0 x1 HV.out)
    have hend := HE.out
    rcases (show (a.length ≤ k ∧ b.length ≤ k ∧ x = 0) ∨ k < a.length ∨ (a.length ≤ k ∧ k < b.length) ∨ (a.length ≤ k ∧ b.length ≤ k ∧ 0 < x) by omega) with h | h | h | h
    · obtain ⟨h1, h2, rfl⟩ := h
      have hv := HV.out
      rw [dt_end a k h1, dt_end b k h2] at hv
      clear hend HE HS HV SA1 SB1 SA SB da db
      go_wp2
      go_ret
      exact ⟨_, o, rfl, seg_own hown, hd, by simpa using hv, hlo, hbl⟩
    all_goals
      have hkm' : k ≤ m := by omega
      have hE : a.length < k + 1 ∧ b.length < k + 1 → (x + dg a k + dg b k) / 1000 = 0 := fun g => by
        rw [show dg a k = 0 from getD_end a k (by omega), show dg b k = 0 from getD_end b k (by omega)]; omega
      have HE2 := Lib.hid hE
      clear hend hE HE
      go_wp2_with (first
        | (go_at_call 50; ((with_reducible refine (digit_any _ a _ _ SA1 (by omega) (by omega) (by omega)).mono ?_); rintro e w' ⟨rfl, rfl⟩))
        | (go_at_call 50; ((with_reducible refine (digit_any _ b _ _ SB1 (by omega) (by omega) (by omega)).mono ?_); rintro e w' ⟨rfl, rfl⟩))
        | (at_builtin; refine wpList_append_own _ rfl _ _ 37 rfl w.heap.size 3 i0 (.int .i64 0) 1 8 Try.underlying37 hi hz0 hz1 hz2 rfl (by decide) _ _ _ rfl (hown.alloc _) ⟨wr.heap.size, 0, none⟩ 1 1 [.int .i64 ((x + dg a k + dg b k) % 1000)] rfl rfl ?c1 ?c2 ?c3 ?c4 ?c5 ?_))
      case c1 => exact cell_new _ _ _
      case c2 => exact int_cell _
      case c3 => unfold maxLen; omega
      case c4 => omega
      case c5 => have := hbl.size; simp; omega
      intro v' w1 hown' hgrow _
      have hb1 := (hbl.alloc hbl.size (.cells #[.int .i64 ((x + dg a k + dg b k) % 1000)] 3)).grown hgrow (by have := hbl.size; simp; omega) (fun g hg => (hown.lt g hg).1)
      have ho := own_app hown'
      clear hown' hgrow hown hbl
      go_wp2
      go_roundw
      case rel => exact ⟨o ++ [(x + dg a k + dg b k) % 1000], k + 1, (x + dg a k + dg b k) / 1000, rfl, by go_num, HS.out.2.1, HS.out.2.2.1, by omega, HE2.out, by have := HO.out; show (o ++ [_]).length = k + 1; simp; exact this, ho, HS.out.1, HS.out.2.2.2, hb1⟩
      case measure => simp [intOf]; omega

set_option maxHeartbeats 800000 in
theorem less_any (va vb : Value) (a b : List Int) (w : World) (SA : Seg w va a) (SB : Seg w vb b) (DA : Dig a) (DB : Dig b) (ha : a.length ≤ 900000) (hb : b.length ≤ 900000) :
    Calls Try.prog 34 #[va, vb] w fun e w' => e = .returned (.int .i64 (cmp3 (dv a) (dv b))) ∧ w = w' := by
  have SA0 := SA
  have SB0 := SB
  obtain ⟨A, ca, rfl, -⟩ := SA0
  obtain ⟨B, cb, rfl, -⟩ := SB0
  by_cases hab : (a.length : Int) < b.length
  all_goals
    go_enter Try.func34, Try.ntmps34
    go_wp2
    go_loop [6] (fun i => ∃ j : Int, i = .int .i64 j ∧ -1 ≤ j ∧ j ≤ 900000 ∧ Hid (dv a - dt a (j + 1).toNat = dv b - dt b (j + 1).toNat)) (fun i => (intOf i + 1).toNat)
    case atStart =>
      refine ⟨_, rfl, by omega, by omega, ?_⟩
      show _ = _
      rw [dt_end a _ (by omega), dt_end b _ (by omega)]; omega
    case round =>
      obtain ⟨j, rfl, j0, j1, HV⟩ := hrel
      by_cases hj : 0 ≤ j
      · have e : (j + 1).toNat = j.toNat + 1 := by omega
        have hv := HV.out
        rw [e] at hv
        rcases (show dg a j.toNat < dg b j.toNat ∨ (¬ dg a j.toNat < dg b j.toNat ∧ dg b j.toNat < dg a j.toNat) ∨ (¬ dg a j.toNat < dg b j.toNat ∧ ¬ dg b j.toNat < dg a j.toNat) by omega) with h | h | h
        · have HF := Lib.hid (cmp3_lt (show dv a < dv b by have := dt_lt DA DB _ h; omega))
          clear hv HV e
          go_wp2_with (first
            | (go_at_call 50; ((with_reducible refine (digit_any _ a _ _ SA (by omega) (by omega) (by omega)).mono ?_); rintro e w' ⟨rfl, rfl⟩))
            | (go_at_call 50; ((with_reducible refine (digit_any _ b _ _ SB (by omega) (by omega) (by omega)).mono ?_); rintro e w' ⟨rfl, rfl⟩)))
          go_ret
          exact ⟨ret_i HF.out.symm, rfl⟩
        · have HF := Lib.hid (cmp3_gt (show dv b < dv a by have := dt_lt DB DA _ h.2; omega))
          clear hv HV e
          go_wp2_with (first
            | (go_at_call 50; ((with_reducible refine (digit_any _ a _ _ SA (by omega) (by omega) (by omega)).mono ?_); rintro e w' ⟨rfl, rfl⟩))
            | (go_at_call 50; ((with_reducible refine (digit_any _ b _ _ SB (by omega) (by omega) (by omega)).mono ?_); rintro e w' ⟨rfl, rfl⟩)))
          go_ret
          exact ⟨ret_i HF.out.symm, rfl⟩
        · have hn : dv a - dt a (j - 1 + 1).toNat = dv b - dt b (j - 1 + 1).toNat := by
            rw [show (j - 1 + 1).toNat = j.toNat by omega]
            have e3 : dg a j.toNat = dg b j.toNat := by omega
            rw [dt, dt, e3] at hv; omega
          have HN := Lib.hid hn
          clear hv HV e hn
          go_wp2_with (first
            | (go_at_call 50; ((with_reducible refine (digit_any _ a _ _ SA (by omega) (by omega) (by omega)).mono ?_); rintro e w' ⟨rfl, rfl⟩))
            | (go_at_call 50; ((with_reducible refine (digit_any _ b _ _ SB (by omega) (by omega) (by omega)).mono ?_); rintro e w' ⟨rfl, rfl⟩)))
          go_round
          case rel => exact ⟨j - 1, rfl, by omega, by omega, HN.out⟩
          case measure => simp [intOf]; omega
      · have hz : dv a = dv b := by
          have hv := HV.out
          rw [show (j + 1).toNat = 0 by omega] at hv
          simpa [dt] using hv
        have HF := Lib.hid (cmp3_eq hz)
        clear HV hz
        go_wp2_with fail
        go_ret
        exact ⟨ret_i HF.out.symm, rfl⟩

end Go.Proofs.Ytjhkflkffbdafaa
