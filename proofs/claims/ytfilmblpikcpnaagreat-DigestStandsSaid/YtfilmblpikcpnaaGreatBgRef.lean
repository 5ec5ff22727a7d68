/- The document's answers of package dewpondref10: Total, Between, Rank, SameItems, Same. -/
import Derived.Test.YtfilmblpikcpnaaGreatBg
import Derived.Test.YtfilmblpikcpnaaGreatBg2
import Derived.Test.YtfilmblpikcpnaaGreatBg4
import Derived.Test.YtfilmblpikcpnaaGreatBgNum2
import Derived.Test.YtfilmblpikcpnaaGreatDrQ
import Derived.Test.YtfilmblpikcpnaaGreatRrQ
namespace Go.Proofs.YtfilmblpikcpnaaGreat
set_option linter.unusedVariables false
set_option maxRecDepth 100000
open Go.RowKit
attribute [local go_sem ↓] Go.wp_at_zero Go.wp_at_succ

set_option maxHeartbeats 1600000 in
theorem rgTotal_any (l : Int) (A : Option Addr) (n c : Nat) (L : List Nd) (w : World) (h : NodesAt w (.slice A n c) L) (hN : NonNeg L) (hT : sumC L ≤ 72057594037927935) (hn : n ≤ 1000000) :
    Calls Tryz.prog 31 #[.agg #[.int .i64 l, .slice A n c]] w fun e w' => e = .returned (.int .i64 (sumC L)) ∧ Below w.heap.size w w' := by
  have hb0 : Below w.heap.size w (w.alloc (.cells #[.int .i64 l, .slice A n c] 55)) := (Below.refl _ _).alloc (Nat.le_refl _) _
  obtain ⟨hlen, hlc, hcm, hat⟩ := nodes_cells (h.below hb0)
  have HL := Lib.hid hlen
  have HA := Lib.hid hat
  have HN := Lib.hid hN
  have HT := Lib.hid hT
  have HB := Lib.hid hb0
  have x1 : (w.alloc (.cells #[.int .i64 l, .slice A n c] 55)).cell? ⟨w.heap.size, 1, none⟩ = some (.slice A n c) := by simp
  clear hlen hat h hlc hcm hN hT hb0
  go_enter Tryz.func31, Tryz.ntmps31
  go_wp2_with fail
  generalize w.alloc (.cells #[.int .i64 l, .slice A n c] 55) = W at *
  go_loop [3, 4] (fun t i => ∃ k : Nat, k ≤ n ∧ i = .int .i64 k ∧ t = .int .i64 (sumC (L.take k))) (fun _ i => n - (intOf i).toNat)
  case atStart => exact ⟨0, by omega, rfl, rfl⟩
  case round =>
    obtain ⟨k, hk, rfl, rfl⟩ := hrel
    have t0 : 0 ≤ sumC (L.take k) := sumC_nonneg fun m hm => HN.out m (List.mem_of_mem_take hm)
    have t1 : sumC (L.take k) ≤ 72057594037927935 := by have := sum_take_le HN.out k; have := HT.out; omega
    by_cases hlt : k < n
    · have hk2 : k < L.length := by have := HL.out; omega
      obtain ⟨b, o, rfl, hin⟩ := HA.out (by omega)
      obtain ⟨e0, e1⟩ := hin.2 k hk2
      have hst := Lib.hid (sum_take_step hk2)
      have h0 := HN.out _ (nd_mem hk2)
      have h1 : (L.getD k nz).2 ≤ 72057594037927935 := by have := sumC_mem HN.out (nd_mem hk2); have := HT.out; omega
      clear hin
      generalize L.getD k nz = r at *
      obtain ⟨id, x⟩ := r
      simp only at e0 e1 h0 h1
      generalize hT2 : sumC (L.take k) = T at *
      have HT2 := Lib.hid hT2
      clear hT2
      go_wp2_with fail
      go_round
      case rel => exact ⟨k + 1, by omega, by go_num, by rw [hst.out]⟩
      case measure => simp [intOf]; omega
    · have hd : Hid (L.take k = L) := List.take_of_length_le (by have := HL.out; omega)
      go_wp2_with fail
      go_ret
      exact ⟨ret_n (by rw [hd]), HB.out⟩
theorem bet_step {L : List Nd} {k : Nat} (hk : k < L.length) (x y : Int) : betN (L.take (k + 1)) x y = betN (L.take k) x y + (if x ≤ (L.getD k nz).1 ∧ (L.getD k nz).1 ≤ y then (L.getD k nz).2 else 0) := by
  rw [nd_take hk, bet_app]; simp [betN]
set_option maxHeartbeats 1600000 in
theorem rgBetween_any (l x y : Int) (A : Option Addr) (n c : Nat) (L : List Nd) (w : World) (h : NodesAt w (.slice A n c) L) (hN : NonNeg L) (hT : sumC L ≤ 72057594037927935) (hn : n ≤ 1000000) :
    Calls Tryz.prog 28 #[.agg #[.int .i64 l, .slice A n c], .int .i64 x, .int .i64 y] w fun e w' => e = .returned (.int .i64 (betN L x y)) ∧ Below w.heap.size w w' := by
  have hb0 : Below w.heap.size w (w.alloc (.cells #[.int .i64 l, .slice A n c] 55)) := (Below.refl _ _).alloc (Nat.le_refl _) _
  obtain ⟨hlen, hlc, hcm, hat⟩ := nodes_cells (h.below hb0)
  have HL := Lib.hid hlen
  have HA := Lib.hid hat
  have HN := Lib.hid hN
  have HT := Lib.hid hT
  have HB := Lib.hid hb0
  have x1 : (w.alloc (.cells #[.int .i64 l, .slice A n c] 55)).cell? ⟨w.heap.size, 1, none⟩ = some (.slice A n c) := by simp
  clear hlen hat h hlc hcm hN hT hb0
  go_enter Tryz.func28, Tryz.ntmps28
  go_wp2_with fail
  generalize w.alloc (.cells #[.int .i64 l, .slice A n c] 55) = W at *
  go_loop [7, 8] (fun t i => ∃ k : Nat, k ≤ n ∧ i = .int .i64 k ∧ t = .int .i64 (betN (L.take k) x y)) (fun _ i => n - (intOf i).toNat)
  case atStart => exact ⟨0, by omega, rfl, rfl⟩
  case round =>
    obtain ⟨k, hk, rfl, rfl⟩ := hrel
    have tb := bet_bd (L := L.take k) (fun m hm => HN.out m (List.mem_of_mem_take hm)) x y
    have t1 : sumC (L.take k) ≤ 72057594037927935 := by have := sum_take_le HN.out k; have := HT.out; omega
    by_cases hlt : k < n
    · have hk2 : k < L.length := by have := HL.out; omega
      obtain ⟨b, o, rfl, hin⟩ := HA.out (by omega)
      obtain ⟨e0, e1⟩ := hin.2 k hk2
      have hst := Lib.hid (bet_step hk2 x y)
      have h0 := HN.out _ (nd_mem hk2)
      have h1 : (L.getD k nz).2 ≤ 72057594037927935 := by have := sumC_mem HN.out (nd_mem hk2); have := HT.out; omega
      clear hin
      generalize L.getD k nz = r at *
      obtain ⟨id, z⟩ := r
      simp only at e0 e1 h0 h1
      generalize sumC (L.take k) = S at *
      generalize hT2 : betN (L.take k) x y = T at *
      have HT2 := Lib.hid hT2
      clear hT2
      by_cases q1 : x ≤ id
      · by_cases q2 : id ≤ y
        · have hs : Hid (betN (L.take (k + 1)) x y = T + z) := by show _ = _; rw [hst.out, if_pos ⟨q1, q2⟩]
          go_wp2_with fail
          go_round
          case rel => exact ⟨k + 1, by omega, by go_num, by rw [hs.out]⟩
          case measure => simp [intOf]; omega
        · have hs : Hid (betN (L.take (k + 1)) x y = T) := by show _ = _; rw [hst.out, if_neg (fun g => q2 g.2)]; omega
          go_wp2_with fail
          go_round
          case rel => exact ⟨k + 1, by omega, by go_num, by rw [hs.out]⟩
          case measure => simp [intOf]; omega
      · have hs : Hid (betN (L.take (k + 1)) x y = T) := by show _ = _; rw [hst.out, if_neg (fun g => q1 g.1)]; omega
        go_wp2_with fail
        go_round
        case rel => exact ⟨k + 1, by omega, by go_num, by rw [hs.out]⟩
        case measure => simp [intOf]; omega
    · have hd : Hid (L.take k = L) := List.take_of_length_le (by have := HL.out; omega)
      go_wp2_with fail
      go_ret
      exact ⟨ret_n (by rw [hd]), HB.out⟩
end Go.Proofs.YtfilmblpikcpnaaGreat
