/- The project's package tiles: whether nodes lie one behind the other, and whether one holds a value. -/
import Derived.Test.YtjmglihdndknjaaTi2
namespace Go.Proofs.Ytjmglihdndknjaa
set_option linter.unusedVariables false
open Go.RowKit

def Bds (T : List Int) : Prop := ∀ t ∈ T, -9223372036854775808 ≤ t ∧ t ≤ 9223372036854775807
theorem bds_at {T : List Int} (h : Bds T) {k : Nat} (hk : k < T.length) : -9223372036854775808 ≤ T.getD k 0 ∧ T.getD k 0 ≤ 9223372036854775807 := h _ (getD_mem hk)
theorem bds_nodes {l : Int} {T : List Int} (h : Nodes l T) : Bds T := fun t ht => by have := node_bd (h t ht); have := (h t ht).2; omega
set_option maxHeartbeats 1600000 in
theorem tRight_any (l : Int) (A : Option Addr) (n c : Nat) (ids : List Int) (w : World) (hA : IntsAt w (.slice A n c) ids) (hB : Bds ids) (hn : n ≤ 1000000) (L0 : -9223372036854775808 ≤ l) (L1 : l ≤ 9223372036854775807) :
    Calls Try.prog 16 #[.int .i64 l, .slice A n c] w fun e w' => e = .returned (.bool (ordF l 0 ids)) ∧ w = w' := by
  obtain ⟨hlen, hcells⟩ := ints_cells hA
  have HC := Lib.hid hcells
  have HL := Lib.hid hlen
  have HB := Lib.hid hB
  clear hcells hlen hA hB
  go_enter Try.func16, Try.ntmps16
  go_wp2_with fail
  go_loop [5, 13] (fun x i => ∃ (k : Nat) (z : Int), k ≤ n ∧ i = .int .i64 k ∧ x = .int .i64 z ∧ ordF l 0 ids = ordF l z (ids.drop k) ∧ 0 ≤ z ∧ z ≤ 281474976710656) (fun _ i => n - (intOf i).toNat)
  case atStart => exact ⟨0, 0, by omega, rfl, rfl, rfl, by omega, by omega⟩
  case round =>
    obtain ⟨k, z, hk, rfl, rfl, hord, z0, z1⟩ := hrel
    have HO := Lib.hid hord
    clear hord
    by_cases hlt : k < n
    · have hk2 : k < ids.length := by have := HL.out; omega
      obtain ⟨b, o, rfl, hbl, hcell⟩ := HC.out (by omega)
      have hck : w.cell? ⟨b, o + k, none⟩ = some (.int .i64 (ids.getD k 0)) := hcell k hk2
      have hbd := bds_at HB.out hk2
      have hdr := Lib.hid (drop_at hk2)
      clear hcell
      generalize ids.getD k 0 = t at *
      have he := end_bd l t hbd.2
      by_cases hen : endB l t = true
      · by_cases hz : loN l t < z
        · have HF := Lib.hid (ordF_no (l := l) (nx := z) (t := t) (T := ids.drop (k + 1)) (.inr hz))
          go_wp2_with (go_at_call 22; refine (ends_any _ _ _ (by omega) (by omega) (by omega) (by omega)).mono ?_; rintro e w1 ⟨rfl, rfl⟩)
          go_ret
          exact ⟨by rw [HO.out, hdr.out, HF.out]; rfl, rfl⟩
        · have hz' : z ≤ loN l t := by omega
          have HF := Lib.hid (ordF_go (l := l) (nx := z) (t := t) (T := ids.drop (k + 1)) hen hz')
          clear hz
          go_wp2_with (go_at_call 22; refine (ends_any _ _ _ (by omega) (by omega) (by omega) (by omega)).mono ?_; rintro e w1 ⟨rfl, rfl⟩)
          go_round
          case rel => exact ⟨k + 1, _, by omega, by go_num, rfl, by rw [HO.out, hdr.out, HF.out], by omega, by omega⟩
          case measure => simp [intOf]; omega
      · have hen' : endB l t = false := by simpa using hen
        have HF := Lib.hid (ordF_no (l := l) (nx := z) (t := t) (T := ids.drop (k + 1)) (.inl hen'))
        clear hen
        go_wp2_with (go_at_call 22; refine (ends_any _ _ _ (by omega) (by omega) (by omega) (by omega)).mono ?_; rintro e w1 ⟨rfl, rfl⟩)
        go_ret
        exact ⟨by rw [HO.out, hdr.out, HF.out]; rfl, rfl⟩
    · have hd : Hid (ids.drop k = []) := List.drop_eq_nil_of_le (by have := HL.out; omega)
      go_wp2_with (go_at_call 35; refine (tUniverse_any _ _ (by omega) (by omega)).mono ?_; rintro e w1 ⟨rfl, rfl⟩)
      go_ret
      exact ⟨by rw [HO.out, hd]; rfl, rfl⟩
def holdsB (l : Int) (T : List Int) (x : Int) : Bool := T.all (fun t => endB l t) && heldB l T x
theorem holds_not {l x : Int} {T : List Int} {t : Int} (ht : t ∈ T) (h : endB l t = false) : holdsB l T x = false := by
  have : T.all (fun t => endB l t) = false := by
    rw [List.all_eq_false]; exact ⟨t, ht, by simp [h]⟩
  simp [holdsB, this]
theorem heldB_snoc (l : Int) (T : List Int) (t x : Int) : heldB l (T ++ [t]) x = (heldB l T x || (decide (loN l t ≤ x) && decide (x ≤ hiN l t))) := by
  simp [heldB]
theorem all_snoc {l : Int} {T : List Int} {t : Int} (h : T.all (fun t => endB l t) = true) (ht : endB l t = true) : (T ++ [t]).all (fun t => endB l t) = true := by
  simp [h, ht]
set_option maxHeartbeats 1600000 in
theorem tHolds_any (l : Int) (A : Option Addr) (n c : Nat) (ids : List Int) (x : Int) (w : World) (hA : IntsAt w (.slice A n c) ids) (hB : Bds ids) (hn : n ≤ 1000000) (L0 : -9223372036854775808 ≤ l) (L1 : l ≤ 9223372036854775807) :
    Calls Try.prog 20 #[.int .i64 l, .slice A n c, .int .i64 x] w fun e w' => e = .returned (.bool (holdsB l ids x)) ∧ w = w' := by
  obtain ⟨hlen, hcells⟩ := ints_cells hA
  have HC := Lib.hid hcells
  have HL := Lib.hid hlen
  have HB := Lib.hid hB
  clear hcells hlen hA hB
  go_enter Try.func20, Try.ntmps20
  go_wp2_with fail
  go_loop [7, 15] (fun y i => ∃ (k : Nat) (z : Bool), k ≤ n ∧ i = .int .i64 k ∧ y = .bool z ∧ heldB l (ids.take k) x = z ∧ (ids.take k).all (fun t => endB l t) = true) (fun _ i => n - (intOf i).toNat)
  case atStart => exact ⟨0, false, by omega, rfl, rfl, rfl, rfl⟩
  case round =>
    obtain ⟨k, z, hk, rfl, rfl, hheld, hall⟩ := hrel
    have HH := Lib.hid hheld
    have HA := Lib.hid hall
    clear hheld hall
    by_cases hlt : k < n
    · have hk2 : k < ids.length := by have := HL.out; omega
      obtain ⟨b, o, rfl, hbl, hcell⟩ := HC.out (by omega)
      have hck : w.cell? ⟨b, o + k, none⟩ = some (.int .i64 (ids.getD k 0)) := hcell k hk2
      have hbd := bds_at HB.out hk2
      have hmem := Lib.hid (getD_mem hk2)
      have htk := Lib.hid (take_at hk2)
      clear hcell
      generalize ids.getD k 0 = t at *
      by_cases hen : endB l t = true
      · have HS := Lib.hid (heldB_snoc l (ids.take k) t x)
        have HE := Lib.hid (all_snoc HA.out hen)
        cases z
        · rcases (show x < loN l t ∨ (loN l t ≤ x ∧ hiN l t < x) ∨ (loN l t ≤ x ∧ x ≤ hiN l t) by omega) with q | ⟨q, q2⟩ | ⟨q, q2⟩
          · go_wp2_with (go_at_call 22; refine (ends_any _ _ _ (by omega) (by omega) (by omega) (by omega)).mono ?_; rintro e w1 ⟨rfl, rfl⟩)
            go_round
            case rel => exact ⟨k + 1, false, by omega, by go_num, by first | rfl | (congr 1; exact decide_eq_false (by omega)), by rw [htk.out, HS.out, HH.out, decide_eq_false (by omega)]; rfl, by rw [htk.out]; exact HE.out⟩
            case measure => simp [intOf]; omega
          · go_wp2_with (go_at_call 22; refine (ends_any _ _ _ (by omega) (by omega) (by omega) (by omega)).mono ?_; rintro e w1 ⟨rfl, rfl⟩)
            go_round
            case rel => exact ⟨k + 1, false, by omega, by go_num, by first | rfl | (congr 1; exact decide_eq_false (by omega)), by rw [htk.out, HS.out, HH.out, decide_eq_false (show ¬ x ≤ hiN l t by omega)]; simp, by rw [htk.out]; exact HE.out⟩
            case measure => simp [intOf]; omega
          · go_wp2_with (go_at_call 22; refine (ends_any _ _ _ (by omega) (by omega) (by omega) (by omega)).mono ?_; rintro e w1 ⟨rfl, rfl⟩)
            go_round
            case rel => exact ⟨k + 1, true, by omega, by go_num, by first | rfl | (congr 1; exact decide_eq_true (by omega)), by rw [htk.out, HS.out, HH.out, decide_eq_true q, decide_eq_true q2]; rfl, by rw [htk.out]; exact HE.out⟩
            case measure => simp [intOf]; omega
        · go_wp2_with (go_at_call 22; refine (ends_any _ _ _ (by omega) (by omega) (by omega) (by omega)).mono ?_; rintro e w1 ⟨rfl, rfl⟩)
          go_round
          case rel => exact ⟨k + 1, true, by omega, by go_num, rfl, by rw [htk.out, HS.out, HH.out]; rfl, by rw [htk.out]; exact HE.out⟩
          case measure => simp [intOf]; omega
      · have hen' : endB l t = false := by simpa using hen
        have HF := Lib.hid (holds_not (x := x) hmem.out hen')
        clear hen
        go_wp2_with (go_at_call 22; refine (ends_any _ _ _ (by omega) (by omega) (by omega) (by omega)).mono ?_; rintro e w1 ⟨rfl, rfl⟩)
        go_ret
        exact ⟨by rw [HF.out]; rfl, rfl⟩
    · have hd : Hid (ids.take k = ids) := List.take_of_length_le (by have := HL.out; omega)
      go_wp2_with fail
      go_ret
      refine ⟨ret_b ?_, rfl⟩
      have a1 := HA.out
      have a2 := HH.out
      rw [hd] at a1 a2
      unfold holdsB
      rw [a1, a2]; rfl

end Go.Proofs.Ytjmglihdndknjaa
