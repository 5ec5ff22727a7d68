/- The document's answers of package dewpondref05: Right, Holds, Count. -/
import Derived.Test.YtjmglihdndknjaaTiRef5
namespace Go.Proofs.Ytjmglihdndknjaa
set_option linter.unusedVariables false
open Go.RowKit

set_option maxHeartbeats 1600000 in
theorem r5right_any (l : Int) (A : Option Addr) (n c : Nat) (ids : List Int) (w : World) (hA : IntsAt w (.slice A n c) ids) (hB : Bds ids) (hn : n ≤ 1000000) (L0 : -9223372036854775808 ≤ l) (L1 : l ≤ 9223372036854775807) :
    Calls Try.prog 17 #[.int .i64 l, .slice A n c] w fun e w' => e = .returned (.bool (ordF l 0 ids)) ∧ w = w' := by
  obtain ⟨hlen, hcells⟩ := ints_cells hA
  have HC := Lib.hid hcells
  have HL := Lib.hid hlen
  have HB := Lib.hid hB
  clear hcells hlen hA hB
  go_enter Try.func17, Try.ntmps17
  go_wp2_with fail
  go_loop [5, 6] (fun x i => ∃ (k : Nat) (z : Int), k ≤ n ∧ i = .int .i64 k ∧ x = .int .i64 z ∧ ordF l 0 ids = ordF l (z + 1) (ids.drop k) ∧ -1 ≤ z ∧ z ≤ 281474976710656) (fun _ i => n - (intOf i).toNat)
  case atStart => exact ⟨0, -1, by omega, rfl, rfl, rfl, by omega, by omega⟩
  case round =>
    obtain ⟨k, z, hk, rfl, rfl, hord, z0, z1⟩ := hrel
    have HO := Lib.hid hord
    clear hord
    by_cases hlt : k < n
    · have hk2 : k < ids.length := by have := HL.out; omega
      obtain ⟨b, o, rfl, hbl, hcell⟩ := HC.out (by omega)
      have hck : w.cell? ⟨b, o + k, none⟩ = some (.int .i64 (ids.getD k 0)) := hcell k hk2
      have hbd := bds_at HB.out hk2
      have hdr := Lib.hid (drop_at hk2)
      clear hcell
      generalize ids.getD k 0 = t at *
      have he := end_bd l t hbd.2
      by_cases hen : endB l t = true
      · by_cases hz : loN l t ≤ z
        · have HF := Lib.hid (ordF_no (l := l) (nx := z + 1) (t := t) (T := ids.drop (k + 1)) (.inr (by omega)))
          go_wp2_with (go_at_call 30; refine (rends_any _ _ _ (by omega) (by omega) (by omega) (by omega)).mono ?_; rintro e w1 ⟨rfl, rfl⟩)
          go_ret
          exact ⟨by rw [HO.out, hdr.out, HF.out]; rfl, rfl⟩
        · have hz' : z < loN l t := by omega
          have HF := Lib.hid (ordF_go (l := l) (nx := z + 1) (t := t) (T := ids.drop (k + 1)) hen (by omega))
          clear hz
          go_wp2_with (go_at_call 30; refine (rends_any _ _ _ (by omega) (by omega) (by omega) (by omega)).mono ?_; rintro e w1 ⟨rfl, rfl⟩)
          go_round
          case rel => exact ⟨k + 1, _, by omega, by go_num, rfl, by rw [HO.out, hdr.out, HF.out], by omega, by omega⟩
          case measure => simp [intOf]; omega
      · have hen' : endB l t = false := by simpa using hen
        have HF := Lib.hid (ordF_no (l := l) (nx := z + 1) (t := t) (T := ids.drop (k + 1)) (.inl hen'))
        clear hen
        go_wp2_with (go_at_call 30; refine (rends_any _ _ _ (by omega) (by omega) (by omega) (by omega)).mono ?_; rintro e w1 ⟨rfl, rfl⟩)
        go_ret
        exact ⟨by rw [HO.out, hdr.out, HF.out]; rfl, rfl⟩
    · have hd : Hid (ids.drop k = []) := List.drop_eq_nil_of_le (by have := HL.out; omega)
      go_wp2_with (go_at_call 27; refine (rIs_any _ _ (by omega) (by omega)).mono ?_; rintro e w1 ⟨rfl, rfl⟩)
      go_ret
      exact ⟨by rw [HO.out, hd]; rfl, rfl⟩
theorem holdsB_all {l x : Int} {ids : List Int} (h : IsAll l ids) : holdsB l ids x = true ↔ Held l ids x := by
  have : ids.all (fun t => endB l t) = true := by rw [List.all_eq_true]; exact h.2
  rw [holdsB, this, Bool.true_and, heldB_iff]
theorem holdsB_not {l x : Int} {ids : List Int} (hb : Bds ids) (h : NotAll l ids) : holdsB l ids x = false := by
  rcases h with h | ⟨t, ht, h⟩
  · cases ids with
    | nil => rfl
    | cons t T =>
      refine holds_not (t := t) (by simp) ?_
      cases e : endB l t
      · rfl
      · have := node_uni (node_of_end e (hb t (by simp)).2)
        rw [h] at this; cases this
  · exact holds_not ht h
set_option maxHeartbeats 1600000 in
theorem r5holds_any (l : Int) (A : Option Addr) (n c : Nat) (ids : List Int) (x : Int) (w : World) (hA : IntsAt w (.slice A n c) ids) (hB : Bds ids) (hn : n ≤ 9000) (L0 : -9223372036854775808 ≤ l) (L1 : l ≤ 9223372036854775807) :
    Calls Try.prog 21 #[.int .i64 l, .slice A n c, .int .i64 x] w fun e w' => e = .returned (.bool (holdsB l ids x)) ∧ Below w.heap.size w w' := by
  have HL := Lib.hid (ints_cells hA).1
  have HI := Lib.hid (runs_any l A n c ids w hA hB (by omega) L0 L1)
  have HB := Lib.hid hB
  clear hA hB
  go_enter Try.func21, Try.ntmps21
  go_wp2_with fail
  refine HI.out.mono ?_
  rintro e w1 (⟨hall, A1, c1, L, rfl, hra, hrs, hin, hlen, hb1⟩ | ⟨hno, A1, m1, c1, rfl, hm1, hb1⟩)
  · have HALL := Lib.hid hall
    have hm9 : L.length ≤ 9000 := by have := HL.out; omega
    have HIN := Lib.hid hin
    have HC := Lib.hid (runs_cells hra).2
    clear hall hra hrs hin hlen HI
    generalize hm : L.length = m at *
    have HM := Lib.hid hm
    clear hm
    go_wp2_with fail
    go_loop [9] (fun i => ∃ k : Nat, k ≤ m ∧ i = .int .i64 k ∧ ¬ InR (L.take k) x) (fun i => m - (intOf i).toNat)
    case atStart => exact ⟨0, by omega, rfl, inR_nil x⟩
    case round =>
      obtain ⟨k, hk, rfl, hnot⟩ := hrel
      have HN := Lib.hid hnot
      clear hnot
      by_cases hlt : k < m
      · have hk2 : k < L.length := by have := HM.out; omega
        obtain ⟨b, o, rfl, hbl, hcell⟩ := HC.out (by have := HM.out; omega)
        have hcc := hcell k (by have := HM.out; omega)
        have htk := Lib.hid (take_atr hk2)
        have hmem := Lib.hid (getDr_mem hk2)
        clear hcell
        generalize L.getD k rz = r at *
        obtain ⟨rl, rh⟩ := r
        simp only at hcc
        obtain ⟨e0, e1⟩ := hcc
        rcases (show x < rl ∨ (rl ≤ x ∧ rh < x) ∨ (rl ≤ x ∧ x ≤ rh) by omega) with q | ⟨q, q2⟩ | ⟨q, q2⟩
        · go_wp2_with fail
          go_round
          case rel => exact ⟨k + 1, by omega, by go_num, by rw [htk.out, inR_snoc]; exact fun g => g.elim HN.out fun g => by simp only at g; omega⟩
          case measure => simp [intOf]; omega
        · go_wp2_with fail
          go_round
          case rel => exact ⟨k + 1, by omega, by go_num, by rw [htk.out, inR_snoc]; exact fun g => g.elim HN.out fun g => by simp only at g; omega⟩
          case measure => simp [intOf]; omega
        · have hy : Hid (holdsB l ids x = true) := (holdsB_all HALL.out).2 ((HIN.out x).1 ⟨(rl, rh), hmem.out, q, q2⟩)
          go_wp2_with fail
          go_ret
          exact ⟨by rw [hy]; rfl, hb1⟩
      · have hd : Hid (L.take k = L) := List.take_of_length_le (by have := HM.out; omega)
        have hy := Lib.hid (show holdsB l ids x = false from by
          have q := HN.out
          rw [hd, HIN.out] at q
          exact Bool.eq_false_iff.2 fun e => absurd ((holdsB_all HALL.out).1 e) q)
        go_wp2_with fail
        go_ret
        exact ⟨by rw [hy.out]; rfl, hb1⟩
  · have hy : Hid (holdsB l ids x = false) := holdsB_not HB.out hno
    have hm9 : m1 ≤ 9000 := by have := HL.out; omega
    clear hno HI
    go_wp2_with fail
    go_loop [9] (fun i => i = .int .i64 0) (fun _ => 0)
    case atStart => rfl
    case round =>
      subst hrel
      by_cases h0 : 0 < m1
      · go_wp2_with fail
        go_ret
        exact ⟨by rw [hy]; rfl, hb1⟩
      · obtain rfl : m1 = 0 := by omega
        go_wp2_with fail
        go_ret
        exact ⟨by rw [hy]; rfl, hb1⟩
def RCountPost (l : Int) (ids : List Int) (w : World) (e : Ending) (w' : World) : Prop :=
  (IsAll l ids ∧ ∃ L, Runs (2 ^ l.toNat) L ∧ (∀ x, InR L x ↔ Held l ids x) ∧ e = .returned (.tuple #[.int .i64 (totR L), .bool true]) ∧ Below w.heap.size w w') ∨
  (NotAll l ids ∧ e = .returned (.tuple #[.int .i64 0, .bool false]) ∧ Below w.heap.size w w')
set_option maxHeartbeats 1600000 in
theorem r5count_any (l : Int) (A : Option Addr) (n c : Nat) (ids : List Int) (w : World) (hA : IntsAt w (.slice A n c) ids) (hB : Bds ids) (hn : n ≤ 9000) (L0 : -9223372036854775808 ≤ l) (L1 : l ≤ 9223372036854775807) :
    Calls Try.prog 19 #[.int .i64 l, .slice A n c] w (RCountPost l ids w) := by
  have HL := Lib.hid (ints_cells hA).1
  have HI := Lib.hid (runs_any l A n c ids w hA hB (by omega) L0 L1)
  clear hA hB
  go_enter Try.func19, Try.ntmps19
  go_wp2_with fail
  refine HI.out.mono ?_
  rintro e w1 (⟨hall, A1, c1, L, rfl, hra, hrs, hin, hlen, hb1⟩ | ⟨hno, A1, m1, c1, rfl, hm1, hb1⟩)
  · have HALL := Lib.hid hall
    have hl48 := all_uni hall
    have hb48 : (2 : Int) ^ l.toNat ≤ 281474976710656 := two_le l.toNat 48 (by omega)
    have hm9 : L.length ≤ 9000 := by have := HL.out; omega
    have HIN := Lib.hid hin
    have HRS := Lib.hid hrs
    have HC := Lib.hid (runs_cells hra).2
    have htb : Hid (∀ k, 0 ≤ totR (L.take k) ∧ totR (L.take k) ≤ (L.take k).length * 281474976710656) := fun k => totR_bd (fun r hr => hrs.1 r (List.mem_of_mem_take hr)) hb48
    clear hall hra hrs hin hlen HI
    generalize hm : L.length = m at *
    have HM := Lib.hid hm
    clear hm
    go_wp2_with fail
    go_loopw [8, 9] (fun x i wr => ∃ (k : Nat) (z : Int), k ≤ m ∧ i = .int .i64 k ∧ x = .int .i64 z ∧ z = totR (L.take k) ∧ Below w.heap.size w wr ∧ Below w1.heap.size w1 wr) (fun _ i _ => m - (intOf i).toNat)
    case atStart => exact ⟨0, 0, by omega, rfl, rfl, rfl, hb1, Below.refl ..⟩
    case round =>
      rename_i wr
      obtain ⟨k, z, hk, rfl, rfl, hz, hb, hbb⟩ := hrel
      have hzb := htb k
      rw [← hz] at hzb
      have HZ := Lib.hid hz
      have hzl : z ≤ 2533274790395904000 := by have : (L.take k).length ≤ k := List.length_take_le _ _; omega
      have hz0 := hzb.1
      clear hz hzb
      by_cases hlt : k < m
      · have hk2 : k < L.length := by have := HM.out; omega
        obtain ⟨b, o, rfl, hbl, hcell⟩ := HC.out (by have := HM.out; omega)
        have hcc := hcell k (by have := HM.out; omega)
        have e0 : wr.cell? ⟨b, o + k * 2, none⟩ = some (.int .i64 (L.getD k rz).1) := (hbb.cell (p := ⟨b, o + k * 2, none⟩) hbl).trans hcc.1
        have e1 : wr.cell? ⟨b, o + k * 2 + 1, none⟩ = some (.int .i64 (L.getD k rz).2) := (hbb.cell (p := ⟨b, o + k * 2 + 1, none⟩) hbl).trans hcc.2
        have htk := Lib.hid (take_atr hk2)
        have hrr := HRS.out.1 _ (getDr_mem hk2)
        clear hcell hcc
        generalize L.getD k rz = r at *
        obtain ⟨rl, rh⟩ := r
        simp only at e0 e1 hrr
        obtain ⟨r0, r1, r2⟩ := hrr
        have w1' : IntKind.i64.wrap (z + rh) = z + rh := IntWalk.i64_in _ (by omega)
        have w2' : IntKind.i64.wrap (z + rh - rl) = z + rh - rl := IntWalk.i64_in _ (by omega)
        have w3' : IntKind.i64.wrap (z + rh - rl + 1) = z + rh - rl + 1 := IntWalk.i64_in _ (by omega)
        go_wp2_with fail
        go_quiet (fail)
        clear w1' w2' w3'
        go_wp2_with fail
        go_roundw
        case rel => exact ⟨k + 1, _, by omega, by go_num, rfl, by rw [htk.out, totR_app, ← HZ.out]; simp [totR]; omega, drewN_below hb _, drewN_below hbb _⟩
        case measure => simp [intOf]; omega
      · have hd : Hid (L.take k = L) := List.take_of_length_le (by have := HM.out; omega)
        go_wp2_with fail
        go_ret2
        refine .inl ⟨HALL.out, L, HRS.out, HIN.out, ?_, hb⟩
        have q := HZ.out
        rw [hd] at q
        rw [← q]; rfl
  · have HNO := Lib.hid hno
    clear hno HI
    go_wp2_with fail
    go_ret2
    exact .inr ⟨HNO.out, rfl, hb1⟩

end Go.Proofs.Ytjmglihdndknjaa
