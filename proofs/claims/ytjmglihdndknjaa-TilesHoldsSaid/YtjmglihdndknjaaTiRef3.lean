/- The document's answers of package dewpondref05: the runs that nodes hold, and the tiles of runs. -/
import Derived.Test.YtjmglihdndknjaaTiRef2
import Derived.Test.YtjmglihdndknjaaTiNum4
import Derived.Test.YtjmglihdndknjaaTi5
import Derived.StillTailTactics
namespace Go.Proofs.Ytjmglihdndknjaa
set_option linter.unusedVariables false
open Go.RowKit

theorem r5of_no (l a b : Int) (w : World) (h : ¬ OfC l a b) (L0 : -9223372036854775808 ≤ l) (L1 : l ≤ 9223372036854775807) :
    Calls Try.prog 9 #[.int .i64 l, .int .i64 a, .int .i64 b] w (NoneTold w) := by
  by_cases hl : 1 ≤ l ∧ l ≤ 48
  · have hu := uni_yes hl
    obtain ⟨hl1, hl2⟩ := hl
    have b1 : (2 : Int) ^ l.toNat ≤ 281474976710656 := two_le l.toNat 48 (by omega)
    have b0 := two_pos l.toNat
    rcases (show a < 0 ∨ (0 ≤ a ∧ b < a) ∨ (0 ≤ a ∧ a ≤ b ∧ 2 ^ l.toNat ≤ b) by
      by_cases c1 : a < 0
      · exact .inl c1
      · by_cases c2 : b < a
        · exact .inr (.inl ⟨by omega, c2⟩)
        · by_cases c3 : 2 ^ l.toNat ≤ b
          · exact .inr (.inr ⟨by omega, by omega, c3⟩)
          · exact absurd ⟨⟨hl1, hl2, by omega, by omega⟩, ⟨hl1, hl2, by omega, by omega⟩, by omega⟩ h) with c | c | c
    all_goals
      clear h
      go_enter Try.func9, Try.ntmps9
      go_wp2_with (first | (go_at_call 27; refine (rIs_any _ _ (by omega) (by omega)).mono ?_; rintro e w1 ⟨rfl, rfl⟩) | (go_at_call 28; refine (rpower_any _ _ (by omega) (by omega)).mono ?_; rintro e w1 ⟨rfl, rfl⟩))
      go_ret2
      exact ⟨rfl, Below.refl ..⟩
  · have hu := uni_no hl
    clear h hl
    go_enter Try.func9, Try.ntmps9
    go_wp2_with (first | (go_at_call 27; refine (rIs_any _ _ (by omega) (by omega)).mono ?_; rintro e w1 ⟨rfl, rfl⟩))
    go_ret2
    exact ⟨rfl, Below.refl ..⟩
def RunsPost (l : Int) (ids : List Int) (w : World) (e : Ending) (w' : World) : Prop :=
  (IsAll l ids ∧ ∃ A c L, e = .returned (.tuple #[.slice A (List.length L) c, .bool true]) ∧ RunsAt w' (.slice A L.length c) L ∧ Runs (2 ^ l.toNat) L ∧ (∀ x, InR L x ↔ Held l ids x) ∧ L.length ≤ ids.length ∧ Below w.heap.size w w') ∨
  (NotAll l ids ∧ ∃ A m c, e = .returned (.tuple #[.slice A m c, .bool false]) ∧ m ≤ ids.length ∧ Below w.heap.size w w')
theorem runs_nil (w : World) : RunsAt w (.slice none 0 0) [] := ⟨none, 0, rfl, fun h => by simp at h⟩
theorem runs_shape {w : World} {v : Value} {L : List Rn} (h : RunsAt w v L) : ∃ A c, v = .slice A L.length c := by obtain ⟨A, c, e, _⟩ := h; exact ⟨A, c, e⟩
set_option maxHeartbeats 1600000 in
theorem runs_any (l : Int) (A : Option Addr) (n c : Nat) (ids : List Int) (w : World) (hA : IntsAt w (.slice A n c) ids) (hB : Bds ids) (hn : n ≤ 100000) (L0 : -9223372036854775808 ≤ l) (L1 : l ≤ 9223372036854775807) :
    Calls Try.prog 33 #[.int .i64 l, .slice A n c] w (RunsPost l ids w) := by
  obtain ⟨hlen, hcells⟩ := ints_cells hA
  have HC := Lib.hid hcells
  have HL := Lib.hid hlen
  have HB := Lib.hid hB
  clear hcells hlen hA hB
  go_enter Try.func33, Try.ntmps33
  go_wp2_with fail
  go_loopw [6, 7] (fun v i wr => ∃ (k : Nat) (L : List Rn), k ≤ n ∧ i = .int .i64 k ∧ RunsAt wr v L ∧ Runs (2 ^ l.toNat) L ∧ (∀ x, InR L x ↔ Held l (ids.take k) x) ∧ L.length ≤ k ∧ (∀ t ∈ ids.take k, endB l t = true) ∧ Below w.heap.size w wr) (fun _ i _ => n - (intOf i).toNat)
  case atStart => exact ⟨0, [], by omega, rfl, runs_nil w, ⟨fun r h => by simp at h, List.Pairwise.nil⟩, fun x => ⟨fun g => absurd g (inR_nil x), fun g => absurd g (held_nil l x)⟩, by simp, fun t h => by simp at h, Below.refl ..⟩
  case round =>
    rename_i wr
    obtain ⟨k, L, hk, rfl, hra, hrs, hin, hlk, hall, hb⟩ := hrel
    have HA := Lib.hid hall
    have HIN := Lib.hid hin
    have HRS := Lib.hid hrs
    have HRA := Lib.hid hra
    have zs := hb.size
    obtain ⟨A1, c1, rfl⟩ := runs_shape hra
    have hll : L.length ≤ 1000000 := by omega
    clear hall hin hrs hra
    by_cases hlt : k < n
    · have hk2 : k < ids.length := by have := HL.out; omega
      obtain ⟨b, o, rfl, hbl, hcell⟩ := HC.out (by omega)
      have hck : wr.cell? ⟨b, o + k, none⟩ = some (.int .i64 (ids.getD k 0)) := (hb.cell (p := ⟨b, o + k, none⟩) hbl).trans (hcell k hk2)
      have hbd := bds_at HB.out hk2
      have htk := Lib.hid (take_at hk2)
      have hmem := Lib.hid (getD_mem hk2)
      clear hcell
      generalize ids.getD k 0 = t at *
      have he := end_bd l t hbd.2
      by_cases hen : endB l t = true
      · have ht := node_of_end hen hbd.2
        have bt := node_bd ht
        have HT := Lib.hid ht
        have hm48 : (2 : Int) ^ l.toNat ≤ 281474976710656 := two_le l.toNat 48 (by have := ht.1.2.1; omega)
        generalize hll2 : L.length = ll at *
        have HLL := Lib.hid hll2
        clear hll2 ht
        go_wp2_with (go_at_call 30; refine (rends_any _ _ _ (by omega) (by omega) (by omega) (by omega)).mono ?_; rintro e w1 ⟨rfl, rfl⟩)
        refine (with_any A1 ll c1 L (loN l t) (hiN l t) (2 ^ l.toNat) _ HRA.out HRS.out hm48 ⟨bt.1, bt.2.1, bt.2.2.1⟩ hll).mono ?_
        rintro e w2 ⟨v2, L2, rfl, hra2, hrs2, hin2, hlen2, hb2⟩
        have HRA2 := Lib.hid hra2
        have HRS2 := Lib.hid hrs2
        have HIN2 := Lib.hid hin2
        have hb3 : Below w.heap.size w w2 := hb.trans (hb2.mono zs)
        have hl2 : L2.length ≤ k + 1 := by have := HLL.out; omega
        obtain ⟨A3, c3, rfl⟩ := runs_shape hra2
        generalize hll3 : L2.length = ll3 at *
        have HLL3 := Lib.hid hll3
        clear hra2 hrs2 hin2 hb2 hck hlen2 hll3
        go_wp2_with fail
        go_roundw
        case rel => exact ⟨k + 1, L2, by omega, by go_num, HRA2.out, HRS2.out, fun x => by rw [HIN2.out, htk.out, held_snoc, HIN.out], by have := HLL3.out; omega, fun u hu => by
          rw [htk.out] at hu
          rcases List.mem_append.1 hu with hu | hu
          · exact HA.out u hu
          · simp at hu; subst hu; exact hen, hb3⟩
        case measure => simp [intOf]; omega
      · have hen' : endB l t = false := by simpa using hen
        clear hen
        go_wp2_with (go_at_call 30; refine (rends_any _ _ _ (by omega) (by omega) (by omega) (by omega)).mono ?_; rintro e w1 ⟨rfl, rfl⟩)
        go_ret2
        exact .inr ⟨.inr ⟨t, hmem.out, hen'⟩, none, 0, 0, rfl, by omega, hb⟩
    · have hd : Hid (ids.take k = ids) := List.take_of_length_le (by have := HL.out; omega)
      have hlk2 : L.length ≤ ids.length := by have := HL.out; omega
      generalize hll2 : L.length = ll at *
      have HLL := Lib.hid hll2
      clear hll2
      have hor := Lib.hid (all_or l ids)
      by_cases hu : uniB l = true
      · go_wp2_with (go_at_call 27; refine (rIs_any _ _ (by omega) (by omega)).mono ?_; rintro e w1 ⟨rfl, rfl⟩)
        go_ret2
        exact .inl ⟨⟨hu, by have q := HA.out; rw [hd] at q; exact q⟩, A1, c1, L, by rw [HLL.out]; rfl, by rw [HLL.out]; exact HRA.out, HRS.out, fun x => by rw [HIN.out, hd], by rw [HLL.out]; exact hlk2, hb⟩
      · have hu' : uniB l = false := by simpa using hu
        clear hu
        go_wp2_with (go_at_call 27; refine (rIs_any _ _ (by omega) (by omega)).mono ?_; rintro e w1 ⟨rfl, rfl⟩)
        go_ret2
        exact .inr ⟨.inl hu', A1, ll, c1, rfl, hlk2, hb⟩

end Go.Proofs.Ytjmglihdndknjaa
