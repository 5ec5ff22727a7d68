/- The document's answer of package dewpondref05: whether two lists are the same. -/
import Derived.Test.YtkhacpapkalkiaaGreatMmy
import Derived.Test.YtkhacpapkalkiaaGreatTw
import Derived.Deep.QuietTactic
import Derived.BigQuiet
namespace Go.Proofs.YtkhacpapkalkiaaGreat
set_option linter.unusedVariables false
open Go.RowKit

theorem same5_not {T T' : List Int} {k : Nat} (hk : k < T.length) (hk' : k < T'.length) (h : T.getD k 0 ≠ T'.getD k 0) : decide (T = T') = false :=
  decide_eq_false fun e => h (by rw [e])
theorem same5_yes {T T' : List Int} {n : Nat} (h1 : T.length = n) (h2 : T'.length = n) (h : T.take n = T'.take n) : decide (T = T') = true :=
  decide_eq_true (by rwa [List.take_of_length_le (by omega), List.take_of_length_le (by omega)] at h)
set_option maxHeartbeats 800000 in
theorem same5_any (A A' : Option Addr) (n n' c c' : Nat) (T T' : List Int) (w : World) (h : IntsAt w (.slice A n c) T) (h' : IntsAt w (.slice A' n' c') T') (hn : n ≤ 1000000) (hn' : n' ≤ 1000000) :
    Calls Tryz.prog 19 #[.slice A n c, .slice A' n' c'] w fun e w' => e = .returned (.bool (decide (T = T'))) ∧ Below w.heap.size w w' := by
  have HL := Lib.hid (ints_cells h).1
  have HL' := Lib.hid (ints_cells h').1
  have HC := Lib.hid (ints_cells h).2
  have HC' := Lib.hid (ints_cells h').2
  clear h h'
  by_cases hnn : n = n'
  · subst hnn
    go_enter Tryz.func19, Tryz.ntmps19
    go_wp2_with fail
    go_loopw [5] (fun i wr => ∃ k : Nat, k ≤ n ∧ i = .int .i64 k ∧ T.take k = T'.take k ∧ Below w.heap.size w wr) (fun i _ => n - (intOf i).toNat)
    case atStart => exact ⟨0, by omega, rfl, rfl, Below.refl ..⟩
    case round =>
      rename_i wr
      obtain ⟨k, hk, rfl, heq, hb⟩ := hrel
      have HE := Lib.hid heq
      clear heq
      by_cases hlt : k < n
      · have hk2 : k < T.length := by have := HL.out; omega
        have hk3 : k < T'.length := by have := HL'.out; omega
        obtain ⟨b, o, rfl, hbl, hcell⟩ := HC.out (by omega)
        obtain ⟨b', o', rfl, hbl', hcell'⟩ := HC'.out (by omega)
        have e0 : wr.cell? ⟨b, o + k, none⟩ = some (.int .i64 (T.getD k 0)) := (hb.cell (p := ⟨b, o + k, none⟩) hbl).trans (hcell k hk2)
        have e1 : wr.cell? ⟨b', o' + k, none⟩ = some (.int .i64 (T'.getD k 0)) := (hb.cell (p := ⟨b', o' + k, none⟩) hbl').trans (hcell' k hk3)
        have htk := Lib.hid (take_at hk2)
        have htk' := Lib.hid (take_at hk3)
        have hnot := Lib.hid (same5_not hk2 hk3)
        clear hcell hcell'
        generalize T.getD k 0 = t at *
        generalize T'.getD k 0 = t' at *
        by_cases ht : t = t'
        · subst ht
          go_wp2_with fail
          go_quiet (fail)
          go_wp2_with fail
          go_roundw
          case rel => exact ⟨k + 1, by omega, by go_num, by rw [htk.out, htk'.out, HE.out], drewN_below hb _⟩
          case measure => simp [intOf]; omega
        · have hq : (t != t') = true := by simpa using ht
          have HN := Lib.hid (hnot.out ht)
          clear ht
          go_wp2_with fail
          go_quiet (fail)
          go_wp2_with fail
          go_ret
          exact ⟨by rw [HN.out]; rfl, drewN_below hb _⟩
      · have e : k = n := by omega
        subst e
        go_wp2_with fail
        go_ret
        exact ⟨by rw [same5_yes HL.out.symm HL'.out.symm HE.out]; rfl, hb⟩
  · have hd : ((n : Int) != (n' : Int)) = true := bne_iff_ne.2 (by omega)
    have HD : Hid (decide (T = T') = false) := decide_eq_false fun e => hnn (by rw [HL.out, HL'.out, e])
    clear hnn
    go_enter Tryz.func19, Tryz.ntmps19
    go_wp2_with fail
    go_ret
    exact ⟨by rw [HD]; rfl, Below.refl ..⟩

end Go.Proofs.YtkhacpapkalkiaaGreat
