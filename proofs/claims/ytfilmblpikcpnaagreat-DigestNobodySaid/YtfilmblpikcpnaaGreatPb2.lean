/- The project's package probe: where looking for a node ends. -/
import Derived.Test.YtfilmblpikcpnaaGreatPb
import Derived.WalkMore
namespace Go.Proofs.YtfilmblpikcpnaaGreat
set_option linter.unusedVariables false
open Go.RowKit
section
variable {B g h b : Nat} {l n t : Int} {S : List Nd}
theorem pow_40 {b : Nat} (h : b ≤ 40) : 2 ^ b ≤ 1099511627776 := by
  have hp : 2 ^ b ≤ 2 ^ 40 := Nat.pow_le_pow_right (by omega) h
  have hq : (2 : Nat) ^ 40 = 1099511627776 := by decide
  omega
set_option maxHeartbeats 1600000 in
/-- where looking ends, and how many slots are looked at (the home is a number of its own: the kernel must not meet what it is) -/
theorem pbLook_core (w : World) (d : PbA w B g h l n t b S) (id : Int) (k hm p N : Nat) (HN : Hid (2 ^ b = N)) (hb1 : 1 ≤ b) (hb : b ≤ 40) (h1 : 1 ≤ id) (A1 : id ≤ 9223372036854775807) (HV : Hid (homeV (b : Int) id = (hm : Nat))) (hh : hm < N) (E : Hid (Ends S id N hm k)) (HP : Hid (tAv N hm k = p)) :
    Calls Tryz.prog 121 #[.pointer (some ⟨g, 0, none⟩), .int .i64 id] w fun e w' => e = .returned (.tuple #[.int .i64 (p : Int), .int .i64 ((k : Int) + 1)]) ∧ w = w' := by
  have c3 := d.cells.2.2.2.1
  have c4 := d.cells.2.2.2.2
  have SL := Lib.hid (fun (i : Nat) (hi : i < 2 ^ b) => (d.slot hi).1)
  have BH := Lib.hid (fun (a : Nat) (ha : a < 2 ^ b) => pbBehind_any w d a ha hb)
  have hp := pow_40 hb
  have kl := E.out.lt
  clear d
  rw [HN.out] at c4 SL BH hp
  go_enter Tryz.func121, Tryz.ntmps121
  go_wp2_with fail
  go_step3
  go_wp2_with (go_at_call 139; refine (pbHome_any _ _ _ (by omega) (by omega) (by omega) A1).mono ?_; rw [HV.out]; rintro e w1 ⟨rfl, rfl⟩)
  go_step3
  go_wp2_with fail
  go_loopw [4, 5] (fun a c wr => ∃ j : Nat, j ≤ k ∧ a = .int .i64 (tAv N hm j : Nat) ∧ c = .int .i64 (j : Int) ∧ wr = w) (fun _ c _ => k + 1 - (intOf c).toNat)
  case atStart => exact ⟨0, by omega, by rw [av_zero hh], rfl, rfl⟩
  case round =>
    rename_i wr
    obtain ⟨j, hj, rfl, rfl, rfl⟩ := hrel
    have ha := (av_is hh (show j < N by omega)).1
    have e0 := SL.out _ ha
    by_cases hjk : j < k
    · obtain ⟨s1, s2⟩ := E.out.go j hjk
      have nx := Lib.hid (av_next hh (show j + 1 < N by omega))
      generalize tAv N hm j = a at *
      generalize (tAt S a).1 = x at *
      have hx1 : (x != id) = true := by simpa using s1
      have hx2 : (x != 0) = true := by simpa using s2
      go_wp2_with (go_at_call 140; refine (BH.out a ha).mono ?_; rintro e w1 ⟨rfl, rfl⟩)
      go_roundw
      case rel => exact ⟨j + 1, by omega, by rw [nx.out], by go_num, by trivial⟩
      case measure => simp [intOf]; omega
    · have hjk2 : j = k := by omega
      subst hjk2
      have st := E.out.stop
      rw [HP.out] at st ha e0 ⊢
      generalize (tAt S p).1 = x at *
      by_cases q : x = id
      · subst q
        go_wp2_with fail
        go_ret2
        exact ⟨rfl, rfl⟩
      · have q2 : x = 0 := by omega
        subst q2
        go_wp2_with fail
        go_ret2
        exact ⟨rfl, rfl⟩
end

end Go.Proofs.YtfilmblpikcpnaaGreat
