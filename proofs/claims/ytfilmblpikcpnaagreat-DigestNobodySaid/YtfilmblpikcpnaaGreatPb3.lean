/- The project's package probe: Get, Walk and Slot of a table that lies in memory. -/
import Derived.Test.YtfilmblpikcpnaaGreatPb2
namespace Go.Proofs.YtfilmblpikcpnaaGreat
set_option linter.unusedVariables false
open Go.RowKit
section
variable {B g h b : Nat} {l n t : Int} {S : List Nd}
theorem right_mx {l id : Int} (h : rightB l id = true) : 1 ≤ id ∧ id ≤ 9223372036854775807 := ⟨right_pos h, right_max h⟩
/-- where looking ends, by numbers that tell nothing of themselves -/
theorem look_has {L : List Nd} (T : Tb l b S L) (hb : b ≤ 40) {id : Int} (h1 : 1 ≤ id) (A1 : id ≤ 9223372036854775807) : ∃ p k : Nat, Hid (posOf b S id = p) ∧ Hid (kOf b S id = k) ∧ p < 2 ^ b ∧
    ∀ (w : World) (B g h : Nat) (l n t : Int), PbA w B g h l n t b S → Calls Tryz.prog 121 #[.pointer (some ⟨g, 0, none⟩), .int .i64 id] w fun e w' => e = .returned (.tuple #[.int .i64 (p : Int), .int .i64 ((k : Int) + 1)]) ∧ w = w' := by
  have h3 := T.tab.b3
  have HV : Hid (homeV (b : Int) id = (homeN b id : Nat)) := by
    show _ = _
    rw [homeV_yes (by omega) (by omega) h1, Int.toNat_natCast]
  refine ⟨posOf b S id, kOf b S id, rfl, rfl, T.pos id, fun w B g h l n t d => ?_⟩
  exact pbLook_core w d id _ _ _ (2 ^ b) rfl (by omega) hb h1 A1 HV (home_lt (by omega) id) (T.ends id) rfl
set_option maxHeartbeats 800000 in
theorem pbGet_any {L : List Nd} (a : Int) (w : World) (d : PbA w B g h l n t b S) (T : Tb l b S L) (hb : b ≤ 40) (A0 : -9223372036854775808 ≤ a) (A1 : a ≤ 9223372036854775807) :
    Calls Tryz.prog 98 #[.pointer (some ⟨g, 0, none⟩), .int .i64 a] w fun e w' => e = .returned (.int .i64 (sumAt a L)) ∧ w = w' := by
  have D : Hid (PbA w B g h l n t b S) := d
  have hu : 1 ≤ l ∧ l ≤ 48 := of_decide_eq_true T.roll.1
  have h3 := T.tab.b3
  cases hq : rightB l a
  · have H := Lib.hid (rem_wrong T.roll hq).2.2
    clear d T
    go_enter Tryz.func98, Tryz.ntmps98
    go_wp2_with (first | (go_at_call 111; refine (pbL_any _ D.out).mono ?_; rintro e w1 ⟨rfl, rfl⟩) | (go_at_call 106; refine (right_any _ _ _ (by omega) (by omega) A0 A1).mono ?_; rintro e w1 ⟨rfl, rfl⟩))
    go_ret
    exact ⟨ret_i (by rw [H.out]), rfl⟩
  · obtain ⟨p0, p1⟩ := right_mx hq
    have c4 := d.cells.2.2.2.2
    have HG := T.get (show a ≠ 0 by omega)
    obtain ⟨p, k, hp, hk, hps, lk⟩ := look_has T hb p0 p1
    have LK := Lib.hid (lk w B g h l n t d)
    have hc := (d.slot hps).2
    rw [hp.out] at HG
    rw [HG] at hc
    clear d T lk hp hk HG hb h3
    obtain ⟨N, hN⟩ : ∃ N, N = 2 ^ b := ⟨_, rfl⟩
    rw [← hN] at c4 hps
    clear hN
    go_enter Tryz.func98, Tryz.ntmps98
    go_wp2_with (first | (go_at_call 111; refine (pbL_any _ D.out).mono ?_; rintro e w1 ⟨rfl, rfl⟩) | (go_at_call 106; refine (right_any _ _ _ (by omega) (by omega) A0 A1).mono ?_; rintro e w1 ⟨rfl, rfl⟩) | (go_at_call 121; refine LK.out.mono ?_; rintro e w1 ⟨rfl, rfl⟩))
    go_ret
    exact ⟨rfl, rfl⟩
def walkN (l : Int) (b : Nat) (S : List Nd) (id : Int) : Int := if rightB l id = true then (kOf b S id : Int) + 1 else 0
def slotI (S : List Nd) (i : Int) : Nd := if i < 0 then nz else tAt S i.toNat
end

end Go.Proofs.YtfilmblpikcpnaaGreat
