/- The project's package bag: New, what is told of a bag and of nil; where a value belongs. -/
import Derived.Test.YtfleaaokbjgljaaBgMem
import Derived.Test.YtfleaaokbjgljaaRdSl
import Derived.Test.YtfleaaokbjgljaaTw
namespace Go.Proofs.Ytfleaaokbjgljaa
set_option linter.unusedVariables false
open Go.RowKit
attribute [local go_sem ↓] Go.wp_at_zero Go.wp_at_succ

abbrev BgA (w : World) (B g : Nat) (l : Int) (L : List Nd) (v : Value) : Prop := Bg 67 31 w B g l L v
theorem bgNew_no (l : Int) (w : World) (h : ¬ (1 ≤ l ∧ l ≤ 48)) : Calls Try.prog 10 #[.int .i64 l] w fun e w' => e = .returned (.tuple #[.pointer none, .int .i64 2]) ∧ w = w' := by
  by_cases h1 : l < 1
  · go_enter Try.func10, Try.ntmps10
    go_wp2_with fail
    go_ret2
    exact ⟨rfl, rfl⟩
  · have h2 : 48 < l := by omega
    go_enter Try.func10, Try.ntmps10
    go_wp2_with fail
    go_ret2
    exact ⟨rfl, rfl⟩
theorem bgNew_any (l : Int) (w : World) (h : 1 ≤ l ∧ l ≤ 48) : Calls Try.prog 10 #[.int .i64 l] w fun e w' =>
    ∃ g, e = .returned (.tuple #[.pointer (some ⟨g, 0, none⟩), .int .i64 0]) ∧ BgA w' w.heap.size g l [] (.slice none 0 0) ∧ Below w.heap.size w w' := by
  obtain ⟨h1, h2⟩ := h
  have M : Hid (BgA (w.alloc (.cells #[.int .i64 l, .int .i64 0, .slice none 0 0] 67)) w.heap.size w.heap.size l [] (.slice none 0 0)) := Bg.make (by decide) (bag_nil ⟨h1, h2⟩) (ownNd_nil ..) (Nat.le_refl _)
  go_enter Try.func10, Try.ntmps10
  go_wp2_with fail
  go_ret2
  exact ⟨_, rfl, M.out, (Below.refl _ _).alloc (Nat.le_refl _) _⟩
theorem bgL_nil (w : World) : Calls Try.prog 31 #[.pointer none] w fun e w' => e = .returned (.int .i64 0) ∧ w = w' := by
  go_enter Try.func31, Try.ntmps31
  go_wp2_with fail
  go_ret
  exact ⟨rfl, rfl⟩
theorem bgL_any {B g : Nat} {l : Int} {L : List Nd} {v : Value} (w : World) (d : BgA w B g l L v) : Calls Try.prog 31 #[.pointer (some ⟨g, 0, none⟩)] w fun e w' => e = .returned (.int .i64 l) ∧ w = w' := by
  obtain ⟨c0, c1, c2⟩ := d.cells
  clear d
  go_enter Try.func31, Try.ntmps31
  go_wp2_with fail
  go_ret
  exact ⟨rfl, rfl⟩
theorem bgTotal_nil (w : World) : Calls Try.prog 30 #[.pointer none] w fun e w' => e = .returned (.int .i64 0) ∧ w = w' := by
  go_enter Try.func30, Try.ntmps30
  go_wp2_with fail
  go_ret
  exact ⟨rfl, rfl⟩
theorem bgTotal_any {B g : Nat} {l : Int} {L : List Nd} {v : Value} (w : World) (d : BgA w B g l L v) : Calls Try.prog 30 #[.pointer (some ⟨g, 0, none⟩)] w fun e w' => e = .returned (.int .i64 (sumC L)) ∧ w = w' := by
  obtain ⟨c0, c1, c2⟩ := d.cells
  clear d
  go_enter Try.func30, Try.ntmps30
  go_wp2_with fail
  go_ret
  exact ⟨rfl, rfl⟩
theorem bgLen_nil (w : World) : Calls Try.prog 32 #[.pointer none] w fun e w' => e = .returned (.int .i64 0) ∧ w = w' := by
  go_enter Try.func32, Try.ntmps32
  go_wp2_with fail
  go_ret
  exact ⟨rfl, rfl⟩
theorem bgLen_any {B g : Nat} {l : Int} {L : List Nd} {v : Value} (w : World) (d : BgA w B g l L v) : Calls Try.prog 32 #[.pointer (some ⟨g, 0, none⟩)] w fun e w' => e = .returned (.int .i64 (L.length : Int)) ∧ w = w' := by
  obtain ⟨c0, c1, c2⟩ := d.cells
  obtain ⟨A, m, c, rfl⟩ := ownNd_slice d.row
  have hm := (nodes_cells d.nodes).1
  subst hm
  clear d
  go_enter Try.func32, Try.ntmps32
  go_wp2_with fail
  go_ret
  exact ⟨rfl, rfl⟩
def togB (a b : Int) : Bool := decide (a + b ≤ 72057594037927935)
def togN (a b : Int) : Int := if a + b ≤ 72057594037927935 then a + b else 0
set_option maxHeartbeats 800000 in
theorem together_any (a b : Int) (w : World) (A0 : 0 ≤ a) (A1 : a ≤ 72057594037927935) (B0 : 1 ≤ b ∨ 0 ≤ b) (B1 : b ≤ 9223372036854775807) :
    Calls Try.prog 39 #[.int .i64 a, .int .i64 b] w fun e w' => e = .returned (.tuple #[.int .i64 (togN a b), .bool (togB a b)]) ∧ Below w.heap.size w w' := by
  by_cases q : a + b ≤ 72057594037927935
  · have t1 : togN a b = a + b := if_pos q
    have t2 : togB a b = true := decide_eq_true q
    rw [t1, t2]
    obtain ⟨s1, s2⟩ := sum_yes (a := a) (b := b) (by omega)
    go_enter Try.func39, Try.ntmps39
    go_wp2_with (go_at_call 49; refine (add_any _ _ _ (by omega) (by omega) (by omega) (by omega)).mono ?_; rintro e w1 ⟨rfl, hb1⟩)
    go_ret2
    exact ⟨rfl, hb1⟩
  · have t1 : togN a b = 0 := if_neg q
    have t2 : togB a b = false := decide_eq_false q
    rw [t1, t2]
    by_cases q2 : a + b ≤ 9223372036854775807
    · obtain ⟨s1, s2⟩ := sum_yes (a := a) (b := b) (by omega)
      have q3 : 72057594037927935 < a + b := by omega
      go_enter Try.func39, Try.ntmps39
      go_wp2_with (go_at_call 49; refine (add_any _ _ _ (by omega) (by omega) (by omega) (by omega)).mono ?_; rintro e w1 ⟨rfl, hb1⟩)
      go_ret2
      exact ⟨rfl, hb1⟩
    · obtain ⟨s1, s2⟩ := sum_no (a := a) (b := b) (by omega)
      go_enter Try.func39, Try.ntmps39
      go_wp2_with (go_at_call 49; refine (add_any _ _ _ (by omega) (by omega) (by omega) (by omega)).mono ?_; rintro e w1 ⟨rfl, hb1⟩)
      go_ret2
      exact ⟨rfl, hb1⟩
set_option maxHeartbeats 1600000 in
/-- what sort.Search finds: the place from which on it is so -/
theorem search_any (F : Nat) (caps : Array Value) (n T : Nat) (hT : T ≤ n) (hn : n ≤ 1000000) (w : World) (eg : ∀ args w, (callFunc F args).run Try.prog w = .ok (.enter F args) w)
    (hf : ∀ (m k : Nat), k < n → Calls Try.prog F (#[.int .i64 (k : Int)] ++ caps) (w.drewN m) fun e w' => e = .returned (.bool (decide (T ≤ k))) ∧ ∃ q, w' = w.drewN q) :
    Calls Try.prog 50 #[.int .i64 (n : Int), .func (.func F) #[] caps] w fun e w' => e = .returned (.int .i64 (T : Int)) ∧ ∃ q, w' = w.drewN q := by
  have HF := Lib.hid hf
  clear hf
  go_enter Try.func50, Try.ntmps50
  go_wp2_with fail
  go_loopw [5, 6] (fun s5 s6 wr => ∃ (lo hi q : Nat), s5 = .int .i64 (lo : Int) ∧ s6 = .int .i64 (hi : Int) ∧ lo ≤ T ∧ T ≤ hi ∧ hi ≤ n ∧ wr = w.drewN q) (fun s5 s6 _ => (intOf s6).toNat - (intOf s5).toNat)
  case atStart => exact ⟨0, n, 0, rfl, rfl, Nat.zero_le _, hT, Nat.le_refl _, rfl⟩
  case round =>
    obtain ⟨lo, hi, q, rfl, rfl, h1, h2, h3, rfl⟩ := hrel
    by_cases hlt : lo < hi
    · have hc := HF.out q ((lo + hi) / 2) (by omega)
      rw [show (((lo + hi) / 2 : Nat) : Int) = ((lo : Int) + (hi : Int)) / 2 by omega] at hc
      by_cases hp : T ≤ (lo + hi) / 2
      · rw [decide_eq_true hp] at hc
        go_wp2_with (go_at_fn F; refine hc.mono ?_; rintro e w' ⟨rfl, q2, rfl⟩)
        go_roundw
        case rel => exact ⟨lo, (lo + hi) / 2, q2, rfl, by go_num, h1, hp, by omega, rfl⟩
        case measure => simp [intOf]; omega
      · rw [decide_eq_false hp] at hc
        go_wp2_with (go_at_fn F; refine hc.mono ?_; rintro e w' ⟨rfl, q2, rfl⟩)
        go_roundw
        case rel => exact ⟨(lo + hi) / 2 + 1, hi, q2, by go_num, rfl, by omega, h2, h3, rfl⟩
        case measure => simp [intOf]; omega
    · obtain rfl : lo = T := by omega
      go_wp2_with fail
      go_ret
      exact ⟨rfl, q, rfl⟩

end Go.Proofs.Ytfleaaokbjgljaa
