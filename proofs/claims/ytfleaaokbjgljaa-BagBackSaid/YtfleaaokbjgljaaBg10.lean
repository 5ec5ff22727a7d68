/- The project's package bag: Same, Wider, Image. -/
import Derived.Test.YtfleaaokbjgljaaBg9
namespace Go.Proofs.Ytfleaaokbjgljaa
set_option linter.unusedVariables false
set_option maxRecDepth 100000
open Go.RowKit
attribute [local go_sem ↓] Go.wp_at_zero Go.wp_at_succ

def bsamB (l m : Int) (L M : List Nd) : Bool := decide (l = m ∧ L = M)
theorem bgSame_nil (w : World) : Calls Try.prog 22 #[.pointer none, .pointer none] w fun e w' => e = .returned (.bool true) ∧ w = w' := by
  go_enter Try.func22, Try.ntmps22
  go_wp2_with fail
  go_ret
  exact ⟨rfl, rfl⟩
theorem bgSame_left (p : Nat) (w : World) : Calls Try.prog 22 #[.pointer (some ⟨p, 0, none⟩), .pointer none] w fun e w' => e = .returned (.bool false) ∧ w = w' := by
  have hq : ∀ w, (binOp .eql 24 (.pointer (some ⟨p, 0, none⟩)) (.pointer none)).run Try.prog w = .ok (.bool false) w := fun _ => by kernel_rfl
  go_enter Try.func22, Try.ntmps22
  go_wp2_with fail
  go_ret
  exact ⟨rfl, rfl⟩
theorem bgSame_right (p : Nat) (w : World) : Calls Try.prog 22 #[.pointer none, .pointer (some ⟨p, 0, none⟩)] w fun e w' => e = .returned (.bool false) ∧ w = w' := by
  have hq : ∀ w, (binOp .eql 24 (.pointer none) (.pointer (some ⟨p, 0, none⟩))).run Try.prog w = .ok (.bool false) w := fun _ => by kernel_rfl
  go_enter Try.func22, Try.ntmps22
  go_wp2_with fail
  go_ret
  exact ⟨rfl, rfl⟩
set_option maxHeartbeats 1600000 in
theorem bgSame_any {B B2 g g2 : Nat} {l m : Int} {L M : List Nd} {v v2 : Value} (w : World) (d : BgA w B g l L v) (d2 : BgA w B2 g2 m M v2) (hn : L.length ≤ 100000) (hn2 : M.length ≤ 100000) :
    Calls Try.prog 22 #[.pointer (some ⟨g, 0, none⟩), .pointer (some ⟨g2, 0, none⟩)] w fun e w' => e = .returned (.bool (bsamB l m L M)) ∧ ∃ q, w' = w.drewN q := by
  obtain ⟨A, n, c, rfl⟩ := ownNd_slice d.row
  obtain ⟨A2, n2, k2, rfl⟩ := ownNd_slice d2.row
  obtain ⟨c0, c1, c2⟩ := d.cells
  obtain ⟨e0, e1, e2⟩ := d2.cells
  by_cases q : l = m
  · subst q
    have HB : Hid (bsamB l l L M = sameB L M) := by show _ = _; simp [bsamB, sameB]
    have EQ := Lib.hid (fun k => rdEqual_any A A2 n c n2 k2 L M (w.drewN k) (d.nodes.below (drewN_below (Below.refl _ _) k)) (d2.nodes.below (drewN_below (Below.refl _ _) k)) (by have := (nodes_cells d.nodes).1; omega) (by have := (nodes_cells d2.nodes).1; omega))
    clear d d2
    go_enter Try.func22, Try.ntmps22
    go_wp2_with fail
    go_quiet ((go_at_call 45; exact Calls.quiet_of (EQ.out _)))
    go_wp2_with fail
    go_ret
    exact ⟨ret_b HB.out.symm, _, rfl⟩
  · have HB : Hid (bsamB l m L M = false) := decide_eq_false fun h => q h.1
    have q' : (l == m) = false := by simpa using q
    clear d d2
    go_enter Try.func22, Try.ntmps22
    go_wp2_with fail
    go_quiet (fail)
    go_wp2_with fail
    go_ret
    exact ⟨ret_b HB.out.symm, _, rfl⟩
theorem bgWider_nil (a : Int) (w : World) : Calls Try.prog 28 #[.pointer none, .int .i64 a] w fun e w' => e = .returned (.tuple #[.pointer none, .int .i64 1]) ∧ w = w' := by
  go_enter Try.func28, Try.ntmps28
  go_wp2_with fail
  go_ret2
  exact ⟨rfl, rfl⟩
theorem bgWider_no {B g : Nat} {l : Int} {L : List Nd} {v : Value} (m : Int) (w : World) (d : BgA w B g l L v) (h : m < l ∨ 48 < m) : Calls Try.prog 28 #[.pointer (some ⟨g, 0, none⟩), .int .i64 m] w fun e w' => e = .returned (.tuple #[.pointer none, .int .i64 2]) ∧ w = w' := by
  obtain ⟨c0, c1, c2⟩ := d.cells
  clear d
  by_cases q : m < l
  · go_enter Try.func28, Try.ntmps28
    go_wp2_with fail
    go_ret2
    exact ⟨rfl, rfl⟩
  · have q2 : 48 < m := by omega
    clear h
    go_enter Try.func28, Try.ntmps28
    go_wp2_with fail
    go_ret2
    exact ⟨rfl, rfl⟩
set_option maxHeartbeats 1600000 in
theorem bgWider_any {B g : Nat} {l : Int} {L : List Nd} {v : Value} (m : Int) (w : World) (d : BgA w B g l L v) (hn : L.length ≤ 100000) (h1 : l ≤ m) (h2 : m ≤ 48) : Calls Try.prog 28 #[.pointer (some ⟨g, 0, none⟩), .int .i64 m] w fun e w' =>
    ∃ g2 v2, e = .returned (.tuple #[.pointer (some ⟨g2, 0, none⟩), .int .i64 0]) ∧ BgA w' w.heap.size g2 m L v2 ∧ Below w.heap.size w w' := by
  obtain ⟨c0, c1, c2⟩ := d.cells
  have hg := Lib.hid d.lt.2.1
  have BC := Lib.hid (wider_bag d.bag h1 h2)
  have IT := Lib.hid (fun w1 (hb : Below w.heap.size w w1) => (bgItems_any w1 (d.below hb) (by omega)).mono (R' := fun e w' => ∃ A m c, e = .returned (.slice A m c) ∧ OwnNd 31 w' w1.heap.size (.slice A m c) L ∧ Below w1.heap.size w1 w') fun e w' ⟨v, a, b, c⟩ => by
    obtain ⟨A, m, k, rfl⟩ := ownNd_slice b
    exact ⟨A, m, k, a, b, c⟩)
  have h1' : ¬ m < l := by omega
  have h2' : ¬ 48 < m := by omega
  clear d
  generalize hT : sumC L = T at *
  have HT := Lib.hid hT
  clear hT
  go_enter Try.func28, Try.ntmps28
  go_wp2_with fail
  go_region_held3 (fun w' => w'.cell? ⟨g, 1, none⟩ = some (.int .i64 T) ∧ Below w.heap.size w w')
    (first | assumption | (exact held1 (by assumption) (by assumption) hg.out) | (exact held1 (by assumption) ((Below.refl _ _).alloc (Nat.le_refl _) _) hg.out) | (exact held1N (by assumption) _) | (exact ⟨c1, below_drew _⟩))
    (first | (go_at_call 33; refine (IT.out _ (held1B (p := ⟨g, 1, none⟩) (x := .int .i64 T) (by assumption))).mono ?_; rintro e w1 ⟨A5, m5, c5, rfl, hown, hb1⟩))
  rename_i hH
  go_wp2_with fail
  go_ret2
  refine ⟨w1.heap.size, .slice A5 m5 c5, rfl, ?_, hH.2⟩
  have hw : w.heap.size ≤ w1.heap.size := hb1.size
  have q := Bg.make (TB := 67) (TR := 31) (by decide) BC.out (own_low (B2 := w.heap.size) hown (Nat.le_refl _)) hw
  rw [HT.out] at q
  exact q

end Go.Proofs.Ytfleaaokbjgljaa
