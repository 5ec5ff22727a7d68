/- The project's package tiles: what a call hands out, a run's tiles, whether nodes are tiles, and what they hold. -/
import Derived.Test.YtjmglihdndknjaaTi
import Derived.Test.YtjmglihdndknjaaTiNum2
namespace Go.Proofs.Ytjmglihdndknjaa
set_option linter.unusedVariables false
open Go.RowKit

def CutPost (w : World) (T : List Int) (e : Ending) (w' : World) : Prop := ∃ A c, e = .returned (.slice A T.length c) ∧ IntsAt w (.slice A T.length c) T ∧ w' = w
theorem cut_any (B : Nat) (v : Value) (T : List Int) (w : World) (h : OwnI 3 w B v T) : Calls Try.prog 25 #[v] w (CutPost w T) := by
  rcases ownI_form h with ⟨rfl, rfl⟩ | ⟨g, cap, rfl, hb, hg, hn, hc⟩
  · clear h
    go_enter Try.func25, Try.ntmps25
    go_wp2_with fail
    go_ret
    exact ⟨none, 0, rfl, ints_nil w, rfl⟩
  · have H := Lib.hid h
    have hc' : cap ≤ 9223372036854775807 := by unfold maxLen at hc; omega
    clear h hc
    generalize hT : T.length = n at *
    have HT := Lib.hid hT
    clear hT
    go_enter Try.func25, Try.ntmps25
    go_wp2_with fail
    go_ret
    refine ⟨some ⟨g, 0, none⟩, n, by rw [HT.out]; rfl, ?_, rfl⟩
    exact ⟨_, n, rfl, fun h0 => ⟨g, 0, rfl, hg, fun k hk => by rw [Nat.zero_add]; have q := H.out; rw [← HT.out] at q; exact ownI_cell q k hk⟩⟩
theorem isValue_any (l x : Int) (w : World) (L0 : -9223372036854775808 ≤ l) (L1 : l ≤ 9223372036854775807) (X0 : -9223372036854775808 ≤ x) (X1 : x ≤ 9223372036854775807) :
    Calls Try.prog 24 #[.int .i64 l, .int .i64 x] w fun e w' => e = .returned (.bool (leafB l x)) ∧ w = w' := by
  go_enter Try.func24, Try.ntmps24
  go_wp2_with (go_at_call 38; refine (leaf_any _ _ _ (by omega) (by omega) (by omega) (by omega)).mono ?_; rintro e w1 ⟨rfl, rfl⟩)
  go_ret
  exact ⟨rfl, rfl⟩
theorem tUniverse_any (l : Int) (w : World) (L0 : -9223372036854775808 ≤ l) (L1 : l ≤ 9223372036854775807) :
    Calls Try.prog 35 #[.int .i64 l] w fun e w' => e = .returned (.bool (uniB l)) ∧ w = w' := by
  have h := right_one l
  go_enter Try.func35, Try.ntmps35
  go_wp2_with (go_at_call 36; refine (right_any _ _ _ (by omega) (by omega) (by omega) (by omega)).mono ?_; rintro e w1 ⟨rfl, rfl⟩)
  go_ret
  exact ⟨ret_b (by first | rfl | exact h), rfl⟩
/-- a list of tiles is handed out: these hold what P says -/
def Told (l : Int) (P : Int → Prop) (m : Nat) (w : World) (e : Ending) (w' : World) : Prop :=
  ∃ A c T, e = .returned (.tuple #[.slice A (List.length T) c, .bool true]) ∧ IntsAt w' (.slice A T.length c) T ∧ Good l T ∧ (∀ x, Held l T x ↔ P x) ∧ T.length ≤ m ∧ Below w.heap.size w w'
def NoneTold (w : World) (e : Ending) (w' : World) : Prop := e = .returned (.tuple #[.slice none 0 0, .bool false]) ∧ Below w.heap.size w w'
def OfC (l a b : Int) : Prop := ValC l a ∧ ValC l b ∧ a ≤ b
set_option maxHeartbeats 800000 in
theorem of_yes (l a b : Int) (w : World) (h : OfC l a b) : Calls Try.prog 8 #[.int .i64 l, .int .i64 a, .int .i64 b] w (Told l (fun x => a ≤ x ∧ x ≤ b) (2 * l.toNat) w) := by
  obtain ⟨ha, hb, hab⟩ := h
  have h1 := (leaf_yes ha).2
  have h2 := (leaf_yes hb).2
  have hl1 := ha.1
  have hl2 := ha.2.1
  have b1 : (2 : Int) ^ l.toNat ≤ 281474976710656 := two_le l.toNat 48 (by omega)
  have a2 := ha.2.2
  have b2 := hb.2.2
  have HL := Lib.hid (lay_some w.heap.size l a b (.slice none 0 0) [] w (ownI_nil _ _ _) ⟨fun t h => by simp at h, List.Pairwise.nil⟩ hab ha hb (fun t h => by simp at h) (by simp) (Nat.le_refl _))
  clear ha hb
  go_enter Try.func8, Try.ntmps8
  go_wp2_with (go_at_call 24; refine (isValue_any _ _ _ (by omega) (by omega) (by omega) (by omega)).mono ?_; rintro e w1 ⟨rfl, rfl⟩)
  refine HL.out.mono ?_
  rintro e w1 ⟨v1, R1, rfl, hown, hlaid, hg, hat⟩
  have HO := Lib.hid hown
  have HG := Lib.hid hg
  obtain ⟨A1, m1, c1, rfl⟩ := own_slice hown
  clear hown hg hat
  go_wp2_with fail
  refine (cut_any _ _ _ _ HO.out).mono ?_
  rintro e w2 ⟨A2, c2, rfl, hints, rfl⟩
  have HI := Lib.hid hints
  generalize hn : R1.reverse.length = n2 at *
  have HN := Lib.hid hn
  clear hn hints
  go_wp2_with fail
  go_ret2
  obtain ⟨k1, k2, k3, k4⟩ := hlaid
  refine ⟨A2, c2, R1.reverse, by rw [HN.out]; rfl, by rw [HN.out]; exact HI.out, stack_good k1, fun x => ?_, by simp at k4; simpa using k4, below_grown HG.out (fun g hg => by simp [Value.ownBlock] at hg) (Nat.le_refl _)⟩
  rw [held_rev, k2]
  exact ⟨fun g => g.elim (fun g => absurd g (held_nil _ _)) id, .inr⟩
theorem of_no (l a b : Int) (w : World) (h : ¬ OfC l a b) (L0 : -9223372036854775808 ≤ l) (L1 : l ≤ 9223372036854775807) (X0 : -9223372036854775808 ≤ a) (X1 : a ≤ 9223372036854775807) (Y0 : -9223372036854775808 ≤ b) (Y1 : b ≤ 9223372036854775807) :
    Calls Try.prog 8 #[.int .i64 l, .int .i64 a, .int .i64 b] w (NoneTold w) := by
  rcases (show ¬ ValC l a ∨ (ValC l a ∧ ¬ ValC l b) ∨ (ValC l a ∧ ValC l b ∧ b < a) by
    by_cases h1 : ValC l a
    · by_cases h2 : ValC l b
      · exact .inr (.inr ⟨h1, h2, Int.not_le.1 fun g => h ⟨h1, h2, g⟩⟩)
      · exact .inr (.inl ⟨h1, h2⟩)
    · exact .inl h1) with h1 | ⟨h1, h2⟩ | ⟨h1, h2, h3⟩
  · have q1 := (leaf_no h1).2
    clear h h1
    go_enter Try.func8, Try.ntmps8
    go_wp2_with (go_at_call 24; refine (isValue_any _ _ _ (by omega) (by omega) (by omega) (by omega)).mono ?_; rintro e w1 ⟨rfl, rfl⟩)
    go_ret2
    exact ⟨rfl, Below.refl ..⟩
  · have q1 := (leaf_yes h1).2
    have q2 := (leaf_no h2).2
    clear h h1 h2
    go_enter Try.func8, Try.ntmps8
    go_wp2_with (go_at_call 24; refine (isValue_any _ _ _ (by omega) (by omega) (by omega) (by omega)).mono ?_; rintro e w1 ⟨rfl, rfl⟩)
    go_ret2
    exact ⟨rfl, Below.refl ..⟩
  · have q1 := (leaf_yes h1).2
    have q2 := (leaf_yes h2).2
    clear h h1 h2
    go_enter Try.func8, Try.ntmps8
    go_wp2_with (go_at_call 24; refine (isValue_any _ _ _ (by omega) (by omega) (by omega) (by omega)).mono ?_; rintro e w1 ⟨rfl, rfl⟩)
    go_ret2
    exact ⟨rfl, Below.refl ..⟩

end Go.Proofs.Ytjmglihdndknjaa
