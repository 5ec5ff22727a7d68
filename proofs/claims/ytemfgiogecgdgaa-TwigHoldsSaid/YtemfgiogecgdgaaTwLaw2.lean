/- The walks of the statements of layer twig that ask no answer of the document: TwigHolds, TwigGrafts: for every input each returns true, and nothing that was there before is changed. -/
import Derived.Test.YtemfgiogecgdgaaTwLaw
namespace Go.Proofs.Ytemfgiogecgdgaa
set_option linter.unusedVariables false
open Go.RowKit

set_option maxHeartbeats 1600000 in
theorem walk_twigHolds (l id x : Int) (L0 : -9223372036854775808 ≤ l) (L1 : l ≤ 9223372036854775807) (N0 : -9223372036854775808 ≤ id) (N1 : id ≤ 9223372036854775807) (X0 : -9223372036854775808 ≤ x) (X1 : x ≤ 9223372036854775807) (w : World) :
    Calls Try.prog 7 #[.int .i64 l, .int .i64 id, .int .i64 x] w fun e w' => e = .returned (.bool true) ∧ Below w.heap.size w w' := by
  by_cases hr : RightC l id
  · have hR := right_yes hr
    have hE := (end_yes hr).2.2
    have hi := right_id hr N1
    have hi0 := hr.2.2.1
    have hb := end_bd l id N1
    obtain ⟨hb0, hb1, hb2, hb3⟩ := hb
    have hc := end_bd l (2 * id + 1) (by omega)
    obtain ⟨hc0, hc1, hc2, hc3⟩ := hc
    have HK : Hid ((kidN l id = 2 * id ∧ kid2N l id = 2 * id + 1 ∧ kidB l id = true ∧ endB l (2 * id) = true ∧ endB l (2 * id + 1) = true ∧ loN l (2 * id) = loN l id ∧ hiN l (2 * id + 1) = hiN l id ∧ hiN l (2 * id) = loN l (2 * id + 1) - 1) ∨ kidB l id = false) := by
      by_cases hk : KidC l id
      · have a := kid_yes hk
        have b := kid_ends hk N1
        exact .inl ⟨a.1, a.2.1, a.2.2, b⟩
      · exact .inr (kid_no hk).2.2
    have HX : Hid ((leafB l x = true ∧ aboveB id (leafN l x) = true ∧ loN l id ≤ x ∧ x ≤ hiN l id) ∨ (leafB l x = true ∧ aboveB id (leafN l x) = false ∧ loN l id ≤ x ∧ hiN l id < x) ∨ (leafB l x = true ∧ aboveB id (leafN l x) = false ∧ x < loN l id) ∨ leafB l x = false) := by
      by_cases hx : ValC l x
      · have a := (leaf_yes hx).2
        have b := above_leaf hr hx N1
        by_cases g1 : loN l id ≤ x
        · by_cases g2 : x ≤ hiN l id
          · exact .inl ⟨a, b.trans (decide_eq_true ⟨g1, g2⟩), g1, g2⟩
          · exact .inr (.inl ⟨a, b.trans (decide_eq_false (fun g => g2 g.2)), g1, by omega⟩)
        · exact .inr (.inr (.inl ⟨a, b.trans (decide_eq_false (fun g => g1 g.1)), by omega⟩))
      · exact .inr (.inr (.inr (leaf_no hx).2))
    have hlb : leafN l x ≤ 9223372036854775807 ∧ -9223372036854775808 ≤ leafN l x := by
      by_cases hx : ValC l x
      · have := (leaf_yes hx).1
        have := two_le l.toNat 48 (by have := hr.1; have := hr.2.1; omega)
        have := hx.2.2
        have := hx.2.2.2
        have := two_pos l.toNat
        omega
      · rw [(leaf_no hx).1]; omega
    obtain ⟨hl1, hl0⟩ := hlb
    clear hr
    rcases HK.out with ⟨k1, k2, k3, k4, k5, k6, k7, k8⟩ | k3
    all_goals
      rcases HX.out with ⟨x1, x2, x3, x4⟩ | ⟨x1, x2, x3, x4⟩ | ⟨x1, x2, x3⟩ | x1
      all_goals
        clear HK HX
        go_enter Try.func7, Try.ntmps7
        go_wp2_with (first
          | (go_at_call 15; refine (ends_any _ _ _ L0 L1 (by omega) (by omega)).mono ?_; rintro e w1 ⟨rfl, rfl⟩)
          | (go_at_call 17; refine (right_any _ _ _ L0 L1 N0 N1).mono ?_; rintro e w1 ⟨rfl, rfl⟩)
          | (go_at_call 24; refine (kids_any _ _ _ L0 L1 N0 N1).mono ?_; rintro e w1 ⟨rfl, rfl⟩)
          | (go_at_call 9; refine (leaf_any _ _ _ L0 L1 X0 X1).mono ?_; rintro e w1 ⟨rfl, rfl⟩)
          | (go_at_call 28; refine (above_any _ _ _ N0 N1 hl0 hl1).mono ?_; rintro e w1 ⟨rfl, rfl⟩)
          | (go_at_call 19; refine (alive_any _).mono ?_; rintro e w1 ⟨rfl, rfl⟩))
        go_ret
        exact ⟨rfl, Below.refl _ _⟩
  · have hR := right_no hr
    obtain ⟨e1, e2, e3⟩ := end_no hr
    clear hr
    go_enter Try.func7, Try.ntmps7
    go_wp2_with (first
      | (go_at_call 15; refine (ends_any _ _ _ L0 L1 N0 N1).mono ?_; rintro e w1 ⟨rfl, rfl⟩)
      | (go_at_call 17; refine (right_any _ _ _ L0 L1 N0 N1).mono ?_; rintro e w1 ⟨rfl, rfl⟩)
      | (go_at_call 19; refine (alive_any _).mono ?_; rintro e w1 ⟨rfl, rfl⟩))
    go_ret
    exact ⟨rfl, Below.refl _ _⟩

set_option maxHeartbeats 1600000 in
theorem walk_twigGrafts (l id b : Int) (L0 : -9223372036854775808 ≤ l) (L1 : l ≤ 9223372036854775807) (N0 : -9223372036854775808 ≤ id) (N1 : id ≤ 9223372036854775807) (X0 : -9223372036854775808 ≤ b) (X1 : b ≤ 9223372036854775807) (w : World) :
    Calls Try.prog 8 #[.int .i64 l, .int .i64 id, .int .i64 b] w fun e w' => e = .returned (.bool true) ∧ Below w.heap.size w w' := by
  have hcs : ¬ RightC l id ∨ (RightC l id ∧ b < 0) ∨ (RightC l id ∧ 0 ≤ b ∧ 48 < b) ∨ (RightC l id ∧ 0 ≤ b ∧ b ≤ 48) := by
    by_cases hr : RightC l id
    · rcases (show b < 0 ∨ (0 ≤ b ∧ 48 < b) ∨ (0 ≤ b ∧ b ≤ 48) by omega) with g | g | g
      · exact .inr (.inl ⟨hr, g⟩)
      · exact .inr (.inr (.inl ⟨hr, g⟩))
      · exact .inr (.inr (.inr ⟨hr, g⟩))
    · exact .inl hr
  rcases hcs with h | h | h | h
  · have hE := (end_no h).2.2
    clear h
    go_enter Try.func8, Try.ntmps8
    go_wp2_with (first
      | (go_at_call 15; refine (ends_any _ _ _ L0 L1 N0 N1).mono ?_; rintro e w1 ⟨rfl, rfl⟩)
      | (go_at_call 19; refine (alive_any _).mono ?_; rintro e w1 ⟨rfl, rfl⟩))
    go_ret
    exact ⟨rfl, Below.refl _ _⟩
  · have hE := (end_yes h.1).2.2
    have h2 := h.2
    clear h
    go_enter Try.func8, Try.ntmps8
    go_wp2_with (first
      | (go_at_call 15; refine (ends_any _ _ _ L0 L1 N0 N1).mono ?_; rintro e w1 ⟨rfl, rfl⟩)
      | (go_at_call 19; refine (alive_any _).mono ?_; rintro e w1 ⟨rfl, rfl⟩))
    go_ret
    exact ⟨rfl, Below.refl _ _⟩
  · have hE := (end_yes h.1).2.2
    obtain ⟨_, h2, h3⟩ := h
    go_enter Try.func8, Try.ntmps8
    go_wp2_with (first
      | (go_at_call 15; refine (ends_any _ _ _ L0 L1 N0 N1).mono ?_; rintro e w1 ⟨rfl, rfl⟩)
      | (go_at_call 19; refine (alive_any _).mono ?_; rintro e w1 ⟨rfl, rfl⟩))
    go_ret
    exact ⟨rfl, Below.refl _ _⟩
  · obtain ⟨hr, h2, h3⟩ := h
    have hE := (end_yes hr).2.2
    obtain ⟨hb0, hb1, hb2, hb3⟩ := end_bd l id N1
    have l1 := hr.1
    have l2 := hr.2.1
    have pb : (2 : Int) ^ b.toNat ≤ 281474976710656 := two_le b.toNat 48 (by omega)
    have pp : (0 : Int) < 2 ^ b.toNat := two_pos _
    rcases (show (b ≤ 48 - l ∧ b < l) ∨ (b ≤ 48 - l ∧ l ≤ b) ∨ (48 - l < b ∧ b < l) ∨ (48 - l < b ∧ l ≤ b) by omega) with ⟨g, g'⟩ | ⟨g, g'⟩ | ⟨g, g'⟩ | ⟨g, g'⟩
    · have ⟨a1, a2, a3, a4, a5, a6⟩ := graft_ends hr N1 h2 g
      have ⟨c1, c2, c3, c4, c5, c6⟩ := prune_ends hr N1 h2 g'
      have ga := (gra_yes a1).2
      have gp := (pru_yes c1).2
      clear hr a1 c1
      go_enter Try.func8, Try.ntmps8
      go_wp2_with (first
        | (go_at_call 15; refine (ends_any _ _ _ (by omega) (by omega) (by omega) (by omega)).mono ?_; rintro e w1 ⟨rfl, rfl⟩)
        | (go_at_call 30; refine (gra_any _ _ _ N0 N1 X0 X1).mono ?_; rintro e w1 ⟨rfl, G1⟩)
        | (go_at_call 32; refine (pru_any _ _ _ N0 N1 (by omega) (by omega)).mono ?_; rintro e w2 ⟨rfl, rfl⟩)
        | (go_at_call 19; refine (alive_any _).mono ?_; rintro e w2 ⟨rfl, rfl⟩))
      go_ret
      exact ⟨rfl, G1⟩
    · have ⟨a1, a2, a3, a4, a5, a6⟩ := graft_ends hr N1 h2 g
      have ga := (gra_yes a1).2
      clear hr a1
      go_enter Try.func8, Try.ntmps8
      go_wp2_with (first
        | (go_at_call 15; refine (ends_any _ _ _ (by omega) (by omega) (by omega) (by omega)).mono ?_; rintro e w1 ⟨rfl, rfl⟩)
        | (go_at_call 30; refine (gra_any _ _ _ N0 N1 X0 X1).mono ?_; rintro e w1 ⟨rfl, G1⟩)
        | (go_at_call 19; refine (alive_any _).mono ?_; rintro e w2 ⟨rfl, rfl⟩))
      go_ret
      exact ⟨rfl, G1⟩
    · have ⟨c1, c2, c3, c4, c5, c6⟩ := prune_ends hr N1 h2 g'
      have gp := (pru_yes c1).2
      clear hr c1
      go_enter Try.func8, Try.ntmps8
      go_wp2_with (first
        | (go_at_call 15; refine (ends_any _ _ _ (by omega) (by omega) (by omega) (by omega)).mono ?_; rintro e w1 ⟨rfl, rfl⟩)
        | (go_at_call 32; refine (pru_any _ _ _ N0 N1 (by omega) (by omega)).mono ?_; rintro e w2 ⟨rfl, rfl⟩)
        | (go_at_call 19; refine (alive_any _).mono ?_; rintro e w2 ⟨rfl, rfl⟩))
      go_ret
      exact ⟨rfl, Below.refl _ _⟩
    · clear hr
      go_enter Try.func8, Try.ntmps8
      go_wp2_with (first
        | (go_at_call 15; refine (ends_any _ _ _ (by omega) (by omega) (by omega) (by omega)).mono ?_; rintro e w1 ⟨rfl, rfl⟩)
        | (go_at_call 19; refine (alive_any _).mono ?_; rintro e w2 ⟨rfl, rfl⟩))
      go_ret
      exact ⟨rfl, Below.refl _ _⟩

end Go.Proofs.Ytemfgiogecgdgaa
