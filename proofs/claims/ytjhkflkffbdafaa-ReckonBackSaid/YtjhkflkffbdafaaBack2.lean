/- The walk of the statement ReckonBack, way by way: for every input it returns true, and nothing that was there before is changed. -/
import Derived.Test.YtjhkflkffbdafaaBack
namespace Go.Proofs.Ytjhkflkffbdafaa
set_option linter.unusedVariables false
open Go.RowKit

set_option maxRecDepth 100000 in
set_option maxHeartbeats 8000000 in
theorem walk_reckonBack (a b c : Int) (A0 : -9223372036854775808 ≤ a) (A1 : a ≤ 9223372036854775807) (B0 : -9223372036854775808 ≤ b) (B1 : b ≤ 9223372036854775807) (C0 : -9223372036854775808 ≤ c) (C1 : c ≤ 9223372036854775807) (w : World) :
    Calls Try.prog 10 #[.int .i64 a, .int .i64 b, .int .i64 c] w fun e w' => e = .returned (.bool true) ∧ Below w.heap.size w w' := by
  have hb : Below w.heap.size w w := Below.refl _ _
  obtain ⟨t1, t2, t3, t4⟩ := ord_turn a b c
  have stage : (a < 0 ∨ (0 ≤ a ∧ b < 0) ∨ (0 ≤ a ∧ 0 ≤ b ∧ c ≤ 0) ∨ (0 ≤ a ∧ 0 ≤ b ∧ 0 < c ∧ c < b) ∨ (0 ≤ a ∧ 0 ≤ b ∧ 0 < c ∧ b ≤ c ∧ partB a b c = true ∧ 0 ≤ partN a b c ∧ partN a b c ≤ a ∧ partUpB a (c - b) c = true ∧ partUpN a (c - b) c = a - partN a b c)) := by
    by_cases h : 0 ≤ a ∧ 0 ≤ b ∧ 0 < c ∧ b ≤ c
    · exact .inr (.inr (.inr (.inr ⟨h.1, h.2.1, h.2.2.1, h.2.2.2, part_back h.1 A1 h.2.1 h.2.2.2 (by omega)⟩)))
    · omega
  have sums : sumB a b = false ∨ (sumB a b = true ∧ 0 ≤ a ∧ 0 ≤ b ∧ sumN a b ≤ 9223372036854775807 ∧ 0 ≤ sumN a b ∧ subB (sumN a b) b = true ∧ subN (sumN a b) b = a) := by
    cases h : sumB a b
    · exact .inl rfl
    · exact .inr ⟨rfl, sum_back h⟩
  have muls : mulB a b = false ∨ (mulB a b = true ∧ 0 ≤ a ∧ 0 ≤ b ∧ b ≤ 0) ∨ (mulB a b = true ∧ 0 ≤ a ∧ 0 < b ∧ mulN a b ≤ 9223372036854775807 ∧ 0 ≤ mulN a b ∧ quoB (mulN a b) b = true ∧ quoN (mulN a b) b = a ∧ upB (mulN a b) b = true ∧ upN (mulN a b) b = a) := by
    cases h : mulB a b
    · exact .inl rfl
    · have m := mul_back h
      by_cases hb : 0 < b
      · have d := mul_div h (show 1 ≤ b by omega)
        exact .inr (.inr ⟨rfl, m.1, hb, m.2.2.1, m.2.2.2, d.1, d.2.1, d.2.2.1, d.2.2.2⟩)
      · exact .inr (.inl ⟨rfl, m.1, m.2.1, by omega⟩)
  rcases stage with g | ⟨g1, g2⟩ | ⟨g1, g2, g3⟩ | ⟨g1, g2, g3, g4⟩ | ⟨g1, g2, g3, g4, p1, p2, p3, p4, p5⟩ <;> rcases sums with hs | ⟨hs, s1, s2, s3, s4, s5, s6⟩ <;> rcases muls with hm | ⟨hm, m1, m2, m3⟩ | ⟨hm, m1, m2, m3, m4, m5, m6, m7, m8⟩ <;>
    first
    | (exfalso; omega)
    | (go_enter Try.func10, Try.ntmps10
       go_wp2_with (first
         | (go_at_call 11; refine (carry2 hb (add_any a b _ A0 A1 B0 B1)).mono ?_; rintro e w' ⟨rfl, hb⟩)
         | (go_at_call 13; refine (carry2 hb (sub_any (sumN a b) b _ (by omega) (by omega) B0 B1)).mono ?_; rintro e w' ⟨rfl, hb⟩)
         | (go_at_call 16; refine (carry2 hb (mul_any a b _ A0 A1 B0 B1)).mono ?_; rintro e w' ⟨rfl, hb⟩)
         | (go_at_call 18; refine (div_any (mulN a b) b _ (by omega) (by omega) B0 B1).mono ?_; rintro e w' ⟨rfl, rfl⟩)
         | (go_at_call 20; refine (up_any (mulN a b) b _ (by omega) (by omega) B0 B1).mono ?_; rintro e w' ⟨rfl, rfl⟩)
         | (go_at_call 22; refine (carry2 hb (part_any a b c _ A0 A1 B0 B1 C0 C1)).mono ?_; rintro e w' ⟨rfl, hb⟩)
         | (go_at_call 24; refine (carry2 hb (partUp_any a (c - b) c _ A0 A1 (by omega) (by omega) C0 C1)).mono ?_; rintro e w' ⟨rfl, hb⟩)
         | (go_at_call 26; ((with_reducible refine (carry2 hb (order_any a b c a _ A0 A1 B0 B1 C0 C1 A0 A1)).mono ?_); rintro e w' ⟨rfl, hb⟩))
         | (go_at_call 26; ((with_reducible refine (carry2 hb (order_any c a a b _ C0 C1 A0 A1 A0 A1 B0 B1)).mono ?_); rintro e w' ⟨rfl, hb⟩))
         | (go_at_call 15; refine (carry1 hb (alive_any _)).mono ?_; rintro e w' ⟨rfl, hb⟩))
       go_ret
       exact ⟨rfl, hb⟩)

end Go.Proofs.Ytjhkflkffbdafaa
