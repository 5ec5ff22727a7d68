/- The chapter's example, and the laws TilesOf, TilesFew, walked. -/
import Derived.Test.YtjmglihdndknjaaTi7
import Derived.Test.YtjmglihdndknjaaTiRef6
namespace Go.Proofs.Ytjmglihdndknjaa
set_option linter.unusedVariables false
open Go.RowKit

theorem ints_four (w : World) (a b c d : Int) (t : TypeId) (g : Nat) (hg : g = w.heap.size) : IntsAt (w.alloc (.cells #[.int .i64 a, .int .i64 b, .int .i64 c, .int .i64 d] t)) (.slice (some ⟨g, 0, none⟩) 4 4) [a, b, c, d] := by
  subst hg
  refine ⟨_, 4, rfl, fun _ => ⟨w.heap.size, 0, rfl, by simp, fun k hk => ?_⟩⟩
  have : k = 0 ∨ k = 1 ∨ k = 2 ∨ k = 3 := by simp at hk; omega
  rcases this with rfl | rfl | rfl | rfl <;> simp
theorem ints_two (w : World) (a b : Int) (t : TypeId) (g : Nat) (hg : g = w.heap.size) : IntsAt (w.alloc (.cells #[.int .i64 a, .int .i64 b] t)) (.slice (some ⟨g, 0, none⟩) 2 2) [a, b] := by
  subst hg
  refine ⟨_, 2, rfl, fun _ => ⟨w.heap.size, 0, rfl, by simp, fun k hk => ?_⟩⟩
  have : k = 0 ∨ k = 1 := by simp at hk; omega
  rcases this with rfl | rfl <;> simp
theorem form_3 (id : Int) (k j : Nat) (h : k + j = 3) (hd : AtDep id k) : Node 3 id ∧ loN 3 id = id * 2 ^ j - 8 ∧ hiN 3 id = id * 2 ^ j - 8 + 2 ^ j - 1 := by
  have n := node_mk (l := 3) (k := k) (j := j) (by omega) (by omega) (by omega) hd
  have a := n.2.2.2.2.2.1
  have b := n.2.2.2.2.2.2.1
  rw [h] at a b
  exact ⟨n.1, by rw [a]; rfl, by rw [b]; rfl⟩
theorem ex_8 : Node 3 8 ∧ loN 3 8 = 0 ∧ hiN 3 8 = 0 := by have := form_3 8 3 0 rfl ⟨by decide, by decide⟩; simp at this; exact this
theorem ex_9 : Node 3 9 ∧ loN 3 9 = 1 ∧ hiN 3 9 = 1 := by have := form_3 9 3 0 rfl ⟨by decide, by decide⟩; simp at this; exact this
theorem ex_14 : Node 3 14 ∧ loN 3 14 = 6 ∧ hiN 3 14 = 6 := by have := form_3 14 3 0 rfl ⟨by decide, by decide⟩; simp at this; exact this
theorem ex_15 : Node 3 15 ∧ loN 3 15 = 7 ∧ hiN 3 15 = 7 := by have := form_3 15 3 0 rfl ⟨by decide, by decide⟩; simp at this; exact this
theorem ex_5 : Node 3 5 ∧ loN 3 5 = 2 ∧ hiN 3 5 = 3 := by have := form_3 5 2 1 rfl ⟨by decide, by decide⟩; simp at this; exact this
theorem ex_6 : Node 3 6 ∧ loN 3 6 = 4 ∧ hiN 3 6 = 5 := by have := form_3 6 2 1 rfl ⟨by decide, by decide⟩; simp at this; exact this
theorem ex_of : Good 3 [9, 5, 6, 14] ∧ ∀ x, Held 3 [9, 5, 6, 14] x ↔ 1 ≤ x ∧ x ≤ 6 := by
  obtain ⟨n9, a9, b9⟩ := ex_9
  obtain ⟨n5, a5, b5⟩ := ex_5
  obtain ⟨n6, a6, b6⟩ := ex_6
  obtain ⟨n14, a14, b14⟩ := ex_14
  refine ⟨⟨fun t ht => ?_, ?_⟩, fun x => ?_⟩
  · simp at ht; rcases ht with rfl | rfl | rfl | rfl <;> assumption
  · simp [Rel, a5, a6, a14, b9, b5, b6]
  · simp only [held_cons, a9, b9, a5, b5, a6, b6, a14, b14]
    constructor
    · rintro (g | g | g | g | g)
      · omega
      · omega
      · omega
      · omega
      · exact absurd g (held_nil 3 x)
    · intro g
      have : x = 1 ∨ (2 ≤ x ∧ x ≤ 3) ∨ (4 ≤ x ∧ x ≤ 5) ∨ x = 6 := by omega
      rcases this with q | q | q | q
      · exact .inl (by omega)
      · exact .inr (.inl q)
      · exact .inr (.inr (.inl q))
      · exact .inr (.inr (.inr (.inl (by omega))))
theorem ex_rest : Good 3 [8, 15] ∧ ∀ x, Held 3 [8, 15] x ↔ (0 ≤ x ∧ x < 2 ^ (3 : Int).toNat) ∧ ¬ Held 3 [9, 5, 6, 14] x := by
  obtain ⟨n8, a8, b8⟩ := ex_8
  obtain ⟨n15, a15, b15⟩ := ex_15
  refine ⟨⟨fun t ht => ?_, ?_⟩, fun x => ?_⟩
  · simp at ht; rcases ht with rfl | rfl <;> assumption
  · simp [Rel, a15, b8]
  · rw [ex_of.2]
    simp only [held_cons, a8, b8, a15, b15]
    have e : (2 : Int) ^ (3 : Int).toNat = 8 := rfl
    rw [e]
    constructor
    · rintro (g | g | g)
      · omega
      · omega
      · exact absurd g (held_nil 3 x)
    · intro g
      have : x = 0 ∨ x = 7 := by omega
      rcases this with q | q
      · exact .inl (by omega)
      · exact .inr (.inl (by omega))
def True1 (w : World) (e : Ending) (w' : World) : Prop := e = .returned (.bool true) ∧ Below w.heap.size w w'
set_option maxHeartbeats 1600000 in
theorem alive5_any (w : World) : Calls Try.prog 11 #[] w (True1 w) := by
  have H1 := Lib.hid (of_yes 3 1 6 w ⟨⟨by omega, by omega, by omega, by decide⟩, ⟨by omega, by omega, by omega, by decide⟩, by omega⟩)
  go_enter Try.func11, Try.ntmps11
  go_wp2_with fail
  refine H1.out.mono ?_
  rintro e w1 ⟨A1, c1, T, rfl, hints, hgood, hheld, hlen, hb1⟩
  obtain rfl : T = [9, 5, 6, 14] := uniq hgood ex_of.1 (fun x => by rw [hheld, ex_of.2])
  have HI := Lib.hid hints
  have HR := Lib.hid (rest_any 3 A1 4 c1 [9, 5, 6, 14] w1 hints (fun t ht => by simp at ht; omega) (by omega) (by omega) (by omega))
  have HB := Lib.hid hb1
  simp only [List.length_cons, List.length_nil]
  clear hints hgood hheld hlen H1 hb1
  go_wp2_with fail
  refine HR.out.mono ?_
  rintro e w2 (⟨_, A2, c2, T, rfl, hints, hgood, hheld, hlen, _, hb2⟩ | ⟨hno, _⟩)
  · obtain rfl : T = [8, 15] := uniq hgood ex_rest.1 (fun x => by rw [hheld, ex_rest.2])
    have HI2 := Lib.hid hints
    have HI1 := Lib.hid (HI.out.below hb2)
    have z1 := HB.out.size
    have HB2 := Lib.hid (HB.out.trans (hb2.mono z1))
    have z2 := HB2.out.size
    simp only [List.length_cons, List.length_nil]
    clear hints hgood hheld hlen HR hb2
    go_wp2_with fail
    refine (same_any A1 _ 4 4 c1 4 [9, 5, 6, 14] [9, 5, 6, 14] _ (HI1.out.below ((Below.refl _ _).alloc (Nat.le_refl _) _)) (ints_four _ _ _ _ _ _ _ rfl) (by omega) (by omega)).mono ?_
    rintro e w3 ⟨rfl, hb3⟩
    rw [show decide ([9, 5, 6, 14] = ([9, 5, 6, 14] : List Int)) = true from decide_eq_true rfl]
    have HB3 := Lib.hid ((HB2.out.alloc z2 _).trans (hb3.mono (by simp; omega)))
    have z3 := HB3.out.size
    have HI3 := Lib.hid ((HI2.out.below ((Below.refl _ _).alloc (Nat.le_refl _) _)).below hb3)
    clear hb3
    go_wp2_with fail
    refine (same_any A2 _ 2 2 c2 2 [8, 15] [8, 15] _ (HI3.out.below ((Below.refl _ _).alloc (Nat.le_refl _) _)) (ints_two _ _ _ _ _ rfl) (by omega) (by omega)).mono ?_
    rintro e w4 ⟨rfl, hb4⟩
    rw [show decide ([8, 15] = ([8, 15] : List Int)) = true from decide_eq_true rfl]
    have HB4 := Lib.hid ((HB3.out.alloc z3 _).trans (hb4.mono (by simp; omega)))
    clear hb4
    go_wp2_with fail
    go_ret
    exact ⟨rfl, HB4.out⟩
  · exfalso
    rcases hno with h | ⟨t, ht, h⟩
    · revert h; decide
    · simp at ht
      rcases ht with rfl | rfl | rfl | rfl
      · rw [(end_yes ex_9.1.1).2.2] at h; cases h
      · rw [(end_yes ex_5.1.1).2.2] at h; cases h
      · rw [(end_yes ex_6.1.1).2.2] at h; cases h
      · rw [(end_yes ex_14.1.1).2.2] at h; cases h

end Go.Proofs.Ytjmglihdndknjaa
