/- The chapter's example, walked: the statements of layer roll call it. -/
import Derived.Test.YtiihckbjmhhioaaRo6
import Derived.Test.YtiihckbjmhhioaaRo8
import Derived.Test.YtiihckbjmhhioaaRoRef4
import Derived.Test.YtiihckbjmhhioaaRoRef5
namespace Go.Proofs.Ytiihckbjmhhioaa
set_option linter.unusedVariables false
open Go.RowKit

/-- four nodes, laid out just now -/
theorem lit4 (w : World) (t : TypeId) (a b c d e f g h : Int) : NodesAt (w.alloc (.cells #[.int .i64 a, .int .i64 b, .int .i64 c, .int .i64 d, .int .i64 e, .int .i64 f, .int .i64 g, .int .i64 h] t)) (.slice (some ⟨w.heap.size, 0, none⟩) 4 4) [(a, b), (c, d), (e, f), (g, h)] :=
  ⟨_, 4, rfl, by simp, by unfold maxLen; omega, fun e => by simp at e, fun _ => ⟨w.heap.size, 0, rfl, by simp, fun k hk => by
    match k, hk with
    | 0, _ => simp
    | 1, _ => simp
    | 2, _ => simp
    | 3, _ => simp⟩⟩
theorem lit2 (w : World) (t : TypeId) (a b c d : Int) : NodesAt (w.alloc (.cells #[.int .i64 a, .int .i64 b, .int .i64 c, .int .i64 d] t)) (.slice (some ⟨w.heap.size, 0, none⟩) 2 2) [(a, b), (c, d)] :=
  ⟨_, 2, rfl, by simp, by unfold maxLen; omega, fun e => by simp at e, fun _ => ⟨w.heap.size, 0, rfl, by simp, fun k hk => by
    match k, hk with
    | 0, _ => simp
    | 1, _ => simp⟩⟩
def exF : List Nd := [(5, 2), (3, 1), (5, 4), (7, 0)]
def exP : List Nd := [(1, 1), (2, 1), (3, 1), (5, 1)]
theorem exF_bd : NBds exF := by intro n hn; simp [exF] at hn; rcases hn with rfl | rfl | rfl | rfl <;> decide
theorem exP_bd : NBds exP := by intro n hn; simp [exP] at hn; rcases hn with rfl | rfl | rfl | rfl <;> decide
theorem exF_yes : foldB exF = true := by decide
theorem exF_is {F : List Nd} (h : FoldOf exF F) : F = [(3, 1), (5, 6)] := by
  have i := h.inv (by decide)
  refine good_uniq F _ i.good ⟨by decide, by decide⟩ fun id => ?_
  rw [i.at_]
  simp only [exF, sumAt]
  by_cases h3 : (3 : Int) = id <;> by_cases h5 : (5 : Int) = id <;> by_cases h7 : (7 : Int) = id <;> simp [h3, h5, h7] <;> omega
theorem exH : hiN 2 1 = 3 ∧ hiN 2 2 = 1 ∧ hiN 2 3 = 3 ∧ hiN 2 5 = 1 := by decide
theorem exP_yes : rollB 2 exP = true := by
  refine roll_yes ⟨by decide, by decide, ?_, by decide⟩
  intro n hn
  simp [exP] at hn
  rcases hn with rfl | rfl | rfl | rfl <;> decide
theorem exP_srt : Srt (keyA (hiN 2)) exP [(5, 1), (2, 1), (3, 1), (1, 1)] := by
  obtain ⟨k1, k2, k3, k5⟩ := exH
  have s0 := Srt.small (keyA (hiN 2)) (L := ([] : List Nd)) (by simp)
  have s1 := srt_ins (keyA_ahd (hiN 2)) (P := []) (Q := []) (x := ((1, 1) : Nd)) s0 (by simp) (by simp)
  have s2 := srt_ins (keyA_ahd (hiN 2)) (P := []) (Q := [((1, 1) : Nd)]) (x := ((2, 1) : Nd)) s1 (by intro q hq; simp at hq; subst hq; simp [keyA, k1, k2]) (by simp)
  have s3 := srt_ins (keyA_ahd (hiN 2)) (P := [((2, 1) : Nd)]) (Q := [((1, 1) : Nd)]) (x := ((3, 1) : Nd)) s2 (by intro q hq; simp at hq; subst hq; simp [keyA, k1, k3]) (by intro p hp; simp at hp; subst hp; simp [keyA, k2, k3])
  exact srt_ins (keyA_ahd (hiN 2)) (P := []) (Q := [((2, 1) : Nd), (3, 1), (1, 1)]) (x := ((5, 1) : Nd)) s3 (by intro q hq; simp at hq; rcases hq with rfl | rfl | rfl <;> simp [keyA, k1, k2, k3, k5]) (by simp)
set_option maxHeartbeats 3200000 in
set_option maxRecDepth 100000 in
theorem roAlive_any (w : World) : Calls Try.prog 8 #[] w fun e w' => e = .returned (.bool true) ∧ Below w.heap.size w w' := by
  go_enter Try.func8, Try.ntmps8
  go_wp2_with fail
  refine ((fold_any _ _ _ exF _ (lit4 w 37 5 2 3 1 5 4 7 0) exF_bd (by omega)).mono (fun _ _ q => fold_is_yes exF_yes q)).mono ?_
  rintro e w1 ⟨F, A1, c1, rfl, hF, hn1, hb1⟩
  obtain rfl := exF_is hF
  have HN1 := Lib.hid hn1
  clear hF hn1
  go_wp2_with fail
  refine ((post_any 2 _ _ _ exP _ (lit4 w1 37 1 1 2 1 3 1 5 1) exP_bd (by omega) (by omega) (by omega)).mono (fun _ _ q => post_is_yes exP_yes q)).mono ?_
  rintro e w2 ⟨T, A2, c2, rfl, hT, hn2, hb2⟩
  obtain rfl := Srt.uniq (keyA_ahd (hiN 2)) hT exP_srt
  obtain ⟨_, _, _, hat⟩ := nodes_cells hn2
  obtain ⟨b2, o2, rfl, hin⟩ := hat (by simp)
  have hbl := hin.1
  have d0 := (hin.2 0 (by simp)).1
  have d1 := (hin.2 1 (by simp)).1
  have d2 := (hin.2 2 (by simp)).1
  have d3 := (hin.2 3 (by simp)).1
  simp at d0 d1 d2 d3
  have z1 := hb1.size
  have z2 := hb2.size
  simp at z1 z2
  have hb12 : Below w.heap.size w w2 := (((Below.refl _ _).alloc (Nat.le_refl _) _).trans (hb1.mono (by simp))).trans ((((Below.refl _ _).alloc (Nat.le_refl _) _).trans (hb2.mono (by simp))).mono (by omega))
  have HN2 := Lib.hid (HN1.out.below (((Below.refl _ _).alloc (Nat.le_refl _) _).trans (hb2.mono (by simp))))
  clear hT hn2 hat hin hb1 hb2
  go_wp2_with fail
  have hsm : sameB [(3, 1), (5, 6)] [(3, 1), (5, 6)] = true := same_self _
  refine (rSame_any A1 _ 2 c1 2 2 [(3, 1), (5, 6)] [(3, 1), (5, 6)] _ (HN2.out.below ((Below.refl _ _).alloc (Nat.le_refl _) _)) (lit2 w2 37 3 1 5 6) (by omega) (by omega)).mono ?_
  rintro e w3 ⟨rfl, q, rfl⟩
  go_wp2_with fail
  go_ret
  exact ⟨rfl, drewN_below (hb12.alloc hb12.size _) _⟩
/-- the ending of a law's walk -/
def LawPost (w : World) (e : Ending) (w' : World) : Prop := e = .returned (.bool true) ∧ Below w.heap.size w w'
set_option maxHeartbeats 3200000 in
set_option maxRecDepth 100000 in
theorem walk_rollSorts (A1 : Option Addr) (n1 c1 : Nat) (L : List Nd) (A2 : Option Addr) (n2 c2 : Nat) (M : List Nd) (B1 : NBds L) (m1 : n1 ≤ 9223372036854775807) (B2 : NBds M) (m2 : n2 ≤ 9223372036854775807) (w : World) (H1 : NodesAt w (.slice A1 n1 c1) L) (H2 : NodesAt w (.slice A2 n2 c2) M) :
    Calls Try.prog 3 #[.slice A1 n1 c1, .slice A2 n2 c2] w fun e w' => e = .returned (.bool true) ∧ Below w.heap.size w w' := by
  have HA := Lib.hid H1
  have HB := Lib.hid H2
  clear H1 H2
  by_cases hn1 : 150 < n1
  · go_enter Try.func3, Try.ntmps3
    go_wp2_with (go_at_call 8; refine (roAlive_any _).mono ?_; rintro e w1 ⟨rfl, hb1⟩)
    go_ret
    exact ⟨rfl, hb1⟩
  · by_cases hn2 : 150 < n2
    · go_enter Try.func3, Try.ntmps3
      go_wp2_with (go_at_call 8; refine (roAlive_any _).mono ?_; rintro e w1 ⟨rfl, hb1⟩)
      go_ret
      exact ⟨rfl, hb1⟩
    · have hsm := same_self L
      go_enter Try.func3, Try.ntmps3
      go_wp2_with fail
      refine (sorted_any _ _ _ L _ HA.out (by omega)).mono ?_
      rintro e w1 ⟨S, A3, c3, rfl, hs, hnS, _, hb1⟩
      have hzw1 := hb1.size
      obtain ⟨m, hm⟩ : ∃ m, m = S.length := ⟨_, rfl⟩
      have hml : m ≤ 1000000 := by rw [hm, hs.len, ← (nodes_cells HA.out).1]; omega
      rw [← hm] at hnS ⊢
      have HM := Lib.hid hm
      have HS := Lib.hid hs
      have NS := Lib.hid hnS
      clear hm hs hnS
      go_wp2_with fail
      refine (rSorted_any _ _ _ L _ (HA.out.below hb1) (by omega)).mono ?_
      rintro e w2 ⟨S2, A4, c4, rfl, hs2, hnS2, _, hb2⟩
      obtain rfl := Srt.uniq idA_ahd HS.out hs2
      have hzw2 := hb2.size
      have e2 : S.length = m := HM.out.symm
      rw [e2] at hnS2 ⊢
      have NS2 := Lib.hid hnS2
      have hb12 : Below w.heap.size w w2 := hb1.trans (hb2.mono hb1.size)
      have hss := same_self S
      clear e2 hnS2 hs2
      go_wp2_with fail
      refine (rSame_any _ _ _ _ _ _ S S _ (NS.out.below hb2) NS2.out hml hml).mono ?_
      rintro e w3 ⟨rfl, q3, rfl⟩
      go_wp2_with fail
      refine (rollSame_any _ _ _ _ _ _ L M _ (HA.out.below (drewN_below hb12 _)) (HB.out.below (drewN_below hb12 _)) (by omega) (by omega)).mono ?_
      rintro e w4 ⟨rfl, q4, rfl⟩
      go_wp2_with fail
      refine (rSame_any _ _ _ _ _ _ L M _ (HA.out.below (drewN_below hb12 _)) (HB.out.below (drewN_below hb12 _)) (by omega) (by omega)).mono ?_
      rintro e w5 ⟨rfl, q5, rfl⟩
      go_wp2_with fail
      refine (rollSame_any _ _ _ _ _ _ L L _ (HA.out.below (drewN_below hb12 _)) (HA.out.below (drewN_below hb12 _)) (by omega) (by omega)).mono ?_
      rintro e w6 ⟨rfl, q6, rfl⟩
      go_wp2_with (go_at_call 8; refine (roAlive_any _).mono ?_; rintro e w7 ⟨rfl, hb7⟩)
      go_ret
      exact ⟨rfl, (drewN_below hb12 _).trans (hb7.mono hb12.size)⟩

end Go.Proofs.Ytiihckbjmhhioaa
