/- The walks of the statements RollTells, RollPosts and RollFolds of layer roll: for every input each returns true, and nothing that was there before is changed. -/
import Derived.Test.YtiihckbjmhhioaaRoLaw
namespace Go.Proofs.Ytiihckbjmhhioaa
set_option linter.unusedVariables false
open Go.RowKit

set_option maxHeartbeats 3200000 in
set_option maxRecDepth 100000 in
theorem walk_rollTells (l : Int) (A1 : Option Addr) (n1 c1 : Nat) (L : List Nd) (id : Int) (L0 : -9223372036854775808 ≤ l) (L1 : l ≤ 9223372036854775807) (B1 : NBds L) (m1 : n1 ≤ 9223372036854775807) (I0 : -9223372036854775808 ≤ id) (I1 : id ≤ 9223372036854775807) (w : World) (H1 : NodesAt w (.slice A1 n1 c1) L) :
    Calls Try.prog 4 #[.int .i64 l, .slice A1 n1 c1, .int .i64 id] w fun e w' => e = .returned (.bool true) ∧ Below w.heap.size w w' := by
  have HA := Lib.hid H1
  have HB := Lib.hid B1
  clear H1 B1
  by_cases hn1 : 150 < n1
  · go_enter Try.func4, Try.ntmps4
    go_wp2_with (go_at_call 8; refine (roAlive_any _).mono ?_; rintro e w1 ⟨rfl, hb1⟩)
    go_ret
    exact ⟨rfl, hb1⟩
  · have hn2 : n1 ≤ 1000000 := by omega
    go_enter Try.func4, Try.ntmps4
    go_wp2_with fail
    refine (total_any _ _ _ L _ HA.out HB.out hn2).mono ?_
    rintro e w1 ⟨rfl, hb1⟩
    go_wp2_with fail
    refine (rTotal_any _ _ _ L _ (HA.out.below hb1) HB.out hn2).mono ?_
    rintro e w2 ⟨rfl, hb2⟩
    have hc2 : Below w.heap.size w w2 := hb1.trans (hb2.mono hb1.size)
    clear hb1 hb2
    go_wp2_with fail
    refine (rollRight_any _ _ _ _ L _ (HA.out.below hc2) HB.out hn2 L0 L1).mono ?_
    rintro e w3 ⟨rfl, hb3⟩
    have hc3 : Below w.heap.size w w3 := hc2.trans (hb3.mono hc2.size)
    clear hb3
    go_wp2_with fail
    refine (rRight_any _ _ _ _ L _ (HA.out.below hc3) HB.out hn2 L0 L1).mono ?_
    rintro e w4 ⟨rfl, hb4⟩
    have hc4 : Below w.heap.size w w4 := hc3.trans (hb4.mono hc3.size)
    clear hb4
    go_wp2_with fail
    refine (find_any _ _ _ L _ _ (HA.out.below hc4) hn2).mono ?_
    rintro e w5 ⟨rfl, hb5⟩
    have hc5 : Below w.heap.size w w5 := hc4.trans (hb5.mono hc4.size)
    clear hb5
    go_wp2_with fail
    refine (rFind_any _ _ _ L _ _ (HA.out.below hc5) hn2).mono ?_
    rintro e w6 ⟨rfl, hb6⟩
    have hc6 : Below w.heap.size w w6 := hc5.trans (hb6.mono hc5.size)
    clear hb6
    go_wp2_with (go_at_call 8; refine (roAlive_any _).mono ?_; rintro e w7 ⟨rfl, hb7⟩)
    go_ret
    exact ⟨rfl, hc6.trans (hb7.mono hc6.size)⟩
set_option maxHeartbeats 3200000 in
set_option maxRecDepth 100000 in
theorem walk_rollPosts (l : Int) (A1 : Option Addr) (n1 c1 : Nat) (L : List Nd) (L0 : -9223372036854775808 ≤ l) (L1 : l ≤ 9223372036854775807) (B1 : NBds L) (m1 : n1 ≤ 9223372036854775807) (w : World) (H1 : NodesAt w (.slice A1 n1 c1) L) :
    Calls Try.prog 6 #[.int .i64 l, .slice A1 n1 c1] w fun e w' => e = .returned (.bool true) ∧ Below w.heap.size w w' := by
  have HA := Lib.hid H1
  have HB := Lib.hid B1
  clear H1 B1
  by_cases hn1 : 150 < n1
  · go_enter Try.func6, Try.ntmps6
    go_wp2_with (go_at_call 8; refine (roAlive_any _).mono ?_; rintro e w1 ⟨rfl, hb1⟩)
    go_ret
    exact ⟨rfl, hb1⟩
  · have hn2 : n1 ≤ 1000000 := by omega
    cases hr : rollB l L
    · have HR := Lib.hid hr
      have hse := same_self []
      clear hr
      go_enter Try.func6, Try.ntmps6
      go_wp2_with fail
      refine ((post_any _ _ _ _ L _ HA.out HB.out hn2 L0 L1).mono (fun _ _ q => post_is_no HR.out q)).mono ?_
      rintro e w1 ⟨rfl, hb1⟩
      go_wp2_with fail
      refine ((rPost_any _ _ _ _ L _ (HA.out.below hb1) HB.out hn2 L0 L1).mono (fun _ _ q => post_is_no HR.out q)).mono ?_
      rintro e w2 ⟨rfl, hb2⟩
      have hc2 : Below w.heap.size w w2 := hb1.trans (hb2.mono hb1.size)
      clear hb1 hb2
      go_wp2_with fail
      refine (rSame_any none none 0 0 0 0 [] [] _ (nodes_nil _) (nodes_nil _) (by omega) (by omega)).mono ?_
      rintro e w3 ⟨rfl, q3, rfl⟩
      go_wp2_with (go_at_call 8; refine (roAlive_any _).mono ?_; rintro e w7 ⟨rfl, hb7⟩)
      go_ret
      exact ⟨rfl, (drewN_below hc2 _).trans (hb7.mono hc2.size)⟩
    · have HR := Lib.hid hr
      clear hr
      go_enter Try.func6, Try.ntmps6
      go_wp2_with fail
      refine ((post_any _ _ _ _ L _ HA.out HB.out hn2 L0 L1).mono (fun _ _ q => post_is_yes HR.out q)).mono ?_
      rintro e w1 ⟨S, A3, c3, rfl, hs, hnS, hb1⟩
      obtain ⟨m, hm⟩ : ∃ m, m = S.length := ⟨_, rfl⟩
      have hml : m ≤ 1000000 := by rw [hm, hs.len, ← (nodes_cells HA.out).1]; omega
      rw [← hm] at hnS ⊢
      have HM := Lib.hid hm
      have HS := Lib.hid hs
      have NS := Lib.hid hnS
      clear hm hs hnS
      go_wp2_with fail
      refine ((rPost_any _ _ _ _ L _ (HA.out.below hb1) HB.out hn2 L0 L1).mono (fun _ _ q => post_is_yes HR.out q)).mono ?_
      rintro e w2 ⟨S2, A4, c4, rfl, hs2, hnS2, hb2⟩
      obtain rfl := Srt.uniq (keyA_ahd (hiN l)) HS.out hs2
      have e2 : S.length = m := HM.out.symm
      rw [e2] at hnS2 ⊢
      have NS2 := Lib.hid hnS2
      have hc2 : Below w.heap.size w w2 := hb1.trans (hb2.mono hb1.size)
      have hss := same_self S
      clear e2 hnS2 hs2
      go_wp2_with fail
      refine (rSame_any _ _ _ _ _ _ S S _ (NS.out.below hb2) NS2.out hml hml).mono ?_
      rintro e w3 ⟨rfl, q3, rfl⟩
      clear hb1 hb2
      go_wp2_with (go_at_call 8; refine (roAlive_any _).mono ?_; rintro e w7 ⟨rfl, hb7⟩)
      go_ret
      exact ⟨rfl, (drewN_below hc2 _).trans (hb7.mono hc2.size)⟩

end Go.Proofs.Ytiihckbjmhhioaa
