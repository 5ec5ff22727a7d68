/- The walk of the statement RollBack of layer roll: for every input it returns true, and nothing that was there before is changed. -/
import Derived.Test.YtiihckbjmhhioaaRoLaw3
namespace Go.Proofs.Ytiihckbjmhhioaa
set_option linter.unusedVariables false
open Go.RowKit

set_option maxHeartbeats 6400000 in
set_option maxRecDepth 100000 in
theorem walk_rollBack (l : Int) (A1 : Option Addr) (n1 c1 : Nat) (L : List Nd) (A2 : Option Addr) (n2 c2 : Nat) (M : List Nd) (L0 : -9223372036854775808 ≤ l) (L1 : l ≤ 9223372036854775807) (B1 : NBds L) (m1 : n1 ≤ 9223372036854775807) (B2 : NBds M) (m2 : n2 ≤ 9223372036854775807) (w : World) (H1 : NodesAt w (.slice A1 n1 c1) L) (H2 : NodesAt w (.slice A2 n2 c2) M) :
    Calls Try.prog 7 #[.int .i64 l, .slice A1 n1 c1, .slice A2 n2 c2] w fun e w' => e = .returned (.bool true) ∧ Below w.heap.size w w' := by
  have HA := Lib.hid H1
  have HB := Lib.hid H2
  have HL := Lib.hid (nodes_cells H1).1
  have HM := Lib.hid (nodes_cells H2).1
  have BA := Lib.hid B1
  have BB := Lib.hid B2
  clear H1 H2 B1 B2
  by_cases hn1 : 100 < n1
  · go_enter Try.func7, Try.ntmps7
    go_wp2_with (go_at_call 8; refine (roAlive_any _).mono ?_; rintro e w1 ⟨rfl, hb1⟩)
    go_ret
    exact ⟨rfl, hb1⟩
  · by_cases hn2 : 100 < n2
    · go_enter Try.func7, Try.ntmps7
      go_wp2_with (go_at_call 8; refine (roAlive_any _).mono ?_; rintro e w1 ⟨rfl, hb1⟩)
      go_ret
      exact ⟨rfl, hb1⟩
    · have hLM : Hid ((L ++ M).length ≤ 200) := by show _ ≤ _; rw [List.length_append]; have := HL.out; have := HM.out; omega
      have hML : Hid ((M ++ L).length ≤ 200) := by show _ ≤ _; rw [List.length_append]; have := HL.out; have := HM.out; omega
      have hL : Hid (L.length ≤ 100) := by show _ ≤ _; have := HL.out; omega
      have hM : Hid (M.length ≤ 100) := by show _ ≤ _; have := HM.out; omega
      have hsw := foldB_swap M L
      have R1w := right_one l
      have RW := Lib.hid R1w
      clear R1w
      cases hf : foldB (L ++ M)
      · have HF := Lib.hid hf
        rw [hf] at hsw
        go_enter Try.func7, Try.ntmps7
        go_wp2_with fail
        refine ((join_any _ _ _ _ _ _ L M _ HA.out HB.out BA.out BB.out (by omega) (by omega)).mono fun _ _ q => res_of q).mono ?_
        rintro e w1 ⟨F1, P1, k1, d1, rfl, r1, t1, l1, b1⟩
        obtain rfl := res_none r1 HF.out
        obtain rfl : k1 = 0 := (nodes_cells t1).1
        have R1 := Lib.hid r1
        have T1 := Lib.hid t1
        clear r1 t1 l1
        go_wp2_with fail
        refine ((join_any _ _ _ _ _ _ M L _ (HB.out.below b1) (HA.out.below b1) BB.out BA.out (by omega) (by omega)).mono fun _ _ q => res_of q).mono ?_
        rintro e w2 ⟨F2, P2, k2, d2, rfl, r2, t2, l2, b2⟩
        obtain rfl := res_swap R1.out r2
        obtain rfl : k2 = 0 := (nodes_cells t2).1
        have T2 := Lib.hid t2
        have T1b := Lib.hid (T1.out.below b2)
        have b12 : Below w.heap.size w w2 := b1.trans (b2.mono b1.size)
        have s1 := same_self []
        clear r2 t2 l2 b1 b2
        go_wp2_with fail
        refine (rSame_any _ _ _ _ _ _ [] [] _ T1b.out T2.out (by omega) (by omega)).mono ?_
        rintro e w5 ⟨rfl, q5, rfl⟩
        go_wp2_with (go_at_call 8; refine (roAlive_any _).mono ?_; rintro e w7 ⟨rfl, hb7⟩)
        go_ret
        exact ⟨rfl, (drewN_below b12 _).trans (hb7.mono b12.size)⟩
      · have HF := Lib.hid hf
        rw [hf] at hsw
        obtain ⟨hfL, hfM⟩ := res_parts hf
        go_enter Try.func7, Try.ntmps7
        go_wp2_with fail
        refine ((join_any _ _ _ _ _ _ L M _ HA.out HB.out BA.out BB.out (by omega) (by omega)).mono fun _ _ q => res_of q).mono ?_
        rintro e w1 ⟨S, P1, k1, d1, rfl, r1, t1, l1, b1⟩
        have R1 := Lib.hid r1
        have T1 := Lib.hid t1
        have hk1 : k1 ≤ 200 := by have := hLM.out; omega
        have BS := Lib.hid (r1.bds (nbds_app BA.out BB.out))
        clear r1 t1 l1
        go_wp2_with fail
        refine ((join_any _ _ _ _ _ _ M L _ (HB.out.below b1) (HA.out.below b1) BB.out BA.out (by omega) (by omega)).mono fun _ _ q => res_of q).mono ?_
        rintro e w2 ⟨F2, P2, k2, d2, rfl, r2, t2, l2, b2⟩
        obtain rfl := res_swap R1.out r2
        have T2 := Lib.hid t2
        have T1b := Lib.hid (T1.out.below b2)
        have hk2 : k2 ≤ 200 := by have := hML.out; omega
        have b12 : Below w.heap.size w w2 := b1.trans (b2.mono b1.size)
        have s1 := same_self S
        clear r2 t2 l2 b1 b2 T1
        go_wp2_with fail
        refine (rSame_any _ _ _ _ _ _ S S _ T1b.out T2.out (by omega) (by omega)).mono ?_
        rintro e w3 ⟨rfl, q3, rfl⟩
        have T1c : Hid (NodesAt (w2.drewN q3) (.slice P1 k1 d1) S) := T1b.out
        have b13 : Below w.heap.size w (w2.drewN q3) := drewN_below b12 _
        generalize w2.drewN q3 = w3 at *
        clear T2 T1b b12
        go_wp2_with fail
        refine ((fold_any _ _ _ S _ T1c.out BS.out (by omega)).mono fun _ _ q => res_of q).mono ?_
        rintro e w4 ⟨F4, P4, k4, d4, rfl, r4, t4, l4, b4⟩
        have hag := res_again R1.out HF.out r4
        obtain ⟨hfS, e4⟩ := hag
        obtain rfl := e4.symm
        have T4 := Lib.hid t4
        have T1d := Lib.hid (T1c.out.below b4)
        have hk4 : k4 ≤ 200 := by have := (nodes_cells t4).1; have := (nodes_cells T1d.out).1; omega
        have b14 : Below w.heap.size w w4 := b13.trans (b4.mono b13.size)
        clear r4 t4 l4 b4 b13 T1c e4
        go_wp2_with fail
        refine ((fold_any _ _ _ L _ (HA.out.below b14) BA.out (by omega)).mono fun _ _ q => res_of q).mono ?_
        rintro e w5 ⟨P, P5, k5, d5, rfl, r5, t5, l5, b5⟩
        have R5 := Lib.hid r5
        have T5 := Lib.hid t5
        have T4b := Lib.hid (T4.out.below b5)
        have T1e := Lib.hid (T1d.out.below b5)
        have hk5 : k5 ≤ 100 := by have := hL.out; omega
        have b15 : Below w.heap.size w w5 := b14.trans (b5.mono b14.size)
        have BP := Lib.hid (r5.bds BA.out)
        clear r5 t5 l5 b5 b14 T4 T1d
        go_wp2_with fail
        refine ((fold_any _ _ _ M _ (HB.out.below b15) BB.out (by omega)).mono fun _ _ q => res_of q).mono ?_
        rintro e w6 ⟨Q, P6, k6, d6, rfl, r6, t6, l6, b6⟩
        have R6 := Lib.hid r6
        have T6 := Lib.hid t6
        have T4c := Lib.hid (T4b.out.below b6)
        have T1f := Lib.hid (T1e.out.below b6)
        have T5b := Lib.hid (T5.out.below b6)
        have hk6 : k6 ≤ 100 := by have := hM.out; omega
        have b16 : Below w.heap.size w w6 := b15.trans (b6.mono b15.size)
        have BQ := Lib.hid (r6.bds BB.out)
        clear r6 t6 l6 b6 b15 T4b T1e T5
        go_wp2_with fail
        refine ((join_any _ _ _ _ _ _ P Q _ T5b.out T6.out BP.out BQ.out (by omega) (by omega)).mono fun _ _ q => res_of q).mono ?_
        rintro e w7 ⟨F7, P7, k7, d7, rfl, r7, t7, l7, b7⟩
        have hbo := res_both R1.out HF.out R5.out R6.out r7
        obtain ⟨hfPQ, e7⟩ := hbo
        obtain rfl := e7.symm
        have T7 := Lib.hid t7
        have T4d := Lib.hid (T4c.out.below b7)
        have T1g := Lib.hid (T1f.out.below b7)
        have T5c := Lib.hid (T5b.out.below b7)
        have T6b := Lib.hid (T6.out.below b7)
        have hk7 : k7 ≤ 200 := by have := (nodes_cells t7).1; have := (nodes_cells T1g.out).1; omega
        have b17 : Below w.heap.size w w7 := b16.trans (b7.mono b16.size)
        have HT := Lib.hid (res_tot R1.out HF.out R5.out R6.out)
        clear r7 t7 l7 b7 b16 T4c T1f T5b T6 e7
        go_wp2_with fail
        refine (rSame_any _ _ _ _ _ _ S S _ T4d.out T1g.out (by omega) (by omega)).mono ?_
        rintro e w8 ⟨rfl, q8, rfl⟩
        go_wp2_with fail
        refine (rSame_any _ _ _ _ _ _ S S _ (by exact T7.out) (by exact T1g.out) (by omega) (by omega)).mono ?_
        rintro e w9 ⟨rfl, q9, rfl⟩
        have b1c : Below w.heap.size w ((w7.drewN q8).drewN q9) := drewN_below (drewN_below b17 _) _
        have T1h : Hid (NodesAt ((w7.drewN q8).drewN q9) (.slice P1 k1 d1) S) := T1g.out
        have T5d : Hid (NodesAt ((w7.drewN q8).drewN q9) (.slice P5 k5 d5) P) := T5c.out
        have T6c : Hid (NodesAt ((w7.drewN q8).drewN q9) (.slice P6 k6 d6) Q) := T6b.out
        generalize (w7.drewN q8).drewN q9 = w9 at *
        clear T7 T4d T1g T5c T6b b17
        go_wp2_with fail
        refine (total_any _ _ _ P _ T5d.out BP.out (by omega)).mono ?_
        rintro e w10 ⟨rfl, b2⟩
        have b1d : Below w.heap.size w w10 := b1c.trans (b2.mono b1c.size)
        have T1i := Lib.hid (T1h.out.below b2)
        have T6d := Lib.hid (T6c.out.below b2)
        clear b2 b1c T1h T6c
        go_wp2_with fail
        refine (total_any _ _ _ Q _ T6d.out BQ.out (by omega)).mono ?_
        rintro e w11 ⟨rfl, b2⟩
        have b1e : Below w.heap.size w w11 := b1d.trans (b2.mono b1d.size)
        have T1j := Lib.hid (T1i.out.below b2)
        clear b2 b1d T1i
        go_wp2_with fail
        refine (total_any _ _ _ S _ T1j.out BS.out (by omega)).mono ?_
        rintro e w12 ⟨rfl, b2⟩
        have b1f : Below w.heap.size w w12 := b1e.trans (b2.mono b1e.size)
        have T1k := Lib.hid (T1j.out.below b2)
        clear b2 b1e T1j
        obtain ⟨u1, u2, u3, u4, u5, u6⟩ := HT.out
        have HK : Hid (k1 = S.length) := (nodes_cells T1k.out).1
        have HC := Lib.hid (nodes_cells T1k.out).2.2.2
        have ra := RW.out.trans (all_zero l S).symm
        have AE := Lib.hid (all_end (l := l) R1.out HF.out)
        have hzw := b1f.size
        go_wp2_with (go_at_call 25; refine (right_any _ _ _ L0 L1 (by omega) (by omega)).mono ?_; rintro e w13 ⟨rfl, rfl⟩)
        clear ra
        go_loopw [25, 141] (fun a i wr => ∃ k : Nat, k ≤ k1 ∧ i = .int .i64 k ∧ a = .bool (allB l S k) ∧ Below w12.heap.size w12 wr) (fun _ i _ => k1 - (intOf i).toNat)
        case atStart => exact ⟨0, by omega, rfl, rfl, Below.refl ..⟩
        case round =>
          rename_i wr
          obtain ⟨k, hk, rfl, rfl, hb⟩ := hrel
          have hzr := hb.size
          by_cases hlt : k < k1
          · have hkS : k < S.length := by have := HK.out; omega
            obtain ⟨b, o, rfl, hin⟩ := HC.out (by have := HK.out; omega)
            obtain ⟨e0, e1⟩ := (hin.below hb hin.1).2 k hkS
            have hbl := hin.1
            have hbd := nbds_at BS.out hkS
            have AN := Lib.hid (all_next (l := l) hkS)
            clear hin
            generalize S.getD k nz = r at *
            obtain ⟨id, x⟩ := r
            obtain ⟨⟨b0, b1⟩, b2, b3⟩ := hbd
            simp only at e0 e1 b0 b1 b2 b3
            cases ha : allB l S k
            · have AX : Hid (allB l S (k + 1) = false) := by show _ = _; rw [AN.out, ha]; rfl
              clear AN
              go_wp2_with fail
              go_roundw
              case rel => exact ⟨k + 1, by omega, by go_num, by rw [AX.out], hb.alloc hzr _⟩
              case measure => simp [intOf]; omega
            · have AX : Hid (allB l S (k + 1) = rightB l id) := by show _ = _; rw [AN.out, ha]; rfl
              clear AN
              go_wp2_with (go_at_call 25; refine (right_any _ _ _ L0 L1 b0 b1).mono ?_; rintro e w14 ⟨rfl, rfl⟩)
              go_roundw
              case rel => exact ⟨k + 1, by omega, by go_num, by rw [AX.out], hb.alloc hzr _⟩
              case measure => simp [intOf]; omega
          · have ea : allB l S k = rollB l S := by rw [← AE.out]; have := HK.out; rw [show k = S.length by omega]
            have T1l := Lib.hid (T1k.out.below hb)
            have b1g : Below w.heap.size w wr := b1f.trans (hb.mono hzw)
            go_wp2_with (first
              | (go_at_call 15; refine (rollRight_any _ _ _ _ S _ T1l.out BS.out (by omega) L0 L1).mono ?_; rintro e w15 ⟨rfl, b2⟩; have b1h : Below w.heap.size w w15 := b1g.trans (b2.mono b1g.size))
              | (go_at_call 8; refine (roAlive_any _).mono ?_; rintro e w16 ⟨rfl, hb7⟩))
            go_ret
            exact ⟨rfl, b1h.trans (hb7.mono b1h.size)⟩

end Go.Proofs.Ytiihckbjmhhioaa
