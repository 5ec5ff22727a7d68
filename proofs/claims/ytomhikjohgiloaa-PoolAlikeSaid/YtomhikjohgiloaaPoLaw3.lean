/- The walk of the statement PoolAlike of layer pool: for every input it returns true, and nothing that was there before is changed. -/
import Derived.Test.YtomhikjohgiloaaPoLaw2
namespace Go.Proofs.Ytomhikjohgiloaa
set_option linter.unusedVariables false
set_option maxRecDepth 100000
open Go.RowKit

/-- the call of the one pool: the other one, and the call's box, are as they were -/
def DuoPost (B p1 g1 p2 g2 h2 q : Nat) (k1 k2 l : Int) (n m : Nat) (L M : List Nd) (x : Int) (a b c : Value) (w : World) (e : Ending) (w' : World) : Prop :=
  e = .returned (.int .i64 x) ∧ ∃ h1, PoA w' B p1 g1 h1 k1 l n M ∧ PoA w' B p2 g2 h2 k2 l m L ∧ h1 ≠ h2 ∧ w'.ownsRow B 36 3 (.slice (some ⟨q, 0, none⟩) 1 1) 1 [a, b, c] ∧ Below B w w'
theorem duo_post {B p1 g1 h1 p2 g2 h2 q : Nat} {k1 k2 l : Int} {n m m2 : Nat} {L L2 M : List Nd} {x : Int} {a b c : Value} {w w' : World} {e : Ending} (d : PoA w B p1 g1 h1 k1 l m L) (d2 : PoA w B p2 g2 h2 k2 l m2 L2)
    (r : w.ownsRow B 36 3 (.slice (some ⟨q, 0, none⟩) 1 1) 1 [a, b, c]) (hg : g1 ≠ g2) (hh : h1 ≠ h2) (h : PoPost B p1 g1 h1 k1 l n M x w e w') : DuoPost B p1 g1 p2 g2 h2 q k1 k2 l n m2 L2 M x a b c w e w' := by
  obtain ⟨he, h1', hd, hc, hn⟩ := h
  have hl := d2.lt
  refine ⟨he, h1', hd, d2.chg d hc (fun e => hg e.symm) (fun e => hh e.symm), ?_, d.other r hc (by decide) (by decide) (by decide) (by decide), hc.below d.lt.2.1 d.lt.2.2.2.1 (by omega)⟩
  rcases hn with q | q
  · rw [q]; exact hh
  · omega
set_option maxHeartbeats 3200000 in
theorem walk_poolAlike (l : Int) (A : Option Addr) (n c : Nat) (O : List Pl) (L0 : -9223372036854775808 ≤ l) (L1 : l ≤ 9223372036854775807) (OB : OBds O) (m1 : n ≤ 9223372036854775807) (w : World) (H1 : PlacedAt w (.slice A n c) O) :
    Calls Try.prog 9 #[.int .i64 l, .slice A n c] w fun e w' => e = .returned (.bool true) ∧ Below w.heap.size w w' := by
  have HO := Lib.hid H1
  have HL := Lib.hid (placed_cells H1).1
  have HA := Lib.hid (placed_cells H1).2.2.2
  have HB := Lib.hid OB
  clear H1 OB
  by_cases hn : 60 < n
  · go_enter Try.func9, Try.ntmps9
    go_wp2_with (go_at_call 35; refine (poAlive_any _).mono ?_; rintro e w1 ⟨rfl, hb1⟩)
    all_goals (go_ret; exact ⟨rfl, hb1⟩)
  · by_cases hr : l < 1
    · go_enter Try.func9, Try.ntmps9
      go_wp2_with (go_at_call 35; refine (poAlive_any _).mono ?_; rintro e w1 ⟨rfl, hb1⟩)
      all_goals (go_ret; exact ⟨rfl, hb1⟩)
    · by_cases hr2 : 8 < l
      · go_enter Try.func9, Try.ntmps9
        go_wp2_with (go_at_call 35; refine (poAlive_any _).mono ?_; rintro e w1 ⟨rfl, hb1⟩)
        all_goals (go_ret; exact ⟨rfl, hb1⟩)
      · have I1 : isP 1 l = true := decide_eq_true (.inl ⟨rfl, by omega, by omega⟩)
        have I2 : isP 2 l = true := decide_eq_true (.inr ⟨rfl, by omega, by omega⟩)
        have N1 := Lib.hid (fun w => poNew_any 1 l w I1)
        have N2 := Lib.hid (fun w => poNew_any 2 l w I2)
        clear I1 I2
        go_enter Try.func9, Try.ntmps9
        go_wp2_with fail
        refine (N1.out _).mono ?_
        rintro e w1 ⟨p1, g1, h1, rfl, d1, b1⟩
        have D1 := Lib.hid d1
        have B1 := Lib.hid b1
        clear d1 b1
        go_wp2_with fail
        refine (N2.out _).mono ?_
        rintro e w2 ⟨p2, g2, h2, rfl, d2, b2⟩
        have D2 := Lib.hid (d2.low B1.out.size)
        have E1 := Lib.hid (D1.out.below b2)
        have GG : Hid (g1 ≠ g2) := by have := d2.lt; have := D1.out.lt; show _ ≠ _; omega
        have HH : Hid (h1 ≠ h2) := by have := d2.lt; have := D1.out.lt; show _ ≠ _; omega
        have B2 := Lib.hid (B1.out.trans (b2.mono B1.out.size))
        clear d2 b2
        go_wp2_with fail
        go_loopw [49] (fun i wr => ∃ (k : Nat) (L : List Nd) (h1 h2 : Nat), k ≤ n ∧ i = .int .i64 k ∧ PoA wr w.heap.size p1 g1 h1 1 l k L ∧ PoA wr w.heap.size p2 g2 h2 2 l k L ∧ h1 ≠ h2 ∧ Below w.heap.size w wr) (fun i _ => n - (intOf i).toNat)
        case atStart => exact ⟨0, [], h1, h2, by omega, rfl, E1.out, D2.out, HH.out, B2.out⟩
        case round =>
          rename_i wr
          obtain ⟨k, L, h1, h2, hk, rfl, hp, hq, hne, hb⟩ := hrel
          have PP := Lib.hid hp
          have QQ := Lib.hid hq
          have NE := Lib.hid hne
          have BB := Lib.hid hb
          have hzr := hb.size
          clear hp hq hne
          by_cases hlt : k < n
          · have hk2 : k < O.length := by have := HL.out; omega
            obtain ⟨bq, o, rfl, hin⟩ := HA.out (by have := HL.out; omega)
            obtain ⟨e0, e1, e2⟩ := (hin.below hb hin.1).2 k hk2
            have hbd := obds_at HB.out hk2
            obtain ⟨_, ⟨b2, b3⟩, b4, b5⟩ := hbd
            have hbl := hin.1
            clear hin hb
            generalize O.getD k plz = r at *
            obtain ⟨⟨kq, id⟩, cc⟩ := r
            simp only at e0 e1 e2 b2 b3 b4 b5
            go_wp2_with fail
            have HBA := Lib.hid (call_box wr 36 (.int .i64 kq) (.int .i64 id) (.int .i64 cc))
            have PA := Lib.hid (PP.out.below HBA.out)
            have QA := Lib.hid (QQ.out.below HBA.out)
            have OPR := Lib.hid (own_low (tri_new wr 36 (.int .i64 kq) (.int .i64 id) (.int .i64 cc)) hzr)
            have BW := Lib.hid (BB.out.trans (HBA.out.mono hzr))
            generalize wr.alloc (.cells #[.int .i64 kq, .int .i64 id, .int .i64 cc] 36) = W at *
            have C0 := tri_cells OPR.out
            have DOP : Hid (∀ w1, Below W.heap.size W w1 → Calls Try.prog 38 #[.pointer (some ⟨p1, 0, none⟩), .agg #[.int .i64 kq, .int .i64 id, .int .i64 cc]] w1 (DuoPost w.heap.size p1 g1 p2 g2 h2 wr.heap.size 1 2 l (k + 1) k L (doW l L kq id cc) (doN l L kq id cc) (.int .i64 kq) (.int .i64 id) (.int .i64 cc) w1)) := fun w1 hb1 =>
              (podo_any kq id cc w1 (PA.out.below hb1) (by omega) b2 b3 b4 b5).mono fun e w' q => duo_post (PA.out.below hb1) (QA.out.below hb1) (own_below OPR.out hb1) GG.out NE.out q
            have DOQ : Hid (∀ w1 h1, PoA w1 w.heap.size p2 g2 h2 2 l k L → PoA w1 w.heap.size p1 g1 h1 1 l (k + 1) (doW l L kq id cc) → h2 ≠ h1 → w1.ownsRow w.heap.size 36 3 (.slice (some ⟨wr.heap.size, 0, none⟩) 1 1) 1 [.int .i64 kq, .int .i64 id, .int .i64 cc] → Calls Try.prog 38 #[.pointer (some ⟨p2, 0, none⟩), .agg #[.int .i64 kq, .int .i64 id, .int .i64 cc]] w1 (DuoPost w.heap.size p2 g2 p1 g1 h1 wr.heap.size 2 1 l (k + 1) (k + 1) (doW l L kq id cc) (doW l L kq id cc) (doN l L kq id cc) (.int .i64 kq) (.int .i64 id) (.int .i64 cc) w1)) := fun w1 h1 dq dp ne r =>
              (podo_any kq id cc w1 dq (by omega) b2 b3 b4 b5).mono fun e w' q => duo_post dq dp r (fun e => GG.out e.symm) ne q
            obtain ⟨nv, hnv⟩ : ∃ x, x = doN l L kq id cc := ⟨_, rfl⟩
            obtain ⟨L', hL'⟩ : ∃ x, x = doW l L kq id cc := ⟨_, rfl⟩
            rw [← hnv, ← hL'] at DOP DOQ
            clear hnv hL' e0 e1 e2
            go_region_held3 (fun w' => w'.cell? ⟨wr.heap.size, 0, none⟩ = some (.int .i64 kq) ∧ w'.cell? ⟨wr.heap.size, 1, none⟩ = some (.int .i64 id) ∧ w'.cell? ⟨wr.heap.size, 2, none⟩ = some (.int .i64 cc))
              (first | assumption | (exact C0))
              (first
                | ((with_reducible refine (DOP.out _ (below_drew _)).mono ?_); rintro e w4 ⟨rfl, h1', hp4, hq4, hne4, hr4, hb4⟩; have C4 := tri_cells hr4)
                | ((with_reducible refine (DOQ.out _ h1' hq4 hp4 (Ne.symm hne4) hr4).mono ?_); rintro e w5 ⟨rfl, h2', hq5, hp5, hne5, hr5, hb5⟩; have C5 := tri_cells hr5))
            have P5 := Lib.hid hp5
            have Q5 := Lib.hid hq5
            have N5 := Lib.hid hne5
            have B4 : Hid (Below w.heap.size w w4) := BW.out.trans (show Below w.heap.size W w4 from ((below_drew W).mono BW.out.size).trans hb4)
            have B5 := Lib.hid (B4.out.trans hb5)
            clear hp4 hq4 hne4 hr4 hb4 hp5 hq5 hne5 hr5 hb5 C0 C4 C5
            go_wp2_with fail
            go_roundw
            case rel => exact ⟨k + 1, L', h1', h2', by omega, by go_num, P5.out, Q5.out, Ne.symm N5.out, B5.out⟩
            case measure => simp [intOf]; omega
          · have hss := same_self L
            have hlk := PP.out.len
            clear hb
            go_wp2_with fail
            refine (poSame_any _ PP.out QQ.out (by omega) (by omega)).mono ?_
            rw [hss]
            rintro e v1 ⟨rfl, c1⟩
            have P1 := Lib.hid (PP.out.below c1)
            have Q1 := Lib.hid (QQ.out.below c1)
            have C1 := Lib.hid (BB.out.trans (c1.mono hzr))
            clear c1
            go_wp2_with fail
            refine (poSame_any _ Q1.out P1.out (by omega) (by omega)).mono ?_
            rw [hss]
            rintro e v2 ⟨rfl, c2⟩
            have P2 := Lib.hid (P1.out.below c2)
            have Q2 := Lib.hid (Q1.out.below c2)
            have C2 := Lib.hid (C1.out.trans (c2.mono C1.out.size))
            clear c2
            go_wp2_with fail
            refine (poSnap_any _ P2.out (by omega)).mono ?_
            rintro e v3 ⟨A3, m3, c3, rfl, ho3, d3⟩
            have P3 := Lib.hid (P2.out.below d3)
            have Q3 := Lib.hid (Q2.out.below d3)
            have C3 := Lib.hid (C2.out.trans (d3.mono C2.out.size))
            have N3 := Lib.hid (ownNd_nodes ho3)
            clear d3 ho3
            go_wp2_with fail
            refine (poSnap_any _ Q3.out (by omega)).mono ?_
            rintro e v4 ⟨A4, m4, c4, rfl, ho4, d4⟩
            have P4 := Lib.hid (P3.out.below d4)
            have Q4 := Lib.hid (Q3.out.below d4)
            have C4 := Lib.hid (C3.out.trans (d4.mono C3.out.size))
            have N4 := Lib.hid (ownNd_nodes ho4)
            have N3' := Lib.hid (N3.out.below d4)
            have hm3 : m3 ≤ 1000000 := by have := (nodes_cells N3.out).1; omega
            have hm4 : m4 ≤ 1000000 := by have := (nodes_cells N4.out).1; omega
            clear d4 ho4
            go_wp2_with fail
            refine (rSame_any _ _ _ _ _ _ L L _ N3'.out N4.out hm3 hm4).mono ?_
            rw [show SamePost L L v4 = fun e w' => e = .returned (.bool true) ∧ ∃ q, w' = v4.drewN q from by unfold SamePost; rw [hss]]
            rintro e v5 ⟨rfl, q5, rfl⟩
            have P5 := Lib.hid (P4.out.below (drewN_below (Below.refl _ _) q5))
            have Q5 := Lib.hid (Q4.out.below (drewN_below (Below.refl _ _) q5))
            have C5 := Lib.hid (drewN_below C4.out q5)
            go_wp2_with fail
            refine (read_below (poTotal_any _ P5.out (by omega))).mono ?_
            rintro e v6 ⟨rfl, c6⟩
            have Q6 := Lib.hid (Q5.out.below c6)
            have C6 := Lib.hid (C5.out.trans (c6.mono C5.out.size))
            clear c6
            go_wp2_with fail
            refine (read_below (poTotal_any _ Q6.out (by omega))).mono ?_
            rintro e v7 ⟨rfl, c7⟩
            have C7 := Lib.hid (C6.out.trans (c7.mono C6.out.size))
            clear c7
            go_wp2_with (go_at_call 35; refine (poAlive_any _).mono ?_; rintro e w9 ⟨rfl, hb9⟩)
            go_ret
            exact ⟨rfl, C7.out.trans (hb9.mono C7.out.size)⟩

end Go.Proofs.Ytomhikjohgiloaa
