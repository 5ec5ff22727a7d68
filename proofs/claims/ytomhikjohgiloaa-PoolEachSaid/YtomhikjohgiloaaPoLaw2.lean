/- The walks of the statements PoolPlays and PoolLoads of layer pool: for every input each returns true, and nothing that was there before is changed. -/
import Derived.Test.YtomhikjohgiloaaPoLaw
import Derived.Test.YtomhikjohgiloaaDsLaw2
namespace Go.Proofs.Ytomhikjohgiloaa
set_option linter.unusedVariables false
set_option maxRecDepth 100000
open Go.RowKit

theorem po_box {w w' : World} {B p g h : Nat} {kd l : Int} {n : Nat} {L : List Nd} (d : PoA w B p g h kd l n L)
    (k : ∀ (base : Nat) (e : TypeId) (size n : Nat) (v : Value) (ys : List Value), e ≠ 48 → w.ownsRow base e size v n ys → w'.ownsRow base e size v n ys) : PoA w' B p g h kd l n L :=
  ⟨d.roll, d.len, d.st.imp (fun ⟨a, b, c, e⟩ => ⟨a, b, k _ _ _ _ _ _ (by decide) c, ds_box e k (by decide) (by decide)⟩)
    (fun ⟨a, c, b, S, e, t, z⟩ => ⟨a, k _ _ _ _ _ _ (by decide) c, b, S, ⟨k _ _ _ _ _ _ (by decide) e.top, k _ _ _ _ _ _ (by decide) e.row, e.ne⟩, t, z⟩)⟩
theorem own_new2 {w : World} {B : Nat} {e : TypeId} {size n h h2 : Nat} {v : Value} {xs : List Value} (o : w.ownsRow B e size v n xs) (h0 : v.ownBlock ≠ some h) (hh : h2 = h ∨ w.heap.size ≤ h2) : v.ownBlock ≠ some h2 := by
  rcases hh with q | q
  · rw [q]; exact h0
  · intro e
    have := (World.ownsRow.lt o h2 e).2
    omega
theorem newB_ne2 {v0 v : Value} {k h : Nat} (q : NewB v0 v k) (h0 : v0.ownBlock ≠ some h) (hh : h < k) : v.ownBlock ≠ some h := by
  rcases q with q | q
  · rw [q]; exact h0
  · intro e
    have := q h e
    omega
set_option maxHeartbeats 6400000 in
theorem walk_poolPlays (kd l : Int) (A : Option Addr) (n c : Nat) (O : List Pl) (K0 : -9223372036854775808 ≤ kd) (K1 : kd ≤ 9223372036854775807) (L0 : -9223372036854775808 ≤ l) (L1 : l ≤ 9223372036854775807) (OB : OBds O) (m1 : n ≤ 9223372036854775807) (w : World) (H1 : PlacedAt w (.slice A n c) O) :
    Calls Try.prog 8 #[.int .i64 kd, .int .i64 l, .slice A n c] w fun e w' => e = .returned (.bool true) ∧ Below w.heap.size w w' := by
  have HO := Lib.hid H1
  have HL := Lib.hid (placed_cells H1).1
  have HA := Lib.hid (placed_cells H1).2.2.2
  have HB := Lib.hid OB
  clear H1 OB
  by_cases hn : 60 < n
  · go_enter Try.func8, Try.ntmps8
    go_wp2_with (go_at_call 35; refine (poAlive_any _).mono ?_; rintro e w1 ⟨rfl, hb1⟩)
    all_goals (go_ret; exact ⟨rfl, hb1⟩)
  · by_cases hk : kd = 1 ∧ 10 < l ∧ 10 < n
    · obtain ⟨rfl, hk1, hk2⟩ := hk
      go_enter Try.func8, Try.ntmps8
      go_wp2_with (go_at_call 35; refine (poAlive_any _).mono ?_; rintro e w1 ⟨rfl, hb1⟩)
      all_goals (go_ret; exact ⟨rfl, hb1⟩)
    · have IS := poIs_any kd l
      cases hi : isP kd l
      · rw [hi] at IS
        have NW := Lib.hid (fun w => poNew_no kd l w hi)
        have HIS := Lib.hid IS
        clear IS hi
        rcases (show ((kd == 1) = true ∧ l ≤ 10) ∨ ((kd == 1) = true ∧ 10 < l ∧ n ≤ 10) ∨ (kd == 1) = false by by_cases q : kd = 1 <;> simp [q] <;> omega) with ⟨hk1, hk2⟩ | ⟨hk1, hk2, hk3⟩ | hk1
        all_goals
          clear hk
          go_enter Try.func8, Try.ntmps8
          go_wp2_with (first
            | (go_at_call 36; refine (NW.out _).mono ?_; rintro e w1 ⟨rfl, hb1⟩)
            | (go_at_call 37; refine (HIS.out _).mono ?_; rintro e w9 ⟨rfl, rfl⟩)
            | (go_at_call 35; refine (poAlive_any _).mono ?_; rintro e w2 ⟨rfl, hb2⟩))
          go_ret
          exact ⟨rfl, hb1.trans (hb2.mono hb1.size)⟩
      · rw [hi] at IS
        have NW := Lib.hid (fun w => poNew_any kd l w hi)
        have HIS := Lib.hid IS
        clear IS hi
        rcases (show ((kd == 1) = true ∧ l ≤ 10) ∨ ((kd == 1) = true ∧ 10 < l ∧ n ≤ 10) ∨ (kd == 1) = false by by_cases q : kd = 1 <;> simp [q] <;> omega) with ⟨hk1, hk2⟩ | ⟨hk1, hk2, hk3⟩ | hk1
        all_goals
          clear hk
          go_enter Try.func8, Try.ntmps8
          go_wp2_with fail
          refine (NW.out _).mono ?_
          rintro e w1 ⟨p, g, h, rfl, d1, b1⟩
          have D1 := Lib.hid d1
          have B1 := Lib.hid b1
          have hz1 := b1.size
          clear d1 b1
          go_wp2_with (go_at_call 37; refine (HIS.out _).mono ?_; rintro e w9 ⟨rfl, rfl⟩)
          go_loopw [60] (fun i wr => ∃ (k : Nat) (L : List Nd) (h : Nat) (A2 : Option Addr) (m2 c2 : Nat), k ≤ n ∧ i = .int .i64 k ∧ PoA wr w.heap.size p g h kd l k L ∧ wr.ownsRow w.heap.size 48 2 (.slice (some ⟨w1.heap.size, 0, none⟩) 1 1) 1 [.int .i64 l, .slice A2 m2 c2] ∧ OwnNd 42 wr 0 (.slice A2 m2 c2) L ∧ (Value.slice A2 m2 c2).ownBlock ≠ some h ∧ Below w.heap.size w wr) (fun i _ => n - (intOf i).toNat)
          case atStart => exact ⟨0, [], h, none, 0, 0, by omega, rfl, D1.out.below ((Below.refl _ _).alloc (Nat.le_refl _) _), own_low (duo_new ..) (by omega), ownNd_nil .., by simp [Value.ownBlock], B1.out.alloc (by omega) _⟩
          case round =>
            rename_i wr
            obtain ⟨k, L, h, A2, m2, c2, hk, rfl, hd, hbox, hown, hne, hb⟩ := hrel
            have DD := Lib.hid hd
            have BOX := Lib.hid hbox
            have OWN := Lib.hid hown
            have BB := Lib.hid hb
            have ML := Lib.hid (nodes_cells (ownNd_nodes hown)).1
            have NE := Lib.hid hne
            have hlk := hd.len
            have hml : m2 ≤ 400000 := by have := ML.out; omega
            obtain ⟨q0, q1, _, _, hq⟩ := box_cells hbox
            have hzr := hb.size
            have hhz : h < wr.heap.size := hd.lt.2.2.2.2
            clear hd hbox hown hne
            by_cases hlt : k < n
            · have hk2 : k < O.length := by have := HL.out; omega
              obtain ⟨bq, o, rfl, hin⟩ := HA.out (by have := HL.out; omega)
              obtain ⟨e0, e1, e2⟩ := (hin.below hb hin.1).2 k hk2
              have hbd := obds_at HB.out hk2
              obtain ⟨_, ⟨b2, b3⟩, b4, b5⟩ := hbd
              have hbl := hin.1
              clear hin hb
              generalize O.getD k plz = r at *
              obtain ⟨⟨kq, id⟩, cc⟩ := r
              simp only at e0 e1 e2 b2 b3 b4 b5
              have HQ := Lib.hid hq
              have hqa : w1.heap.size < (wr.alloc (.cells #[.int .i64 kq, .int .i64 id, .int .i64 cc] 36)).heap.size := by simp; omega
              go_wp2_with fail
              refine (rsDo_any _ _ _ _ _ _ _ _ _ (OWN.out.alloc _) DD.out.roll hml b2 b3 b4 b5).mono ?_
              rintro e w2 ⟨A3, m3, c3, rfl, ho3, hb2, hnb⟩
              have NE3 := Lib.hid (newB_ne2 hnb NE.out (by simp; omega))
              have z2 := hb2.size
              simp at z2
              have hbx2 := own_below (BOX.out.alloc (.cells #[.int .i64 kq, .int .i64 id, .int .i64 cc] 36)) hb2
              have htr2 := own_below (tri_new wr 36 (.int .i64 kq) (.int .i64 id) (.int .i64 cc)) hb2
              have DD2 := Lib.hid ((DD.out.below ((Below.refl _ _).alloc (Nat.le_refl _) _)).below hb2)
              obtain ⟨x0, x1, x2, x3, x4⟩ := box_cells hbx2
              have S2 := box_set hbx2 (.int .i64 l) (.slice A3 m3 c3)
              obtain ⟨y0, y1, y2⟩ := tri_cells (S2.2.1 _ _ _ _ _ _ (by decide) htr2)
              have hwz : wr.heap.size < w2.heap.size := by omega
              have DD3 := Lib.hid (po_box DD2.out S2.2.1)
              have OW3 : Hid (OwnNd 42 ((w2.setCell ⟨w1.heap.size, 0, none⟩ (.int .i64 l)).setCell ⟨w1.heap.size, 1, none⟩ (.slice A3 m3 c3)) 0 (.slice A3 m3 c3) (doW l L kq id cc)) := S2.2.1 _ _ _ _ _ _ (by decide) ho3
              have BX3 := Lib.hid S2.1
              have BW3 : Hid (Below w.heap.size w ((w2.setCell ⟨w1.heap.size, 0, none⟩ (.int .i64 l)).setCell ⟨w1.heap.size, 1, none⟩ (.slice A3 m3 c3))) := ((BB.out.alloc (by omega) _).trans (hb2.mono (by simp; omega))).trans S2.2.2.1
              clear htr2 ho3 hbx2 S2 hb2 DD DD2 BOX OWN q0 q1 e0 e1 e2 hnb NE
              go_wp2_with fail
              refine (podo_any _ _ _ _ (DD3.out.below ((Below.refl _ _).alloc (Nat.le_refl _) _)) (by omega) b2 b3 b4 b5).mono ?_
              rintro e w4 ⟨rfl, h2', hd4, hc4, hh4⟩
              have hba : Below _ ((w2.setCell ⟨w1.heap.size, 0, none⟩ (.int .i64 l)).setCell ⟨w1.heap.size, 1, none⟩ (.slice A3 m3 c3)) (((w2.setCell ⟨w1.heap.size, 0, none⟩ (.int .i64 l)).setCell ⟨w1.heap.size, 1, none⟩ (.slice A3 m3 c3)).alloc (.cells #[.int .i64 l, .slice A3 m3 c3] 48)) := (Below.refl _ _).alloc (Nat.le_refl _) _
              have dc := DD3.out.below hba
              have BX4 := dc.other (BX3.out.alloc _) hc4 (by decide) (by decide) (by decide) (by decide)
              have OW4 : Hid (OwnNd 42 w4 0 (.slice A3 m3 c3) (doW l L kq id cc)) := dc.nodes (World.ownsRow.alloc OW3.out _) hc4 NE3.out
              have NE4 := Lib.hid (own_new2 (World.ownsRow.alloc OW3.out (.cells #[.int .i64 l, .slice A3 m3 c3] 48)) NE3.out hh4)
              have hz3 := BW3.out.size
              have BW4 : Hid (Below w.heap.size w w4) := (BW3.out.alloc hz3 _).trans (hc4.below dc.lt.2.1 dc.lt.2.2.2.1 (by simp at hz3 ⊢; omega))
              obtain ⟨L', hL'⟩ : ∃ x, x = doW l L kq id cc := ⟨_, rfl⟩
              rw [← hL'] at hd4 OW4
              clear hL'
              have HD4 := Lib.hid hd4
              obtain ⟨x0, x1, _, _, _⟩ := box_cells BX4
              have HB4 := Lib.hid BX4
              clear hba dc BX4 hd4 hc4 BX3 OW3 DD3 y0 y1 y2 hz3 hh4 NE3
              go_wp2_with fail
              refine (polike_any _ _ _ _ HD4.out (by omega) (ownNd_nodes OW4.out)).mono ?_
              rintro e w5 ⟨rfl, hb5⟩
              have hz5 := hb5.size
              have P1 := Lib.hid (HD4.out.below hb5)
              have P2 := Lib.hid (own_below HB4.out hb5)
              have P3 : Hid (OwnNd 42 w5 0 (.slice A3 m3 c3) L') := own_below OW4.out hb5
              have P4 : Hid (Below w.heap.size w w5) := BW4.out.trans (hb5.mono BW4.out.size)
              clear hb5 x0 x1
              go_wp2_with fail
              go_roundw
              case rel => exact ⟨k + 1, L', h2', A3, m3, c3, by omega, by go_num, P1.out, P2.out, P3.out, NE4.out, P4.out⟩
              case measure => simp [intOf]; omega
            · go_wp2_with (go_at_call 35; refine (poAlive_any _).mono ?_; rintro e w9 ⟨rfl, hb9⟩)
              go_ret
              exact ⟨rfl, BB.out.trans (hb9.mono BB.out.size)⟩
set_option maxHeartbeats 6400000 in
theorem walk_poolLoads (kd l : Int) (A : Option Addr) (n c : Nat) (L : List Nd) (K0 : -9223372036854775808 ≤ kd) (K1 : kd ≤ 9223372036854775807) (L0 : -9223372036854775808 ≤ l) (L1 : l ≤ 9223372036854775807) (NB : NBds L) (m1 : n ≤ 9223372036854775807) (w : World) (H1 : NodesAt w (.slice A n c) L) :
    Calls Try.prog 10 #[.int .i64 kd, .int .i64 l, .slice A n c] w fun e w' => e = .returned (.bool true) ∧ Below w.heap.size w w' := by
  have HV := Lib.hid H1
  have HNB : Hid (NBds L) := NB
  have HL := Lib.hid (nodes_cells H1).1
  clear H1 NB
  by_cases hn : 100 < n
  · go_enter Try.func10, Try.ntmps10
    go_wp2_with (go_at_call 35; refine (poAlive_any _).mono ?_; rintro e w1 ⟨rfl, hb1⟩)
    all_goals (go_ret; exact ⟨rfl, hb1⟩)
  · by_cases hk : kd = 1 ∧ 10 < l ∧ 10 < n
    · obtain ⟨rfl, hk1, hk2⟩ := hk
      go_enter Try.func10, Try.ntmps10
      go_wp2_with (go_at_call 35; refine (poAlive_any _).mono ?_; rintro e w1 ⟨rfl, hb1⟩)
      all_goals (go_ret; exact ⟨rfl, hb1⟩)
    · have IS := Lib.hid (poIs_any kd l)
      have LD := Lib.hid (poLoad_any kd l A n c L w HV.out HNB.out (by omega) L0 L1)
      have RR := Lib.hid (fun w1 (hb : Below w.heap.size w w1) => rRight_any l A n c L w1 (HV.out.below hb) HNB.out (by omega) L0 L1)
      rcases (show ((kd == 1) = true ∧ l ≤ 10) ∨ ((kd == 1) = true ∧ 10 < l ∧ n ≤ 10) ∨ (kd == 1) = false by by_cases q : kd = 1 <;> simp [q] <;> omega) with ⟨hk1, hk2⟩ | ⟨hk1, hk2, hk3⟩ | hk1
      all_goals
        clear hk
        go_enter Try.func10, Try.ntmps10
        go_wp2_with fail
        refine LD.out.mono ?_
        rintro e w1 ⟨hb1, ⟨hi, rfl⟩ | ⟨hi, hr, rfl⟩ | ⟨hi, hr, p, g, h, rfl, hd⟩⟩
        · have HI := Lib.hid hi
          clear hi
          go_wp2_with (first
            | (go_at_call 37; refine (IS.out _).mono ?_; rw [HI.out]; rintro e w9 ⟨rfl, rfl⟩)
            | (go_at_call 35; refine (poAlive_any _).mono ?_; rintro e w2 ⟨rfl, hb2⟩))
          go_ret
          exact ⟨rfl, hb1.trans (hb2.mono hb1.size)⟩
        · have HI := Lib.hid hi
          have RQ := Lib.hid (RR.out w1 hb1)
          unfold RightPost at RQ
          rw [hr] at RQ
          clear hi hr
          go_wp2_with (first
            | (go_at_call 37; refine (IS.out _).mono ?_; rw [HI.out]; rintro e w9 ⟨rfl, rfl⟩)
            | (go_at_call 45; refine RQ.out.mono ?_; rintro e w3 ⟨rfl, hb3⟩)
            | (go_at_call 35; refine (poAlive_any _).mono ?_; rintro e w2 ⟨rfl, hb2⟩))
          go_ret
          have b3 := hb1.trans (hb3.mono hb1.size)
          exact ⟨rfl, b3.trans (hb2.mono b3.size)⟩
        · have HI := Lib.hid hi
          have RQ := Lib.hid (RR.out w1 hb1)
          have HD := Lib.hid hd
          have HLN := Lib.hid hd.len
          unfold RightPost at RQ
          rw [hr] at RQ
          clear hi hr hd
          go_wp2_with (first
            | (go_at_call 37; refine (IS.out _).mono ?_; rw [HI.out]; rintro e w9 ⟨rfl, rfl⟩)
            | (go_at_call 45; refine RQ.out.mono ?_; rintro e w3 ⟨rfl, hb3⟩)
            | (go_at_call 39; refine (polike_any _ _ _ _ (HD.out.below hb3) (by have := HL.out; omega) ((HV.out.below hb1).below hb3)).mono ?_; rintro e w4 ⟨rfl, hb4⟩)
            | (go_at_call 35; refine (poAlive_any _).mono ?_; rintro e w2 ⟨rfl, hb2⟩))
          go_ret
          have b3 := hb1.trans (hb3.mono hb1.size)
          have b4 := b3.trans (hb4.mono b3.size)
          exact ⟨rfl, b4.trans (hb2.mono b4.size)⟩

end Go.Proofs.Ytomhikjohgiloaa
