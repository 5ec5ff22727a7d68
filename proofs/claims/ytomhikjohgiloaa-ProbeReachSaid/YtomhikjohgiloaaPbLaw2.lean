/- The walks of the statements ProbeHomes and ProbePlays of layer probe: for every input each returns true, and nothing that was there before is changed. -/
import Derived.Test.YtomhikjohgiloaaPbLaw
import Derived.Test.YtomhikjohgiloaaPbDo
import Derived.Test.YtomhikjohgiloaaPln
import Derived.Test.YtomhikjohgiloaaDsLaw2
namespace Go.Proofs.Ytomhikjohgiloaa
set_option linter.unusedVariables false
set_option maxRecDepth 100000
open Go.RowKit

theorem ps_box {TD TN TS : TypeId} {w w' : World} {B g h N : Nat} {xs ys : List Value} (d : Ps TD TN w B g h N xs ys)
    (k : ∀ (base : Nat) (e : TypeId) (size n : Nat) (v : Value) (ys : List Value), e ≠ TS → w.ownsRow base e size v n ys → w'.ownsRow base e size v n ys) (h1 : TD ≠ TS) (h2 : TN ≠ TS) : Ps TD TN w' B g h N xs ys :=
  ⟨k _ _ _ _ _ _ h1 d.top, k _ _ _ _ _ _ h2 d.row, d.ne⟩
theorem own_new {w : World} {B : Nat} {e : TypeId} {size n h h2 : Nat} {v : Value} {xs : List Value} (o : w.ownsRow B e size v n xs) (h0 : v.ownBlock ≠ some h) (hh : h2 = h ∨ w.heap.size ≤ h2) : v.ownBlock ≠ some h2 := by
  rcases hh with q | q
  · rw [q]; exact h0
  · intro e
    have := (World.ownsRow.lt o h2 e).2
    omega
theorem newB_ne {v0 v : Value} {k h : Nat} (q : NewB v0 v k) (h0 : v0.ownBlock ≠ some h) (hh : h < k) : v.ownBlock ≠ some h := by
  rcases q with q | q
  · rw [q]; exact h0
  · intro e
    have := q h e
    omega
set_option maxHeartbeats 1600000 in
theorem walk_probeHomes (bits id : Int) (A0 : -9223372036854775808 ≤ bits) (A1 : bits ≤ 9223372036854775807) (B0 : -9223372036854775808 ≤ id) (B1 : id ≤ 9223372036854775807) (w : World) :
    Calls Try.prog 3 #[.int .i64 bits, .int .i64 id] w fun e w' => e = .returned (.bool true) ∧ Below w.heap.size w w' := by
  have H1 := Lib.hid (pbHome_any bits id w A0 A1 B0 B1)
  have H2 := Lib.hid (rHome_any bits id w A0 A1 B0 B1)
  obtain ⟨v, hv⟩ : ∃ v, v = homeV bits id := ⟨_, rfl⟩
  rw [← hv] at H1 H2
  clear hv
  go_enter Try.func3, Try.ntmps3
  go_wp2_with (first
    | (go_at_call 14; refine H1.out.mono ?_; rintro e w1 ⟨rfl, rfl⟩)
    | (go_at_call 15; refine H2.out.mono ?_; rintro e w1 ⟨rfl, rfl⟩)
    | (go_at_call 16; refine (pbAlive_any _).mono ?_; rintro e w1 ⟨rfl, hb1⟩))
  go_ret
  exact ⟨rfl, hb1⟩
set_option maxHeartbeats 3200000 in
theorem walk_probePlays (l : Int) (A : Option Addr) (n c : Nat) (O : List Pl) (L0 : -9223372036854775808 ≤ l) (L1 : l ≤ 9223372036854775807) (OB : OBds O) (m1 : n ≤ 9223372036854775807) (w : World) (H1 : PlacedAt w (.slice A n c) O) :
    Calls Try.prog 5 #[.int .i64 l, .slice A n c] w fun e w' => e = .returned (.bool true) ∧ Below w.heap.size w w' := by
  have HO := Lib.hid H1
  have HL := Lib.hid (placed_cells H1).1
  have HA := Lib.hid (placed_cells H1).2.2.2
  have HB := Lib.hid OB
  clear H1 OB
  by_cases hn : 100 < n
  · go_enter Try.func5, Try.ntmps5
    go_wp2_with (go_at_call 16; refine (pbAlive_any _).mono ?_; rintro e w1 ⟨rfl, hb1⟩)
    all_goals (go_ret; exact ⟨rfl, hb1⟩)
  · by_cases hr : l < 1
    · go_enter Try.func5, Try.ntmps5
      go_wp2_with (go_at_call 16; refine (pbAlive_any _).mono ?_; rintro e w1 ⟨rfl, hb1⟩)
      all_goals (go_ret; exact ⟨rfl, hb1⟩)
    · by_cases hr2 : 48 < l
      · go_enter Try.func5, Try.ntmps5
        go_wp2_with (go_at_call 16; refine (pbAlive_any _).mono ?_; rintro e w1 ⟨rfl, hb1⟩)
        all_goals (go_ret; exact ⟨rfl, hb1⟩)
      · have h1 : 1 ≤ l := by omega
        have h2 : l ≤ 48 := by omega
        have T0 := Lib.hid (tb_new (uni_yes (l := l) ⟨h1, h2⟩))
        clear hr hr2
        go_enter Try.func5, Try.ntmps5
        go_wp2_with fail
        refine (pbNew_any l _ h1 h2).mono ?_
        rintro e w1 ⟨g, h, rfl, d1, b1⟩
        have D1 : Hid (PbA w1 w.heap.size g h l (([] : List Nd).length : Int) (sumC []) 3 (List.replicate 8 nz)) := d1
        have HLT := Lib.hid d1.lt
        have B1 := Lib.hid b1
        have hz1 := b1.size
        clear d1 b1
        go_wp2_with fail
        go_loopw [39] (fun i wr => ∃ (k : Nat) (L : List Nd) (b : Nat) (S : List Nd) (h : Nat) (A2 : Option Addr) (m2 c2 : Nat), k ≤ n ∧ i = .int .i64 k ∧ SzC k b L ∧ Tb l b S L ∧ PbA wr w.heap.size g h l (L.length : Int) (sumC L) b S ∧ wr.ownsRow w.heap.size 48 2 (.slice (some ⟨w1.heap.size, 0, none⟩) 1 1) 1 [.int .i64 l, .slice A2 m2 c2] ∧ OwnNd 42 wr 0 (.slice A2 m2 c2) L ∧ (Value.slice A2 m2 c2).ownBlock ≠ some h ∧ Below w.heap.size w wr) (fun i _ => n - (intOf i).toNat)
        case atStart => exact ⟨0, [], 3, _, h, none, 0, 0, by omega, rfl, szc_new, T0.out, Ps.below D1.out ((Below.refl _ _).alloc (Nat.le_refl _) _), own_low (duo_new ..) (by omega), ownNd_nil .., by simp [Value.ownBlock], B1.out.alloc (by omega) _⟩
        case round =>
          rename_i wr
          obtain ⟨k, L, b, S, h, A2, m2, c2, hk, rfl, hsz, hT, hd, hbox, hown, hne, hb⟩ := hrel
          have TT := Lib.hid hT
          have DD : Hid (PbA wr w.heap.size g h l (L.length : Int) (sumC L) b S) := hd
          have BOX := Lib.hid hbox
          have OWN := Lib.hid hown
          have BB := Lib.hid hb
          have ML := Lib.hid (nodes_cells (ownNd_nodes hown)).1
          have SZ := Lib.hid hsz
          have NE := Lib.hid hne
          obtain ⟨hbb, hLk⟩ := szc_b hsz (by omega)
          have hml : m2 ≤ 400000 := by have := ML.out; omega
          obtain ⟨q0, q1, _, _, hq⟩ := box_cells hbox
          have hzr := hb.size
          have hhz : h < wr.heap.size := hd.lt.2.2.2
          clear hT hd hbox hown hsz hne
          by_cases hlt : k < n
          · have hk2 : k < O.length := by have := HL.out; omega
            obtain ⟨bq, o, rfl, hin⟩ := HA.out (by have := HL.out; omega)
            obtain ⟨e0, e1, e2⟩ := (hin.below hb hin.1).2 k hk2
            have hbd := obds_at HB.out hk2
            obtain ⟨_, ⟨b2, b3⟩, b4, b5⟩ := hbd
            have hbl := hin.1
            clear hin hb
            generalize O.getD k plz = r at *
            obtain ⟨⟨kd, id⟩, cc⟩ := r
            simp only at e0 e1 e2 b2 b3 b4 b5
            have HQ := Lib.hid hq
            have hqa : w1.heap.size < (wr.alloc (.cells #[.int .i64 kd, .int .i64 id, .int .i64 cc] 36)).heap.size := by simp; omega
            go_wp2_with fail
            refine (rsDo_any _ _ _ _ _ _ _ _ _ (OWN.out.alloc _) TT.out.roll hml b2 b3 b4 b5).mono ?_
            rintro e w2 ⟨A3, m3, c3, rfl, ho3, hb2, hnb⟩
            have NE3 := Lib.hid (newB_ne hnb NE.out (by simp; omega))
            have z2 := hb2.size
            simp at z2
            have hbx2 := own_below (BOX.out.alloc (.cells #[.int .i64 kd, .int .i64 id, .int .i64 cc] 36)) hb2
            have htr2 := own_below (tri_new wr 36 (.int .i64 kd) (.int .i64 id) (.int .i64 cc)) hb2
            have DD2 : Hid (PbA w2 w.heap.size g h l (L.length : Int) (sumC L) b S) := Ps.below (Ps.below DD.out ((Below.refl _ _).alloc (Nat.le_refl _) _)) hb2
            obtain ⟨x0, x1, x2, x3, x4⟩ := box_cells hbx2
            have S2 := box_set hbx2 (.int .i64 l) (.slice A3 m3 c3)
            obtain ⟨y0, y1, y2⟩ := tri_cells (S2.2.1 _ _ _ _ _ _ (by decide) htr2)
            have hwz : wr.heap.size < w2.heap.size := by omega
            have DD3 : Hid (PbA ((w2.setCell ⟨w1.heap.size, 0, none⟩ (.int .i64 l)).setCell ⟨w1.heap.size, 1, none⟩ (.slice A3 m3 c3)) w.heap.size g h l (L.length : Int) (sumC L) b S) := ps_box DD2.out S2.2.1 (by decide) (by decide)
            have OW3 : Hid (OwnNd 42 ((w2.setCell ⟨w1.heap.size, 0, none⟩ (.int .i64 l)).setCell ⟨w1.heap.size, 1, none⟩ (.slice A3 m3 c3)) 0 (.slice A3 m3 c3) (doW l L kd id cc)) := S2.2.1 _ _ _ _ _ _ (by decide) ho3
            have BX3 := Lib.hid S2.1
            have BW3 : Hid (Below w.heap.size w ((w2.setCell ⟨w1.heap.size, 0, none⟩ (.int .i64 l)).setCell ⟨w1.heap.size, 1, none⟩ (.slice A3 m3 c3))) := ((BB.out.alloc (by omega) _).trans (hb2.mono (by simp; omega))).trans S2.2.2.1
            clear htr2 ho3 hbx2 S2 hb2 DD DD2 BOX OWN q0 q1 e0 e1 e2 hnb NE
            go_wp2_with fail
            refine (pdo_any _ _ _ _ (Ps.below DD3.out ((Below.refl _ _).alloc (Nat.le_refl _) _)) TT.out (by omega) b2 b3 b4 b5).mono ?_
            rintro e w4 ⟨rfl, h2', hd4, hc4, hh4⟩
            have hba : Below _ ((w2.setCell ⟨w1.heap.size, 0, none⟩ (.int .i64 l)).setCell ⟨w1.heap.size, 1, none⟩ (.slice A3 m3 c3)) (((w2.setCell ⟨w1.heap.size, 0, none⟩ (.int .i64 l)).setCell ⟨w1.heap.size, 1, none⟩ (.slice A3 m3 c3)).alloc (.cells #[.int .i64 l, .slice A3 m3 c3] 48)) := (Below.refl _ _).alloc (Nat.le_refl _) _
            have dc := Ps.below DD3.out hba
            have BX4 := dc.other (BX3.out.alloc _) hc4 (by decide) (by decide)
            have OW4 : Hid (OwnNd 42 w4 0 (.slice A3 m3 c3) (doW l L kd id cc)) := dc.nodes (World.ownsRow.alloc OW3.out _) hc4 (by decide) NE3.out
            have NE4 := Lib.hid (own_new (World.ownsRow.alloc OW3.out (.cells #[.int .i64 l, .slice A3 m3 c3] 48)) NE3.out hh4)
            have hz3 := BW3.out.size
            have BW4 : Hid (Below w.heap.size w w4) := (BW3.out.alloc hz3 _).trans (hc4.below dc.lt.1 dc.lt.2.2.1 (by simp at hz3 ⊢; omega))
            have TT4 := Lib.hid (TT.out.doC (show b ≤ 61 by omega) kd id cc)
            have SZ4 := Lib.hid (szc_do TT.out SZ.out kd id cc)
            obtain ⟨b', hb'⟩ : ∃ x, x = doB l b S L kd id cc := ⟨_, rfl⟩
            obtain ⟨S', hS'⟩ : ∃ x, x = doS l b S L kd id cc := ⟨_, rfl⟩
            obtain ⟨L', hL'⟩ : ∃ x, x = doW l L kd id cc := ⟨_, rfl⟩
            rw [← hb', ← hL'] at SZ4
            rw [← hb', ← hS', ← hL'] at TT4 hd4
            rw [← hL'] at OW4
            clear hb' hS' hL'
            have HD4 : Hid (PbA w4 w.heap.size g h2' l (L'.length : Int) (sumC L') b' S') := hd4
            have hbb4 := (szc_b SZ4.out (by omega)).1
            have hll4 := (szc_b SZ4.out (by omega)).2
            obtain ⟨x0, x1, _, _, _⟩ := box_cells BX4
            have HB4 := Lib.hid BX4
            clear hba dc BX4 hd4 hc4 BX3 OW3 DD3 y0 y1 y2 hz3 hh4 NE3
            go_wp2_with fail
            refine (plike_any _ _ _ _ HD4.out TT4.out (by omega) (by omega) (ownNd_nodes OW4.out)).mono ?_
            rintro e w5 ⟨rfl, hb5⟩
            have hz5 := hb5.size
            have P1 : Hid (PbA w5 w.heap.size g h2' l (L'.length : Int) (sumC L') b' S') := Ps.below HD4.out hb5
            have P2 := Lib.hid (own_below HB4.out hb5)
            have P3 : Hid (OwnNd 42 w5 0 (.slice A3 m3 c3) L') := own_below OW4.out hb5
            have P4 : Hid (Below w.heap.size w w5) := BW4.out.trans (hb5.mono BW4.out.size)
            clear hb5 x0 x1
            go_wp2_with fail
            go_roundw
            case rel => exact ⟨k + 1, L', b', S', h2', A3, m3, c3, by omega, by go_num, SZ4.out, TT4.out, P1.out, P2.out, P3.out, NE4.out, P4.out⟩
            case measure => simp [intOf]; omega
          · go_wp2_with (go_at_call 16; refine (pbAlive_any _).mono ?_; rintro e w9 ⟨rfl, hb9⟩)
            go_ret
            exact ⟨rfl, BB.out.trans (hb9.mono BB.out.size)⟩

end Go.Proofs.Ytomhikjohgiloaa
