/- The walks of the statements DensePlays and DenseNobody of layer dense: for every input each returns true, and nothing that was there before is changed. -/
import Derived.Test.YtafkkhjhdfmhpaaDsLaw
import Derived.Test.YtafkkhjhdfmhpaaOpen5
namespace Go.Proofs.Ytafkkhjhdfmhpaa
set_option linter.unusedVariables false
open Go.RowKit

/-- a box of two cells, stored anew: it holds these, and rows of other types are as they were -/
theorem box_set {TS : TypeId} {w : World} {B q : Nat} {x y : Value} (r : w.ownsRow B TS 2 (.slice (some ⟨q, 0, none⟩) 1 1) 1 [x, y]) (u u' : Value) :
    ((w.setCell ⟨q, 0, none⟩ u).setCell ⟨q, 1, none⟩ u').ownsRow B TS 2 (.slice (some ⟨q, 0, none⟩) 1 1) 1 [u, u'] ∧
    (∀ (base : Nat) (e : TypeId) (size n : Nat) (v : Value) (ys : List Value), e ≠ TS → w.ownsRow base e size v n ys → ((w.setCell ⟨q, 0, none⟩ u).setCell ⟨q, 1, none⟩ u').ownsRow base e size v n ys) ∧
    Below B w ((w.setCell ⟨q, 0, none⟩ u).setCell ⟨q, 1, none⟩ u') ∧
    (∀ (base : Nat) (e : TypeId) (size n : Nat) (v : Value) (ys : List Value), v.ownBlock ≠ some q → w.ownsRow base e size v n ys → ((w.setCell ⟨q, 0, none⟩ u).setCell ⟨q, 1, none⟩ u').ownsRow base e size v n ys) := by
  have a := World.ownsRow.stored r 0 u
  have b := World.ownsRow.stored a.1 1 u'
  have hB := (r.lt q rfl).1
  refine ⟨b.1, fun base e size n v ys he o => ?_, ((Below.refl _ _).setCell (p := ⟨q, 0, none⟩) hB u).setCell (p := ⟨q, 1, none⟩) hB u', fun base e size n v ys he o => ?_⟩
  · have o1 := o.kept a.2 (own_apart o r he)
    exact o1.kept b.2 (own_apart o1 a.1 he)
  · exact (o.kept a.2 (.inr he)).kept b.2 (.inr he)
theorem box_cells {TS : TypeId} {w : World} {B q : Nat} {x y : Value} (r : w.ownsRow B TS 2 (.slice (some ⟨q, 0, none⟩) 1 1) 1 [x, y]) :
    w.cell? ⟨q, 0, none⟩ = some x ∧ w.cell? ⟨q, 1, none⟩ = some y ∧ w.frozen? ⟨q, 0, none⟩ = false ∧ w.frozen? ⟨q, 1, none⟩ = false ∧ q < w.heap.size :=
  ⟨r.cellAt 0 (by omega), r.cellAt 1 (by omega), r.frozenAt 0, r.frozenAt 1, (r.lt q rfl).2⟩
theorem tri_cells {TS : TypeId} {w : World} {B q : Nat} {x y z : Value} (r : w.ownsRow B TS 3 (.slice (some ⟨q, 0, none⟩) 1 1) 1 [x, y, z]) :
    w.cell? ⟨q, 0, none⟩ = some x ∧ w.cell? ⟨q, 1, none⟩ = some y ∧ w.cell? ⟨q, 2, none⟩ = some z :=
  ⟨r.cellAt 0 (by omega), r.cellAt 1 (by omega), r.cellAt 2 (by omega)⟩
theorem tri_new (w : World) (TO : TypeId) (a b c : Value) : (w.alloc (.cells #[a, b, c] TO)).ownsRow w.heap.size TO 3 (.slice (some ⟨w.heap.size, 0, none⟩) 1 1) 1 [a, b, c] :=
  World.ownsRow_lit (base := w.heap.size) (e := TO) (size := 3) w #[a, b, c] 1 (Nat.le_refl _) (by unfold maxLen; omega) rfl
theorem duo_new (w : World) (TO : TypeId) (a b : Value) : (w.alloc (.cells #[a, b] TO)).ownsRow w.heap.size TO 2 (.slice (some ⟨w.heap.size, 0, none⟩) 1 1) 1 [a, b] :=
  World.ownsRow_lit (base := w.heap.size) (e := TO) (size := 2) w #[a, b] 1 (Nat.le_refl _) (by unfold maxLen; omega) rfl

theorem ds_box {TD TI TS : TypeId} {w w' : World} {B g h : Nat} {l : Int} {L : List Nd} (d : DsAt TD TI w B g h l L)
    (k : ∀ (base : Nat) (e : TypeId) (size n : Nat) (v : Value) (ys : List Value), e ≠ TS → w.ownsRow base e size v n ys → w'.ownsRow base e size v n ys) (h1 : TD ≠ TS) (h2 : TI ≠ TS) : DsAt TD TI w' B g h l L :=
  ⟨k _ _ _ _ _ _ h1 d.top, k _ _ _ _ _ _ h2 d.row, d.ne⟩
set_option maxHeartbeats 3200000 in
set_option maxRecDepth 100000 in
theorem walk_denseNobody (id cc : Int) (A0 : -9223372036854775808 ≤ id) (A1 : id ≤ 9223372036854775807) (B0 : -9223372036854775808 ≤ cc) (B1 : cc ≤ 9223372036854775807) (w : World) :
    Calls Try.prog 5 #[.int .i64 id, .int .i64 cc] w fun e w' => e = .returned (.bool true) ∧ Below w.heap.size w w' := by
  go_enter Try.func5, Try.ntmps5
  go_wp2_with (first
    | (go_at_call 12; refine (dsL_nil _).mono ?_; rintro e w1 ⟨rfl, rfl⟩)
    | (go_at_call 13; refine (dsLen_nil _).mono ?_; rintro e w1 ⟨rfl, rfl⟩)
    | (go_at_call 14; refine (dsTotal_nil _).mono ?_; rintro e w1 ⟨rfl, rfl⟩)
    | (go_at_call 15; refine (dsGet_nil _ _ A0 A1).mono ?_; rintro e w1 ⟨rfl, rfl⟩)
    | (go_at_call 16; refine (dsAdd_nil _ _ _).mono ?_; rintro e w1 ⟨rfl, rfl⟩)
    | (go_at_call 17; refine (dsTake_nil _ _ A0 A1).mono ?_; rintro e w1 ⟨rfl, rfl⟩)
    | (go_at_call 18; refine (dsSnap_nil _).mono ?_; rintro e w1 ⟨rfl, rfl⟩)
    | (go_at_call 11; refine (dsClone_nil _).mono ?_; rintro e w1 ⟨rfl, rfl⟩)
    | (go_at_call 6; refine (dsAlive_any _).mono ?_; rintro e w1 ⟨rfl, hb1⟩))
  go_ret
  exact ⟨rfl, hb1⟩
set_option maxHeartbeats 3200000 in
set_option maxRecDepth 100000 in
theorem walk_densePlays (l : Int) (A : Option Addr) (n c : Nat) (O : List Pl) (L0 : -9223372036854775808 ≤ l) (L1 : l ≤ 9223372036854775807) (OB : OBds O) (m1 : n ≤ 9223372036854775807) (w : World) (H1 : PlacedAt w (.slice A n c) O) :
    Calls Try.prog 3 #[.int .i64 l, .slice A n c] w fun e w' => e = .returned (.bool true) ∧ Below w.heap.size w w' := by
  have HO := Lib.hid H1
  have HL := Lib.hid (placed_cells H1).1
  have HA := Lib.hid (placed_cells H1).2.2.2
  have HB := Lib.hid OB
  clear H1 OB
  by_cases hn : 100 < n
  · go_enter Try.func3, Try.ntmps3
    go_wp2_with (go_at_call 6; refine (dsAlive_any _).mono ?_; rintro e w1 ⟨rfl, hb1⟩)
    all_goals (go_ret; exact ⟨rfl, hb1⟩)
  · by_cases hl : 12 < l ∧ 20 < n
    · obtain ⟨hl1, hl2⟩ := hl
      go_enter Try.func3, Try.ntmps3
      go_wp2_with (go_at_call 6; refine (dsAlive_any _).mono ?_; rintro e w1 ⟨rfl, hb1⟩)
      all_goals (go_ret; exact ⟨rfl, hb1⟩)
    · have hl2 : l ≤ 12 ∨ (12 < l ∧ n ≤ 20) := by omega
      clear hl
      rcases (show (1 ≤ l ∧ l ≤ 16) ∨ l < 1 ∨ (1 ≤ l ∧ 16 < l) by omega) with hr | hr | hr
      · obtain ⟨h1, h2⟩ := hr
        have RN := Lib.hid (roll_nil (uni_yes (l := l) ⟨h1, by omega⟩))
        rcases hl2 with hl2 | ⟨hl2, hl3⟩
        all_goals
          go_enter Try.func3, Try.ntmps3
          go_wp2_with fail
          refine (dsNew_any l _ h1 h2).mono ?_
          rintro e w1 ⟨g, h, rfl, d1, b1⟩
          have D1 : Hid (DsA w1 w.heap.size g h l []) := d1
          have HLT := Lib.hid d1.lt
          have B1 := Lib.hid b1
          have hz1 := b1.size
          clear d1 b1
          go_wp2_with fail
          go_loopw [55] (fun i wr => ∃ (k : Nat) (L : List Nd) (A2 : Option Addr) (m2 c2 : Nat), k ≤ n ∧ i = .int .i64 k ∧ L.length ≤ k ∧ RollC l L ∧ DsA wr w.heap.size g h l L ∧ wr.ownsRow w.heap.size 30 2 (.slice (some ⟨w1.heap.size, 0, none⟩) 1 1) 1 [.int .i64 l, .slice A2 m2 c2] ∧ OwnNd 47 wr 0 (.slice A2 m2 c2) L ∧ Below w.heap.size w wr) (fun i _ => n - (intOf i).toNat)
          case atStart => exact ⟨0, [], none, 0, 0, by omega, rfl, by simp, RN.out, D1.out.below ((Below.refl _ _).alloc (Nat.le_refl _) _), own_low (duo_new ..) (by omega), ownNd_nil .., B1.out.alloc (by omega) _⟩
          case round =>
            rename_i wr
            obtain ⟨k, L, A2, m2, c2, hk, rfl, hLk, hroll, hd, hbox, hown, hb⟩ := hrel
            have ROLL := Lib.hid hroll
            have DD : Hid (DsA wr w.heap.size g h l L) := hd
            have BOX := Lib.hid hbox
            have OWN := Lib.hid hown
            have BB := Lib.hid hb
            have ML := Lib.hid (nodes_cells (ownNd_nodes hown)).1
            have hml : m2 ≤ 400000 := by have := ML.out; omega
            obtain ⟨q0, q1, _, _, hq⟩ := box_cells hbox
            have hzr := hb.size
            have HLK := Lib.hid hLk
            clear hroll hd hbox hown hLk
            by_cases hlt : k < n
            · have hk2 : k < O.length := by have := HL.out; omega
              obtain ⟨b, o, rfl, hin⟩ := HA.out (by have := HL.out; omega)
              obtain ⟨e0, e1, e2⟩ := (hin.below hb hin.1).2 k hk2
              have hbd := obds_at HB.out hk2
              obtain ⟨_, ⟨b2, b3⟩, b4, b5⟩ := hbd
              have hbl := hin.1
              clear hin hb
              generalize O.getD k plz = r at *
              obtain ⟨⟨kd, id⟩, cc⟩ := r
              simp only at e0 e1 e2 b2 b3 b4 b5
              have HQ := Lib.hid hq
              have hqa : w1.heap.size < (wr.alloc (.cells #[.int .i64 kd, .int .i64 id, .int .i64 cc] 32)).heap.size := by simp; omega
              go_wp2_with fail
              refine (rsDo_any _ _ _ _ _ _ _ _ _ (OWN.out.alloc _) ROLL.out hml b2 b3 b4 b5).mono ?_
              rintro e w2 ⟨A3, m3, c3, rfl, ho3, hb2⟩
              have z2 := hb2.size
              simp at z2
              have hbx2 := own_below (BOX.out.alloc (.cells #[.int .i64 kd, .int .i64 id, .int .i64 cc] 32)) hb2
              have htr2 := own_below (tri_new wr 32 (.int .i64 kd) (.int .i64 id) (.int .i64 cc)) hb2
              have DD2 : Hid (DsA w2 w.heap.size g h l L) := (DD.out.below ((Below.refl _ _).alloc (Nat.le_refl _) _)).below hb2
              obtain ⟨x0, x1, x2, x3, x4⟩ := box_cells hbx2
              have S2 := box_set hbx2 (.int .i64 l) (.slice A3 m3 c3)
              obtain ⟨y0, y1, y2⟩ := tri_cells (S2.2.1 _ _ _ _ _ _ (by decide) htr2)
              have hwz : wr.heap.size < w2.heap.size := by omega
              have DD3 : Hid (DsA ((w2.setCell ⟨w1.heap.size, 0, none⟩ (.int .i64 l)).setCell ⟨w1.heap.size, 1, none⟩ (.slice A3 m3 c3)) w.heap.size g h l L) := ds_box DD2.out S2.2.1 (by decide) (by decide)
              have OW3 : Hid (OwnNd 47 ((w2.setCell ⟨w1.heap.size, 0, none⟩ (.int .i64 l)).setCell ⟨w1.heap.size, 1, none⟩ (.slice A3 m3 c3)) 0 (.slice A3 m3 c3) (doW l L kd id cc)) := S2.2.1 _ _ _ _ _ _ (by decide) ho3
              have BX3 := Lib.hid S2.1
              have BW3 : Hid (Below w.heap.size w ((w2.setCell ⟨w1.heap.size, 0, none⟩ (.int .i64 l)).setCell ⟨w1.heap.size, 1, none⟩ (.slice A3 m3 c3))) := ((BB.out.alloc (by omega) _).trans (hb2.mono (by simp; omega))).trans S2.2.2.1
              have HLD := Lib.hid (do_len (k := kd) (id := id) (c := cc) ROLL.out)
              have hL3 : Hid (L.length ≤ k) := HLK.out
              clear htr2 ho3 hbx2 S2 hb2 DD DD2 BOX OWN q0 q1 e0 e1 e2
              go_wp2_with fail
              refine (do_any _ _ _ _ (DD3.out.below ((Below.refl _ _).alloc (Nat.le_refl _) _)) ROLL.out h2 b2 b3 b4 b5).mono ?_
              rintro e w4 ⟨rfl, hd4, hc4⟩
              have hba : Below _ ((w2.setCell ⟨w1.heap.size, 0, none⟩ (.int .i64 l)).setCell ⟨w1.heap.size, 1, none⟩ (.slice A3 m3 c3)) (((w2.setCell ⟨w1.heap.size, 0, none⟩ (.int .i64 l)).setCell ⟨w1.heap.size, 1, none⟩ (.slice A3 m3 c3)).alloc (.cells #[.int .i64 l, .slice A3 m3 c3] 30)) := (Below.refl _ _).alloc (Nat.le_refl _) _
              have dc := DD3.out.below hba
              have BX4 := dc.other (BX3.out.alloc _) hc4 (by decide) (by decide)
              have OW4 : Hid (OwnNd 47 w4 0 (.slice A3 m3 c3) (doW l L kd id cc)) := dc.other (World.ownsRow.alloc OW3.out _) hc4 (by decide) (by decide)
              have hz3 := BW3.out.size
              have BW4 : Hid (Below w.heap.size w w4) := (BW3.out.alloc hz3 _).trans (hc4.below HLT.out.1 HLT.out.2.2.1 (by simp at hz3 ⊢; omega))
              have HD4 : Hid (DsA w4 w.heap.size g h l (doW l L kd id cc)) := hd4
              obtain ⟨x0, x1, _, _, _⟩ := box_cells BX4
              have HB4 := Lib.hid BX4
              have RL4 := Lib.hid (roll_do (k := kd) (id := id) (c := cc) ROLL.out)
              clear hba dc BX4 hd4 hc4 BX3 OW3 DD3 y0 y1 y2 hz3
              go_wp2_with fail
              refine (like_any _ _ _ _ HD4.out (ownNd_nodes OW4.out) RL4.out h2).mono ?_
              rintro e w5 ⟨rfl, hb5⟩
              have hz5 := hb5.size
              have P1 : Hid (DsA w5 w.heap.size g h l (doW l L kd id cc)) := HD4.out.below hb5
              have P2 := Lib.hid (own_below HB4.out hb5)
              have P3 : Hid (OwnNd 47 w5 0 (.slice A3 m3 c3) (doW l L kd id cc)) := own_below OW4.out hb5
              have P4 : Hid (Below w.heap.size w w5) := BW4.out.trans (hb5.mono BW4.out.size)
              clear hb5 x0 x1
              go_wp2_with fail
              go_roundw
              case rel => exact ⟨k + 1, doW l L kd id cc, A3, m3, c3, by omega, by go_num, by have := HLD.out; have := hL3.out; omega, RL4.out, P1.out, P2.out, P3.out, P4.out⟩
              case measure => simp [intOf]; omega
            · go_wp2_with (go_at_call 6; refine (dsAlive_any _).mono ?_; rintro e w9 ⟨rfl, hb9⟩)
              go_ret
              exact ⟨rfl, BB.out.trans (hb9.mono BB.out.size)⟩
      · have NO := Lib.hid (dsNew_no l w (by omega))
        have hl3 : l ≤ 12 := by omega
        clear hl2
        go_enter Try.func3, Try.ntmps3
        go_wp2_with (first | (go_at_call 7; refine NO.out.mono ?_; rintro e w1 ⟨rfl, rfl⟩) | (go_at_call 6; refine (dsAlive_any _).mono ?_; rintro e w1 ⟨rfl, hb1⟩))
        go_ret
        exact ⟨rfl, hb1⟩
      · have NO := Lib.hid (dsNew_no l w (by omega))
        obtain ⟨hr1, hr2⟩ := hr
        rcases hl2 with hl2 | ⟨hl2, hl3⟩
        · omega
        · go_enter Try.func3, Try.ntmps3
          go_wp2_with (first | (go_at_call 7; refine NO.out.mono ?_; rintro e w1 ⟨rfl, rfl⟩) | (go_at_call 6; refine (dsAlive_any _).mono ?_; rintro e w1 ⟨rfl, hb1⟩))
          go_ret
          exact ⟨rfl, hb1⟩

end Go.Proofs.Ytafkkhjhdfmhpaa
