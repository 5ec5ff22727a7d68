/- The walk of the statement DenseApart of layer dense: for every input it returns true, and nothing that was there before is changed. -/
import Derived.Test.YtafkkhjhdfmhpaaDsLaw2
namespace Go.Proofs.Ytafkkhjhdfmhpaa
set_option linter.unusedVariables false
open Go.RowKit

/-- a store, and a box that holds its list -/
structure Pair (B : Nat) (w : World) (g h q : Nat) (l : Int) (v : Value) (L : List Nd) : Prop where
  ds : DsA w B g h l L
  box : w.ownsRow B 30 2 (.slice (some ⟨q, 0, none⟩) 1 1) 1 [.int .i64 l, v]
  own : OwnNd 47 w 0 v L
  roll : RollC l L
theorem Pair.below {B : Nat} {w w' : World} {g h q : Nat} {l : Int} {v : Value} {L : List Nd} (p : Pair B w g h q l v L) (hb : Below w.heap.size w w') : Pair B w' g h q l v L :=
  ⟨p.ds.below hb, own_below p.box hb, own_below p.own hb, p.roll⟩
/-- the other store of two is written: this one is kept -/
theorem Pair.chg {B : Nat} {w w' : World} {g h q g2 h2 : Nat} {l l2 : Int} {v : Value} {L L2 : List Nd} (p : Pair B w g h q l v L) (d : DsA w B g2 h2 l2 L2) (c : Chg g2 h2 w w') (a1 : g ≠ g2) (a2 : h ≠ h2) : Pair B w' g h q l v L :=
  ⟨p.ds.chg c a1 (fun e => by
      rcases own_apart p.ds.top d.row (by decide) with h | h
      · simp [Value.ownBlock] at h
      · exact h (by simp [Value.ownBlock, e])) (fun e => by
      rcases own_apart p.ds.row d.top (by decide) with h | h
      · simp [Value.ownBlock] at h
      · exact h (by simp [Value.ownBlock, e])) a2, d.other p.box c (by decide) (by decide), d.other p.own c (by decide) (by decide), p.roll⟩
/-- the other box of two is written: this one is kept -/
theorem Pair.boxed {B : Nat} {w w' : World} {g h q q2 : Nat} {l : Int} {v : Value} {L : List Nd} (p : Pair B w g h q l v L)
    (k : ∀ (base : Nat) (e : TypeId) (size n : Nat) (v : Value) (ys : List Value), v.ownBlock ≠ some q2 → w.ownsRow base e size v n ys → w'.ownsRow base e size v n ys)
    (k2 : ∀ (base : Nat) (e : TypeId) (size n : Nat) (v : Value) (ys : List Value), e ≠ 30 → w.ownsRow base e size v n ys → w'.ownsRow base e size v n ys) (hq : q ≠ q2) : Pair B w' g h q l v L :=
  ⟨ds_box p.ds k2 (by decide) (by decide), k _ _ _ _ _ _ (by simpa [Value.ownBlock] using hq) p.box, k2 _ _ _ _ _ _ (by decide) p.own, p.roll⟩
/-- what is to be done at a box of a store when a call comes: Do, behind the store's own call -/
theorem pair_do {B : Nat} {w w' : World} {g h q : Nat} {l : Int} {v : Value} {L M : List Nd} (p : Pair B w g h q l v L) (hd : DsA w' B g h l M) (c : Chg g h w w') : DsA w' B g h l M ∧ w'.ownsRow B 30 2 (.slice (some ⟨q, 0, none⟩) 1 1) 1 [.int .i64 l, v] ∧ OwnNd 47 w' 0 v L :=
  ⟨hd, p.ds.other p.box c (by decide) (by decide), p.ds.other p.own c (by decide) (by decide)⟩
theorem DsAt.low {TD TI : TypeId} {w : World} {B B2 g h : Nat} {l : Int} {L : List Nd} (d : DsAt TD TI w B g h l L) (hB : B2 ≤ B) : DsAt TD TI w B2 g h l L := ⟨own_low d.top hB, own_low d.row hB, d.ne⟩
/-- behind a round: the store, its list's box stored anew -/
theorem pair_next {B : Nat} {w3 : World} {g h q : Nat} {l : Int} {v v' : Value} {M : List Nd} (d : DsA w3 B g h l M) (r : w3.ownsRow B 30 2 (.slice (some ⟨q, 0, none⟩) 1 1) 1 [.int .i64 l, v]) (o : OwnNd 47 w3 0 v' M) (hr : RollC l M) :
    Pair B ((w3.setCell ⟨q, 0, none⟩ (.int .i64 l)).setCell ⟨q, 1, none⟩ v') g h q l v' M ∧ Below B w3 ((w3.setCell ⟨q, 0, none⟩ (.int .i64 l)).setCell ⟨q, 1, none⟩ v') := by
  have S := box_set r (.int .i64 l) v'
  exact ⟨⟨ds_box d S.2.1 (by decide) (by decide), S.1, S.2.1 _ _ _ _ _ _ (by decide) o, hr⟩, S.2.2.1⟩
/-- behind a round: the other store and its list -/
theorem pair_other {B : Nat} {wr wa w2 w3 : World} {g h q g2 h2 q2 : Nat} {l : Int} {v v' v0 : Value} {L L0 : List Nd} (p : Pair B wr g2 h2 q2 l v0 L0) (hba : Below wr.heap.size wr wa) (da : DsA wa B g h l L) (c : Chg g h wa w2) (hb3 : Below w2.heap.size w2 w3)
    (r : w3.ownsRow B 30 2 (.slice (some ⟨q, 0, none⟩) 1 1) 1 [.int .i64 l, v]) (a1 : g2 ≠ g) (a2 : h2 ≠ h) (a3 : q2 ≠ q) : Pair B ((w3.setCell ⟨q, 0, none⟩ (.int .i64 l)).setCell ⟨q, 1, none⟩ v') g2 h2 q2 l v0 L0 := by
  have S := box_set r (.int .i64 l) v'
  exact (((p.below hba).chg da c a1 a2).below hb3).boxed S.2.2.2 S.2.1 a3
set_option maxHeartbeats 6400000 in
set_option maxRecDepth 100000 in
theorem walk_denseApart (l : Int) (A1 : Option Addr) (n1 c1 : Nat) (O1 : List Pl) (A2 : Option Addr) (n2 c2 : Nat) (O2 : List Pl) (A3 : Option Addr) (n3 c3 : Nat) (O3 : List Pl) (L0 : -9223372036854775808 ≤ l) (L1 : l ≤ 9223372036854775807) (OB1 : OBds O1) (m1 : n1 ≤ 9223372036854775807) (OB2 : OBds O2) (m2 : n2 ≤ 9223372036854775807) (OB3 : OBds O3) (m3 : n3 ≤ 9223372036854775807) (w : World)
    (H1 : PlacedAt w (.slice A1 n1 c1) O1) (H2 : PlacedAt w (.slice A2 n2 c2) O2) (H3 : PlacedAt w (.slice A3 n3 c3) O3) :
    Calls Try.prog 4 #[.int .i64 l, .slice A1 n1 c1, .slice A2 n2 c2, .slice A3 n3 c3] w fun e w' => e = .returned (.bool true) ∧ Below w.heap.size w w' := by
  have HL1 := Lib.hid (placed_cells H1).1
  have HA1 := Lib.hid (placed_cells H1).2.2.2
  have HB1 := Lib.hid OB1
  have HL2 := Lib.hid (placed_cells H2).1
  have HA2 := Lib.hid (placed_cells H2).2.2.2
  have HB2 := Lib.hid OB2
  have HL3 := Lib.hid (placed_cells H3).1
  have HA3 := Lib.hid (placed_cells H3).2.2.2
  have HB3 := Lib.hid OB3
  clear H1 H2 H3 OB1 OB2 OB3
  by_cases hg : l < 1 ∨ 10 < l ∨ 60 < n1 ∨ 60 < n2 ∨ 60 < n3
  · rcases (show l < 1 ∨ (1 ≤ l ∧ 10 < l) ∨ (1 ≤ l ∧ l ≤ 10 ∧ 60 < n1) ∨ (1 ≤ l ∧ l ≤ 10 ∧ n1 ≤ 60 ∧ 60 < n2) ∨ (1 ≤ l ∧ l ≤ 10 ∧ n1 ≤ 60 ∧ n2 ≤ 60 ∧ 60 < n3) by omega) with hr | ⟨hr1, hr⟩ | ⟨hr1, hr2, hr⟩ | ⟨hr1, hr2, hr3, hr⟩ | ⟨hr1, hr2, hr3, hr4, hr⟩
    all_goals
      clear hg
      go_enter Try.func4, Try.ntmps4
      go_wp2_with (go_at_call 6; refine (dsAlive_any _).mono ?_; rintro e w1 ⟨rfl, hb1⟩)
      go_ret
      exact ⟨rfl, hb1⟩
  · have hl1 : 1 ≤ l := by omega
    have hl2 : l ≤ 10 := by omega
    have hm1 : n1 ≤ 60 := by omega
    have hm2 : n2 ≤ 60 := by omega
    have hm3 : n3 ≤ 60 := by omega
    have RN := Lib.hid (roll_nil (uni_yes (l := l) ⟨hl1, by omega⟩))
    clear hg
    go_enter Try.func4, Try.ntmps4
    go_wp2_with fail
    refine (dsNew_any l _ hl1 (by omega)).mono ?_
    rintro e w1 ⟨g, h, rfl, d1, b1⟩
    have D1 : Hid (DsA w1 w.heap.size g h l []) := d1
    have HLT := Lib.hid d1.lt
    have B1 := Lib.hid b1
    have hz1 := b1.size
    clear d1 b1
    go_wp2_with fail
    go_loopw [57] (fun i wr => ∃ (k : Nat) (L : List Nd) (A : Option Addr) (m c : Nat), k ≤ n1 ∧ i = .int .i64 k ∧ L.length ≤ k ∧ Pair w.heap.size wr g h w1.heap.size l (.slice A m c) L ∧ Below w.heap.size w wr) (fun i _ => n1 - (intOf i).toNat)
    case atStart => exact ⟨0, [], none, 0, 0, by omega, rfl, by simp, ⟨D1.out.below ((Below.refl _ _).alloc (Nat.le_refl _) _), own_low (duo_new ..) (by omega), ownNd_nil .., RN.out⟩, B1.out.alloc (by omega) _⟩
    case round =>
      rename_i wr
      obtain ⟨k, L, A, m, c, hk, rfl, hLk, hp, hb⟩ := hrel
      by_cases hlt : k < n1
      · obtain ⟨b, o, rfl, hin⟩ := HA1.out (by have := HL1.out; omega)
        have hk2 : k < O1.length := by have := HL1.out; omega
        obtain ⟨e0, e1, e2⟩ := (hin.below hb hin.1).2 k hk2
        have hbd := obds_at HB1.out hk2
        obtain ⟨_, ⟨b2, b3⟩, b4, b5⟩ := hbd
        have hbl := hin.1
        have PP := Lib.hid hp
        have BB := Lib.hid hb
        have HLK := Lib.hid hLk
        have hml : m ≤ 400000 := by have := (nodes_cells (ownNd_nodes hp.own)).1; omega
        have hzr := hb.size
        clear hin hb hp hLk
        generalize O1.getD k plz = r at *
        obtain ⟨⟨kd, id⟩, cc⟩ := r
        simp only at e0 e1 e2 b2 b3 b4 b5
        have HBA := Lib.hid (call_box wr 32 (.int .i64 kd) (.int .i64 id) (.int .i64 cc))
        have PA := Lib.hid (PP.out.below HBA.out)
        go_wp2_with fail
        refine (do_any _ _ _ _ PA.out.ds PP.out.roll (by omega) b2 b3 b4 b5).mono ?_
        rintro e w2 ⟨rfl, hd2, hc2⟩
        have HC2 := Lib.hid hc2
        have P2 := Lib.hid (pair_do PA.out hd2 hc2)
        have z2 := hc2.size
        simp at z2
        obtain ⟨y0, y1, y2⟩ := tri_cells (PA.out.ds.other (tri_new wr 32 (.int .i64 kd) (.int .i64 id) (.int .i64 cc)) hc2 (by decide) (by decide))
        obtain ⟨x0, x1, _, _, x4⟩ := box_cells P2.out.2.1
        have BW2 : Hid (Below w.heap.size w w2) := (BB.out.trans (HBA.out.mono hzr)).trans (hc2.below HLT.out.1 HLT.out.2.2.1 (by simp; omega))
        clear hd2 hc2 e0 e1 e2
        go_wp2_with fail
        refine (rsDo_any _ _ _ _ _ _ _ _ _ P2.out.2.2 PP.out.roll hml b2 b3 b4 b5).mono ?_
        rintro e w3 ⟨A4, m4, c4, rfl, ho3, hb3⟩
        have B3 := own_below P2.out.2.1 hb3
        have HB3X := Lib.hid B3
        have HBB3 := Lib.hid hb3
        obtain ⟨u0, u1, u2, u3, u4⟩ := box_cells B3
        have RL := Lib.hid (roll_do (k := kd) (id := id) (c := cc) PP.out.roll)
        have LN := Lib.hid (do_len (k := kd) (id := id) (c := cc) PP.out.roll)
        have NX := Lib.hid (pair_next (P2.out.1.below hb3) B3 ho3 RL.out)
        have BW3 : Hid (Below w.heap.size w w3) := BW2.out.trans (hb3.mono BW2.out.size)
        clear x0 x1 x4 y0 y1 y2 B3 hb3 ho3
        go_wp2_with fail
        go_roundw
        case rel => exact ⟨k + 1, doW l L kd id cc, A4, m4, c4, by omega, by go_num, by have := LN.out; have := HLK.out; omega, NX.out.1, BW3.out.trans NX.out.2⟩
        case measure => simp [intOf]; omega
      · have P0 := Lib.hid hp
        have B0 := Lib.hid hb
        have HLK1 : Hid (L.length ≤ 60) := by show _ ≤ _; omega
        have hz0 := hb.size
        have M0 := Lib.hid (nodes_cells (ownNd_nodes hp.own)).1
        clear hp hb hLk
        go_wp2_with fail
        refine (dsClone_any _ P0.out.ds (by omega)).mono ?_
        rintro e w5 ⟨g2, h2, rfl, d5, b5⟩
        have P5 := Lib.hid (P0.out.below b5)
        have D5 : Hid (DsA w5 w.heap.size g2 h2 l L) := d5.low hz0
        have LT5 := Lib.hid d5.lt
        have LT0 := Lib.hid P0.out.ds.lt
        have B5 : Hid (Below w.heap.size w w5) := B0.out.trans (b5.mono hz0)
        have hz5 := b5.size
        obtain ⟨x0, x1, _, _, x4⟩ := box_cells P5.out.box
        clear d5 b5
        go_wp2_with fail
        refine (like_any _ _ _ _ D5.out (ownNd_nodes P5.out.own) P5.out.roll (by omega)).mono ?_
        rintro e w6 ⟨rfl, b6⟩
        have P6 := Lib.hid (P5.out.below b6)
        have D6 : Hid (DsA w6 w.heap.size g2 h2 l L) := D5.out.below b6
        have hz6 := b6.size
        have B6 : Hid (Below w.heap.size w w6) := B5.out.trans (b6.mono B5.out.size)
        have hq6 : w1.heap.size < w6.heap.size := by omega
        have G1 : Hid (g ≠ g2) := by have := LT5.out; have := LT0.out; show _ ≠ _; omega
        have G2 : Hid (h ≠ h2) := by have := LT5.out; have := LT0.out; show _ ≠ _; omega
        have G3 : Hid (w.heap.size ≤ g2 ∧ w.heap.size ≤ h2) := by have := LT5.out; exact ⟨by omega, by omega⟩
        have b7 : Below w6.heap.size w6 (w6.alloc (.cells #[.int .i64 l, .slice A m c] 30)) := (Below.refl _ _).alloc (Nat.le_refl _) _
        have Q7 : Hid (Pair w.heap.size (w6.alloc (.cells #[.int .i64 l, .slice A m c] 30)) g2 h2 w6.heap.size l (.slice A m c) L) := ⟨D6.out.below b7, own_low (duo_new ..) B6.out.size, own_below P6.out.own b7, P6.out.roll⟩
        have P7 := Lib.hid (P6.out.below b7)
        have B7 : Hid (Below w.heap.size w (w6.alloc (.cells #[.int .i64 l, .slice A m c] 30))) := B6.out.alloc B6.out.size _
        obtain ⟨x0, x1, _, _, x4⟩ := box_cells P6.out.box
        clear b6 b7
        obtain ⟨L0, hL0⟩ : ∃ x, x = L := ⟨_, rfl⟩
        obtain ⟨A0, hA0⟩ : ∃ x, x = A := ⟨_, rfl⟩
        obtain ⟨m0, hm0⟩ : ∃ x, x = m := ⟨_, rfl⟩
        obtain ⟨c0, hc0⟩ : ∃ x, x = c := ⟨_, rfl⟩
        subst hL0 hA0 hm0 hc0
        go_wp2_with fail
        clear x0 x1 x4
        go_loopw [84] (fun i wr => ∃ (k : Nat) (L : List Nd) (A : Option Addr) (m c : Nat), k ≤ n2 ∧ i = .int .i64 k ∧ L.length ≤ 60 + k ∧ Pair w.heap.size wr g h w1.heap.size l (.slice A m c) L ∧ Pair w.heap.size wr g2 h2 w6.heap.size l (.slice A0 m0 c0) L0 ∧ Below w.heap.size w wr) (fun i _ => n2 - (intOf i).toNat)
        case atStart => exact ⟨0, L0, A0, m0, c0, by omega, rfl, HLK1.out, P7.out, Q7.out, B7.out⟩
        case round =>
          rename_i wr
          obtain ⟨k, L, A, m, c, hk, rfl, hLk, hp, hp2, hb⟩ := hrel
          have QQ := Lib.hid hp2
          clear hp2
          by_cases hlt2 : k < n2
          · obtain ⟨b, o, rfl, hin⟩ := HA2.out (by have := HL2.out; omega)
            have hk2 : k < O2.length := by have := HL2.out; omega
            obtain ⟨e0, e1, e2⟩ := (hin.below hb hin.1).2 k hk2
            have hbd := obds_at HB2.out hk2
            obtain ⟨_, ⟨b2, b3⟩, b4, b5⟩ := hbd
            have hbl := hin.1
            have PP := Lib.hid hp
            have BB := Lib.hid hb
            have HLK := Lib.hid hLk
            have hml : m ≤ 400000 := by have := (nodes_cells (ownNd_nodes hp.own)).1; omega
            have hzr := hb.size
            clear hin hb hp hLk
            generalize O2.getD k plz = r at *
            obtain ⟨⟨kd, id⟩, cc⟩ := r
            simp only at e0 e1 e2 b2 b3 b4 b5
            have HBA := Lib.hid (call_box wr 32 (.int .i64 kd) (.int .i64 id) (.int .i64 cc))
            have PA := Lib.hid (PP.out.below HBA.out)
            go_wp2_with fail
            refine (do_any _ _ _ _ PA.out.ds PP.out.roll (by omega) b2 b3 b4 b5).mono ?_
            rintro e w2 ⟨rfl, hd2, hc2⟩
            have HC2 := Lib.hid hc2
            have P2 := Lib.hid (pair_do PA.out hd2 hc2)
            have z2 := hc2.size
            simp at z2
            obtain ⟨y0, y1, y2⟩ := tri_cells (PA.out.ds.other (tri_new wr 32 (.int .i64 kd) (.int .i64 id) (.int .i64 cc)) hc2 (by decide) (by decide))
            obtain ⟨x0, x1, _, _, x4⟩ := box_cells P2.out.2.1
            have BW2 : Hid (Below w.heap.size w w2) := (BB.out.trans (HBA.out.mono hzr)).trans (hc2.below HLT.out.1 HLT.out.2.2.1 (by simp; omega))
            clear hd2 hc2 e0 e1 e2
            go_wp2_with fail
            refine (rsDo_any _ _ _ _ _ _ _ _ _ P2.out.2.2 PP.out.roll hml b2 b3 b4 b5).mono ?_
            rintro e w3 ⟨A4, m4, c4, rfl, ho3, hb3⟩
            have B3 := own_below P2.out.2.1 hb3
            obtain ⟨u0, u1, u2, u3, u4⟩ := box_cells B3
            have RL := Lib.hid (roll_do (k := kd) (id := id) (c := cc) PP.out.roll)
            have LN := Lib.hid (do_len (k := kd) (id := id) (c := cc) PP.out.roll)
            have NX := Lib.hid (pair_next (P2.out.1.below hb3) B3 ho3 RL.out)
            have BW3 : Hid (Below w.heap.size w w3) := BW2.out.trans (hb3.mono BW2.out.size)
            have QX := Lib.hid (pair_other (v' := .slice A4 m4 c4) QQ.out HBA.out PA.out.ds HC2.out hb3 B3 (fun e => G1.out e.symm) (fun e => G2.out e.symm) (by omega))
            clear x0 x1 x4 y0 y1 y2 B3 hb3 ho3
            go_wp2_with fail
            go_roundw
            case rel => exact ⟨k + 1, doW l L kd id cc, A4, m4, c4, by omega, by go_num, by have := LN.out; have := HLK.out; omega, NX.out.1, QX.out, BW3.out.trans NX.out.2⟩
            case measure => simp [intOf]; omega
          · have P8 := Lib.hid hp
            have B8 := Lib.hid hb
            clear hp hb hLk
            obtain ⟨L5, hL5⟩ : ∃ x, x = L := ⟨_, rfl⟩
            obtain ⟨A5, hA5⟩ : ∃ x, x = A := ⟨_, rfl⟩
            obtain ⟨m5, hm5⟩ : ∃ x, x = m := ⟨_, rfl⟩
            obtain ⟨c5, hc5⟩ : ∃ x, x = c := ⟨_, rfl⟩
            subst hL5 hA5 hm5 hc5
            go_wp2_with fail
            go_loopw [100] (fun i wr => ∃ (k : Nat) (L : List Nd) (A : Option Addr) (m c : Nat), k ≤ n3 ∧ i = .int .i64 k ∧ L.length ≤ 60 + k ∧ Pair w.heap.size wr g2 h2 w6.heap.size l (.slice A m c) L ∧ Pair w.heap.size wr g h w1.heap.size l (.slice A5 m5 c5) L5 ∧ Below w.heap.size w wr) (fun i _ => n3 - (intOf i).toNat)
            case atStart => exact ⟨0, L0, A0, m0, c0, by omega, rfl, HLK1.out, QQ.out, P8.out, B8.out⟩
            case round =>
              rename_i wr
              obtain ⟨k, L, A, m, c, hk, rfl, hLk, hp, hp2, hb⟩ := hrel
              clear QQ
              have QQ := Lib.hid hp2
              clear hp2
              by_cases hlt3 : k < n3
              · obtain ⟨b, o, rfl, hin⟩ := HA3.out (by have := HL3.out; omega)
                have hk2 : k < O3.length := by have := HL3.out; omega
                obtain ⟨e0, e1, e2⟩ := (hin.below hb hin.1).2 k hk2
                have hbd := obds_at HB3.out hk2
                obtain ⟨_, ⟨b2, b3⟩, b4, b5⟩ := hbd
                have hbl := hin.1
                have PP := Lib.hid hp
                have BB := Lib.hid hb
                have HLK := Lib.hid hLk
                have hml : m ≤ 400000 := by have := (nodes_cells (ownNd_nodes hp.own)).1; omega
                have hzr := hb.size
                clear hin hb hp hLk
                generalize O3.getD k plz = r at *
                obtain ⟨⟨kd, id⟩, cc⟩ := r
                simp only at e0 e1 e2 b2 b3 b4 b5
                have HBA := Lib.hid (call_box wr 32 (.int .i64 kd) (.int .i64 id) (.int .i64 cc))
                have PA := Lib.hid (PP.out.below HBA.out)
                go_wp2_with fail
                refine (do_any _ _ _ _ PA.out.ds PP.out.roll (by omega) b2 b3 b4 b5).mono ?_
                rintro e w2 ⟨rfl, hd2, hc2⟩
                have HC2 := Lib.hid hc2
                have P2 := Lib.hid (pair_do PA.out hd2 hc2)
                have z2 := hc2.size
                simp at z2
                obtain ⟨y0, y1, y2⟩ := tri_cells (PA.out.ds.other (tri_new wr 32 (.int .i64 kd) (.int .i64 id) (.int .i64 cc)) hc2 (by decide) (by decide))
                obtain ⟨x0, x1, _, _, x4⟩ := box_cells P2.out.2.1
                have BW2 : Hid (Below w.heap.size w w2) := (BB.out.trans (HBA.out.mono hzr)).trans (hc2.below G3.out.1 G3.out.2 (by simp; omega))
                clear hd2 hc2 e0 e1 e2
                go_wp2_with fail
                refine (rsDo_any _ _ _ _ _ _ _ _ _ P2.out.2.2 PP.out.roll hml b2 b3 b4 b5).mono ?_
                rintro e w3 ⟨A4, m4, c4, rfl, ho3, hb3⟩
                have B3 := own_below P2.out.2.1 hb3
                obtain ⟨u0, u1, u2, u3, u4⟩ := box_cells B3
                have RL := Lib.hid (roll_do (k := kd) (id := id) (c := cc) PP.out.roll)
                have LN := Lib.hid (do_len (k := kd) (id := id) (c := cc) PP.out.roll)
                have NX := Lib.hid (pair_next (P2.out.1.below hb3) B3 ho3 RL.out)
                have BW3 : Hid (Below w.heap.size w w3) := BW2.out.trans (hb3.mono BW2.out.size)
                have QX := Lib.hid (pair_other (v' := .slice A4 m4 c4) QQ.out HBA.out PA.out.ds HC2.out hb3 B3 G1.out G2.out (by omega))
                clear x0 x1 x4 y0 y1 y2 B3 hb3 ho3
                go_wp2_with fail
                go_roundw
                case rel => exact ⟨k + 1, doW l L kd id cc, A4, m4, c4, by omega, by go_num, by have := LN.out; have := HLK.out; omega, NX.out.1, QX.out, BW3.out.trans NX.out.2⟩
                case measure => simp [intOf]; omega
              · have P9 := Lib.hid hp
                have B9 := Lib.hid hb
                obtain ⟨x0, x1, _, _, x4⟩ := box_cells QQ.out.box
                clear hp hb hLk
                go_wp2_with fail
                refine (like_any _ _ _ _ QQ.out.ds (ownNd_nodes QQ.out.own) QQ.out.roll (by omega)).mono ?_
                rintro e w8 ⟨rfl, b8⟩
                have P10 := Lib.hid (P9.out.below b8)
                have B10 : Hid (Below w.heap.size w w8) := B9.out.trans (b8.mono B9.out.size)
                clear b8 x0 x1 x4
                obtain ⟨x0, x1, _, _, x4⟩ := box_cells P10.out.box
                go_wp2_with fail
                refine (like_any _ _ _ _ P10.out.ds (ownNd_nodes P10.out.own) P10.out.roll (by omega)).mono ?_
                rintro e w9 ⟨rfl, b9⟩
                have B11 : Hid (Below w.heap.size w w9) := B10.out.trans (b9.mono B10.out.size)
                clear b9 x0 x1 x4
                go_wp2_with (go_at_call 6; refine (dsAlive_any _).mono ?_; rintro e w10 ⟨rfl, b10⟩)
                go_ret
                exact ⟨rfl, B11.out.trans (b10.mono B11.out.size)⟩

end Go.Proofs.Ytafkkhjhdfmhpaa
