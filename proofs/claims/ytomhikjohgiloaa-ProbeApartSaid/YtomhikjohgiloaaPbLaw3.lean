/- The walk of the statement ProbeApart of layer probe: for every input it returns true, and nothing that was there before is changed. -/
import Derived.Test.YtomhikjohgiloaaPbLaw2
namespace Go.Proofs.Ytomhikjohgiloaa
set_option linter.unusedVariables false
set_option maxRecDepth 100000
open Go.RowKit

theorem szc_b3 {n b : Nat} {L : List Nd} (h : SzC n b L) (hn : n ≤ 120) : b ≤ 8 ∧ L.length ≤ 120 := by
  refine ⟨?_, by have := h.1; omega⟩
  have h2 := h.2
  rcases Nat.lt_or_ge 8 b with q | q
  · exfalso
    have := Nat.pow_le_pow_right (show 0 < 2 by omega) (show 9 ≤ b from q)
    have e : 2 ^ 9 = 512 := by decide
    omega
  · exact q
theorem SzC.mono {n m b : Nat} {L : List Nd} (h : SzC n b L) (hm : n ≤ m) : SzC m b L := ⟨by have := h.1; omega, by have := h.2; omega⟩
/-- a table, and a box that holds its list -/
structure PPair (B : Nat) (w : World) (g h q : Nat) (l : Int) (v : Value) (n b : Nat) (S L : List Nd) : Prop where
  ds : PbA w B g h l (L.length : Int) (sumC L) b S
  tb : Tb l b S L
  sz : SzC n b L
  box : w.ownsRow B 48 2 (.slice (some ⟨q, 0, none⟩) 1 1) 1 [.int .i64 l, v]
  own : OwnNd 42 w 0 v L
  ne : v.ownBlock ≠ some h
section
variable {B : Nat} {w w' : World} {g h q : Nat} {l : Int} {v : Value} {n b : Nat} {S L : List Nd}
theorem PPair.below (p : PPair B w g h q l v n b S L) (hb : Below w.heap.size w w') : PPair B w' g h q l v n b S L :=
  ⟨Ps.below p.ds hb, p.tb, p.sz, own_below p.box hb, own_below p.own hb, p.ne⟩
theorem PPair.mono {m : Nat} (p : PPair B w g h q l v n b S L) (hm : n ≤ m) : PPair B w g h q l v m b S L := ⟨p.ds, p.tb, p.sz.mono hm, p.box, p.own, p.ne⟩
/-- another table is written: this one is kept -/
theorem PPair.chg {g2 h2 : Nat} {l2 n2 t2 : Int} {b2 : Nat} {S2 : List Nd} (p : PPair B w g h q l v n b S L) (d : PbA w B g2 h2 l2 n2 t2 b2 S2) (c : Chg g2 h2 w w') (a1 : g ≠ g2) (a2 : h ≠ h2) (a3 : v.ownBlock ≠ some h2) : PPair B w' g h q l v n b S L :=
  ⟨Ps.chg p.ds c a1 (fun e => by
      rcases own_apart p.ds.top d.row (by decide) with h | h
      · simp [Value.ownBlock] at h
      · exact h (by simp [Value.ownBlock, e])) (fun e => by
      rcases own_apart p.ds.row d.top (by decide) with h | h
      · simp [Value.ownBlock] at h
      · exact h (by simp [Value.ownBlock, e])) a2, p.tb, p.sz, d.other p.box c (by decide) (by decide), d.nodes p.own c (by decide) a3, p.ne⟩
/-- another box is written: this one is kept -/
theorem PPair.boxed {q2 : Nat} (p : PPair B w g h q l v n b S L)
    (k : ∀ (base : Nat) (e : TypeId) (size n : Nat) (v : Value) (ys : List Value), v.ownBlock ≠ some q2 → w.ownsRow base e size v n ys → w'.ownsRow base e size v n ys)
    (k2 : ∀ (base : Nat) (e : TypeId) (size n : Nat) (v : Value) (ys : List Value), e ≠ 48 → w.ownsRow base e size v n ys → w'.ownsRow base e size v n ys) (hq : q ≠ q2) : PPair B w' g h q l v n b S L :=
  ⟨ps_box p.ds k2 (by decide) (by decide), p.tb, p.sz, k _ _ _ _ _ _ (by simpa [Value.ownBlock] using hq) p.box, k2 _ _ _ _ _ _ (by decide) p.own, p.ne⟩
end
section
variable {B : Nat} {w w' w3 wr wa w2 : World} {g h h' q : Nat} {l : Int} {v v' : Value} {n b b' : Nat} {S L S' M : List Nd}
/-- behind the table's own call: its list is as it was -/
theorem ppair_do (p : PPair B w g h q l v n b S L) (c : Chg g h w w') (hh : h' = h ∨ w.heap.size ≤ h') : w'.ownsRow B 48 2 (.slice (some ⟨q, 0, none⟩) 1 1) 1 [.int .i64 l, v] ∧ OwnNd 42 w' 0 v L ∧ v.ownBlock ≠ some h' :=
  ⟨p.ds.other p.box c (by decide) (by decide), p.ds.nodes p.own c (by decide) p.ne, own_new p.own p.ne hh⟩
/-- behind a round: the table, its list's box stored anew -/
theorem ppair_next (d : PbA w3 B g h l (M.length : Int) (sumC M) b S) (tb : Tb l b S M) (sz : SzC n b M) (r : w3.ownsRow B 48 2 (.slice (some ⟨q, 0, none⟩) 1 1) 1 [.int .i64 l, v]) (o : OwnNd 42 w3 0 v' M) (ne : v'.ownBlock ≠ some h) :
    PPair B ((w3.setCell ⟨q, 0, none⟩ (.int .i64 l)).setCell ⟨q, 1, none⟩ v') g h q l v' n b S M ∧ Below B w3 ((w3.setCell ⟨q, 0, none⟩ (.int .i64 l)).setCell ⟨q, 1, none⟩ v') := by
  have X := box_set r (.int .i64 l) v'
  exact ⟨⟨ps_box d X.2.1 (by decide) (by decide), tb, sz, X.1, X.2.1 _ _ _ _ _ _ (by decide) o, ne⟩, X.2.2.1⟩
/-- what lies apart: the one's slots and list from the other's -/
structure Crs (h : Nat) (v : Value) (h2 : Nat) (v2 : Value) : Prop where
  hh : h ≠ h2
  vh : v.ownBlock ≠ some h2
  hv : v2.ownBlock ≠ some h
/-- behind a round: the other table and its list -/
theorem ppair_other {g2 h2 q2 : Nat} {v2 : Value} {n2 b2 : Nat} {S2 L2 : List Nd} {nn tt : Int} (p : PPair B wr g2 h2 q2 l v2 n2 b2 S2 L2) (hba : Below wr.heap.size wr wa) (da : PbA wa B g h l nn tt b S) (c : Chg g h wa w2) (hb3 : Below w2.heap.size w2 w3)
    (r : w3.ownsRow B 48 2 (.slice (some ⟨q, 0, none⟩) 1 1) 1 [.int .i64 l, v]) (a1 : g2 ≠ g) (a3 : q2 ≠ q) (hh : h' = h ∨ wa.heap.size ≤ h') (X : Crs h v h2 v2) (nb : NewB v v' w2.heap.size) :
    PPair B ((w3.setCell ⟨q, 0, none⟩ (.int .i64 l)).setCell ⟨q, 1, none⟩ v') g2 h2 q2 l v2 n2 b2 S2 L2 ∧ Crs h' v' h2 v2 := by
  have Y := box_set r (.int .i64 l) v'
  have pa := p.below hba
  have p2 := pa.chg da c a1 (fun e => X.hh e.symm) X.hv
  have hz := c.size
  have hl := (Ps.lt pa.ds).2.2.2
  refine ⟨(p2.below hb3).boxed Y.2.2.2 Y.2.1 a3, ?_, newB_ne nb X.vh (by omega), own_new pa.own X.hv hh⟩
  rcases hh with e | e
  · rw [e]; exact X.hh
  · omega
end
set_option maxHeartbeats 6400000 in
theorem walk_probeApart (l : Int) (A1 : Option Addr) (n1 c1 : Nat) (O1 : List Pl) (A2 : Option Addr) (n2 c2 : Nat) (O2 : List Pl) (A3 : Option Addr) (n3 c3 : Nat) (O3 : List Pl) (L0 : -9223372036854775808 ≤ l) (L1 : l ≤ 9223372036854775807) (OB1 : OBds O1) (m1 : n1 ≤ 9223372036854775807) (OB2 : OBds O2) (m2 : n2 ≤ 9223372036854775807) (OB3 : OBds O3) (m3 : n3 ≤ 9223372036854775807) (w : World)
    (H1 : PlacedAt w (.slice A1 n1 c1) O1) (H2 : PlacedAt w (.slice A2 n2 c2) O2) (H3 : PlacedAt w (.slice A3 n3 c3) O3) :
    Calls Try.prog 7 #[.int .i64 l, .slice A1 n1 c1, .slice A2 n2 c2, .slice A3 n3 c3] w fun e w' => e = .returned (.bool true) ∧ Below w.heap.size w w' := by
  have HL1 := Lib.hid (placed_cells H1).1
  have HA1 := Lib.hid (placed_cells H1).2.2.2
  have HB1 := Lib.hid OB1
  have HL2 := Lib.hid (placed_cells H2).1
  have HA2 := Lib.hid (placed_cells H2).2.2.2
  have HB2 := Lib.hid OB2
  have HL3 := Lib.hid (placed_cells H3).1
  have HA3 := Lib.hid (placed_cells H3).2.2.2
  have HB3 := Lib.hid OB3
  clear H1 H2 H3 OB1 OB2 OB3
  have hnz : ∀ w, (binOp .neq 42 (.agg #[.int .i64 0, .int .i64 0]) (.agg #[.int .i64 0, .int .i64 0])).run Try.prog w = .ok (.bool false) w := fun w => by rw [run_neq_nodes]; simp
  by_cases hg : l < 1 ∨ 48 < l ∨ 60 < n1 ∨ 60 < n2 ∨ 60 < n3
  · rcases (show l < 1 ∨ (1 ≤ l ∧ 48 < l) ∨ (1 ≤ l ∧ l ≤ 48 ∧ 60 < n1) ∨ (1 ≤ l ∧ l ≤ 48 ∧ n1 ≤ 60 ∧ 60 < n2) ∨ (1 ≤ l ∧ l ≤ 48 ∧ n1 ≤ 60 ∧ n2 ≤ 60 ∧ 60 < n3) by omega) with hr | ⟨hr1, hr⟩ | ⟨hr1, hr2, hr⟩ | ⟨hr1, hr2, hr3, hr⟩ | ⟨hr1, hr2, hr3, hr4, hr⟩
    all_goals
      clear hg
      go_enter Try.func7, Try.ntmps7
      go_wp2_with (first
        | (go_at_call 29; refine (pbL_nil _).mono ?_; rintro e w9 ⟨rfl, rfl⟩)
        | (go_at_call 27; refine (pbLen_nil _).mono ?_; rintro e w9 ⟨rfl, rfl⟩)
        | (go_at_call 30; refine (pbTotal_nil _).mono ?_; rintro e w9 ⟨rfl, rfl⟩)
        | (go_at_call 28; refine (pbGet_nil _ _ L0 L1).mono ?_; rintro e w9 ⟨rfl, rfl⟩)
        | (go_at_call 31; refine (pbAdd_nil _ _ _).mono ?_; rintro e w9 ⟨rfl, rfl⟩)
        | (go_at_call 32; refine (pbTake_nil _ _ L0 L1).mono ?_; rintro e w9 ⟨rfl, rfl⟩)
        | (go_at_call 33; refine (pbSnap_nil _).mono ?_; rintro e w9 ⟨rfl, rfl⟩)
        | (go_at_call 34; refine (pbClone_nil _).mono ?_; rintro e w9 ⟨rfl, rfl⟩)
        | (go_at_call 21; refine (pbSize_nil _).mono ?_; rintro e w9 ⟨rfl, rfl⟩)
        | (go_at_call 22; refine (pbSlot_nil _ _).mono ?_; rintro e w0 ⟨rfl, hb0⟩)
        | (go_at_call 23; refine (pbWalk_nil _ _ (by omega) (by omega)).mono ?_; rintro e w9 ⟨rfl, rfl⟩)
        | (go_at_call 16; refine (pbAlive_any _).mono ?_; rintro e w1 ⟨rfl, hb1⟩))
      go_ret
      exact ⟨rfl, hb0.trans (hb1.mono hb0.size)⟩
  · have hl1 : 1 ≤ l := by omega
    have hl2 : l ≤ 48 := by omega
    have hm1 : n1 ≤ 60 := by omega
    have hm2 : n2 ≤ 60 := by omega
    have hm3 : n3 ≤ 60 := by omega
    have T0 := Lib.hid (tb_new (uni_yes (l := l) ⟨hl1, hl2⟩))
    clear hg
    go_enter Try.func7, Try.ntmps7
    go_wp2_with (first
        | (go_at_call 29; refine (pbL_nil _).mono ?_; rintro e w9 ⟨rfl, rfl⟩)
        | (go_at_call 27; refine (pbLen_nil _).mono ?_; rintro e w9 ⟨rfl, rfl⟩)
        | (go_at_call 30; refine (pbTotal_nil _).mono ?_; rintro e w9 ⟨rfl, rfl⟩)
        | (go_at_call 28; refine (pbGet_nil _ _ L0 L1).mono ?_; rintro e w9 ⟨rfl, rfl⟩)
        | (go_at_call 31; refine (pbAdd_nil _ _ _).mono ?_; rintro e w9 ⟨rfl, rfl⟩)
        | (go_at_call 32; refine (pbTake_nil _ _ L0 L1).mono ?_; rintro e w9 ⟨rfl, rfl⟩)
        | (go_at_call 33; refine (pbSnap_nil _).mono ?_; rintro e w9 ⟨rfl, rfl⟩)
        | (go_at_call 34; refine (pbClone_nil _).mono ?_; rintro e w9 ⟨rfl, rfl⟩)
        | (go_at_call 21; refine (pbSize_nil _).mono ?_; rintro e w9 ⟨rfl, rfl⟩)
        | (go_at_call 22; refine (pbSlot_nil _ _).mono ?_; rintro e w0 ⟨rfl, hb0⟩)
        | (go_at_call 23; refine (pbWalk_nil _ _ (by omega) (by omega)).mono ?_; rintro e w9 ⟨rfl, rfl⟩))
    refine (pbNew_any l _ hl1 hl2).mono ?_
    rintro e w1 ⟨g, h, rfl, d1, b1⟩
    have hz0 := hb0.size
    have D1 : Hid (PbA w1 w.heap.size g h l (([] : List Nd).length : Int) (sumC []) 3 (List.replicate 8 nz)) := Ps.low d1 hz0
    have HLT := Lib.hid (Ps.lt D1.out)
    have B1 : Hid (Below w.heap.size w w1) := hb0.trans (b1.mono hz0)
    have hz1 := B1.out.size
    clear d1 b1 hb0 hnz
    go_wp2_with fail
    go_loopw [116] (fun i wr => ∃ (k : Nat) (L : List Nd) (b : Nat) (S : List Nd) (h : Nat) (A : Option Addr) (m c : Nat), k ≤ n1 ∧ i = .int .i64 k ∧ PPair w.heap.size wr g h w1.heap.size l (.slice A m c) k b S L ∧ Below w.heap.size w wr) (fun i _ => n1 - (intOf i).toNat)
    case atStart => exact ⟨0, [], 3, _, h, none, 0, 0, by omega, rfl, ⟨Ps.below D1.out ((Below.refl _ _).alloc (Nat.le_refl _) _), T0.out, szc_new, own_low (duo_new ..) (by omega), ownNd_nil .., by simp [Value.ownBlock]⟩, B1.out.alloc (by omega) _⟩
    case round =>
      rename_i wr
      obtain ⟨k, L, b, S, h, A, m, c, hk, rfl, hp, hb⟩ := hrel
      by_cases hlt : k < n1
      · obtain ⟨bk, o, rfl, hin⟩ := HA1.out (by have := HL1.out; omega)
        have hk2 : k < O1.length := by have := HL1.out; omega
        obtain ⟨e0, e1, e2⟩ := (hin.below hb hin.1).2 k hk2
        have hbd := obds_at HB1.out hk2
        obtain ⟨_, ⟨b2, b3⟩, b4, b5⟩ := hbd
        have hbl := hin.1
        have PP := Lib.hid hp
        have BB := Lib.hid hb
        obtain ⟨hbb, hLk⟩ := szc_b3 hp.sz (by omega)
        have hml : m ≤ 400000 := by have := (nodes_cells (ownNd_nodes hp.own)).1; omega
        have hzr := hb.size
        clear hin hb hp
        generalize O1.getD k plz = r at *
        obtain ⟨⟨kd, id⟩, cc⟩ := r
        simp only at e0 e1 e2 b2 b3 b4 b5
        have HBA := Lib.hid (call_box wr 36 (.int .i64 kd) (.int .i64 id) (.int .i64 cc))
        have PA := Lib.hid (PP.out.below HBA.out)
        go_wp2_with fail
        refine (pdo_any _ _ _ _ PA.out.ds PP.out.tb (by omega) b2 b3 b4 b5).mono ?_
        rintro e w2 ⟨rfl, h', hd2, hc2, hh2⟩
        have HC2 := Lib.hid hc2
        have HH2 := Lib.hid hh2
        have P2 := Lib.hid (ppair_do PA.out hc2 hh2)
        have z2 := hc2.size
        simp at z2
        obtain ⟨y0, y1, y2⟩ := tri_cells (PA.out.ds.other (tri_new wr 36 (.int .i64 kd) (.int .i64 id) (.int .i64 cc)) hc2 (by decide) (by decide))
        obtain ⟨x0, x1, _, _, x4⟩ := box_cells P2.out.1
        have BW2 : Hid (Below w.heap.size w w2) := (BB.out.trans (HBA.out.mono hzr)).trans (hc2.below (Ps.lt PP.out.ds).1 (Ps.lt PP.out.ds).2.2.1 (by simp; omega))
        have TT4 := Lib.hid (PP.out.tb.doC (show b ≤ 61 by omega) kd id cc)
        have SZ4 := Lib.hid (szc_do PP.out.tb PP.out.sz kd id cc)
        obtain ⟨b', hb'⟩ : ∃ x, x = doB l b S L kd id cc := ⟨_, rfl⟩
        obtain ⟨S', hS'⟩ : ∃ x, x = doS l b S L kd id cc := ⟨_, rfl⟩
        obtain ⟨L', hL'⟩ : ∃ x, x = doW l L kd id cc := ⟨_, rfl⟩
        have HL' := Lib.hid hL'
        rw [← hb', ← hL'] at SZ4
        rw [← hb', ← hS', ← hL'] at TT4 hd2
        have HD2 : Hid (PbA w2 w.heap.size g h' l (L'.length : Int) (sumC L') b' S') := hd2
        have hhz : h' < w2.heap.size := (Ps.lt hd2).2.2.2
        clear hb' hS' hL' hd2 hc2 hh2 e0 e1 e2
        go_wp2_with fail
        refine (rsDo_any _ _ _ _ _ _ _ _ _ P2.out.2.1 PP.out.tb.roll hml b2 b3 b4 b5).mono ?_
        rintro e w3 ⟨A4, m4, c4, rfl, ho3, hb3, hnb⟩
        rw [← HL'.out] at ho3
        have B3 := own_below P2.out.1 hb3
        obtain ⟨u0, u1, u2, u3, u4⟩ := box_cells B3
        have NX := Lib.hid (ppair_next (Ps.below HD2.out hb3) TT4.out SZ4.out B3 ho3 (newB_ne hnb P2.out.2.2 hhz))
        have BW3 : Hid (Below w.heap.size w w3) := BW2.out.trans (hb3.mono BW2.out.size)
        clear x0 x1 x4 y0 y1 y2 B3 hb3 ho3 hnb
        go_wp2_with fail
        go_roundw
        case rel => exact ⟨k + 1, L', b', S', h', A4, m4, c4, by omega, by go_num, NX.out.1, BW3.out.trans NX.out.2⟩
        case measure => simp [intOf]; omega
      · have P0 := Lib.hid (hp.mono (show k ≤ 60 by omega))
        have B0 := Lib.hid hb
        obtain ⟨hbb, hLk⟩ := szc_b3 hp.sz (by omega)
        have hz0 := hb.size
        have M0 := Lib.hid (nodes_cells (ownNd_nodes hp.own)).1
        clear hp hb
        go_wp2_with fail
        refine (pbClone_any _ P0.out.ds (by omega)).mono ?_
        rintro e w5 ⟨g2, h2, rfl, d5, b5⟩
        have P5 := Lib.hid (P0.out.below b5)
        have D5 : Hid (PbA w5 w.heap.size g2 h2 l (L.length : Int) (sumC L) b S) := Ps.low d5 hz0
        have LT5 := Lib.hid (Ps.lt d5)
        have LT0 := Lib.hid (Ps.lt P0.out.ds)
        have B5 : Hid (Below w.heap.size w w5) := B0.out.trans (b5.mono hz0)
        have NE5 : Hid ((Value.slice A m c).ownBlock ≠ some h2) := by
          intro e
          have q1 := (World.ownsRow.lt P0.out.own h2 e).2
          have q2 := LT5.out
          omega
        have hz5 := b5.size
        obtain ⟨x0, x1, _, _, x4⟩ := box_cells P5.out.box
        clear d5 b5
        go_wp2_with fail
        refine (plike_any _ _ _ _ D5.out P5.out.tb (by omega) (by omega) (ownNd_nodes P5.out.own)).mono ?_
        rintro e w6 ⟨rfl, b6⟩
        have P6 := Lib.hid (P5.out.below b6)
        have D6 : Hid (PbA w6 w.heap.size g2 h2 l (L.length : Int) (sumC L) b S) := Ps.below D5.out b6
        have hz6 := b6.size
        have B6 : Hid (Below w.heap.size w w6) := B5.out.trans (b6.mono B5.out.size)
        have hq6 : w1.heap.size < w6.heap.size := by omega
        have G1 : Hid (g ≠ g2) := by have := LT5.out; have := LT0.out; show _ ≠ _; omega
        have X6 : Hid (Crs h (.slice A m c) h2 (.slice A m c)) := ⟨by have := LT5.out; have := LT0.out; omega, NE5.out, P6.out.ne⟩
        have b7 : Below w6.heap.size w6 (w6.alloc (.cells #[.int .i64 l, .slice A m c] 48)) := (Below.refl _ _).alloc (Nat.le_refl _) _
        have Q7 : Hid (PPair w.heap.size (w6.alloc (.cells #[.int .i64 l, .slice A m c] 48)) g2 h2 w6.heap.size l (.slice A m c) 60 b S L) := ⟨Ps.below D6.out b7, P6.out.tb, P6.out.sz, own_low (duo_new ..) B6.out.size, own_below P6.out.own b7, NE5.out⟩
        have P7 := Lib.hid (P6.out.below b7)
        have B7 : Hid (Below w.heap.size w (w6.alloc (.cells #[.int .i64 l, .slice A m c] 48))) := B6.out.alloc B6.out.size _
        obtain ⟨x0, x1, _, _, x4⟩ := box_cells P6.out.box
        have GB : Hid (w.heap.size ≤ g ∧ w.heap.size ≤ g2) := by have := Ps.lt P6.out.ds; have := Ps.lt D6.out; exact ⟨by omega, by omega⟩
        clear b6 b7 hbb hLk
        obtain ⟨L0, hL0⟩ : ∃ x, x = L := ⟨_, rfl⟩
        obtain ⟨S0, hS0⟩ : ∃ x, x = S := ⟨_, rfl⟩
        obtain ⟨bq0, hbq0⟩ : ∃ x, x = b := ⟨_, rfl⟩
        obtain ⟨A0, hA0⟩ : ∃ x, x = A := ⟨_, rfl⟩
        obtain ⟨m0, hm0⟩ : ∃ x, x = m := ⟨_, rfl⟩
        obtain ⟨c0, hc0⟩ : ∃ x, x = c := ⟨_, rfl⟩
        subst hL0 hS0 hbq0 hA0 hm0 hc0
        go_wp2_with fail
        clear x0 x1 x4
        go_loopw [143] (fun i wr => ∃ (k : Nat) (L : List Nd) (b : Nat) (S : List Nd) (h : Nat) (A : Option Addr) (m c : Nat), k ≤ n2 ∧ i = .int .i64 k ∧ PPair w.heap.size wr g h w1.heap.size l (.slice A m c) (60 + k) b S L ∧ PPair w.heap.size wr g2 h2 w6.heap.size l (.slice A0 m0 c0) 60 bq0 S0 L0 ∧ Crs h (.slice A m c) h2 (.slice A0 m0 c0) ∧ Below w.heap.size w wr) (fun i _ => n2 - (intOf i).toNat)
        case atStart => exact ⟨0, L0, bq0, S0, h, A0, m0, c0, by omega, rfl, P7.out, Q7.out, X6.out, B7.out⟩
        case round =>
          rename_i wr
          obtain ⟨k, L, b, S, h, A, m, c, hk, rfl, hp, hp2, hx, hb⟩ := hrel
          have QQ := Lib.hid hp2
          have XX := Lib.hid hx
          clear hp2 hx
          by_cases hlt2 : k < n2
          · obtain ⟨bk, o, rfl, hin⟩ := HA2.out (by have := HL2.out; omega)
            have hk2 : k < O2.length := by have := HL2.out; omega
            obtain ⟨e0, e1, e2⟩ := (hin.below hb hin.1).2 k hk2
            have hbd := obds_at HB2.out hk2
            obtain ⟨_, ⟨b2, b3⟩, b4, b5⟩ := hbd
            have hbl := hin.1
            have PP := Lib.hid hp
            have BB := Lib.hid hb
            obtain ⟨hbb, hLk⟩ := szc_b3 hp.sz (by omega)
            have hml : m ≤ 400000 := by have := (nodes_cells (ownNd_nodes hp.own)).1; omega
            have hzr := hb.size
            clear hin hb hp
            generalize O2.getD k plz = r at *
            obtain ⟨⟨kd, id⟩, cc⟩ := r
            simp only at e0 e1 e2 b2 b3 b4 b5
            have HBA := Lib.hid (call_box wr 36 (.int .i64 kd) (.int .i64 id) (.int .i64 cc))
            have PA := Lib.hid (PP.out.below HBA.out)
            go_wp2_with fail
            refine (pdo_any _ _ _ _ PA.out.ds PP.out.tb (by omega) b2 b3 b4 b5).mono ?_
            rintro e w2 ⟨rfl, h', hd2, hc2, hh2⟩
            have HC2 := Lib.hid hc2
            have HH2 := Lib.hid hh2
            have P2 := Lib.hid (ppair_do PA.out hc2 hh2)
            have z2 := hc2.size
            simp at z2
            obtain ⟨y0, y1, y2⟩ := tri_cells (PA.out.ds.other (tri_new wr 36 (.int .i64 kd) (.int .i64 id) (.int .i64 cc)) hc2 (by decide) (by decide))
            obtain ⟨x0, x1, _, _, x4⟩ := box_cells P2.out.1
            have BW2 : Hid (Below w.heap.size w w2) := (BB.out.trans (HBA.out.mono hzr)).trans (hc2.below (Ps.lt PP.out.ds).1 (Ps.lt PP.out.ds).2.2.1 (by simp; omega))
            have TT4 := Lib.hid (PP.out.tb.doC (show b ≤ 61 by omega) kd id cc)
            have SZ4 := Lib.hid (szc_do PP.out.tb PP.out.sz kd id cc)
            obtain ⟨b', hb'⟩ : ∃ x, x = doB l b S L kd id cc := ⟨_, rfl⟩
            obtain ⟨S', hS'⟩ : ∃ x, x = doS l b S L kd id cc := ⟨_, rfl⟩
            obtain ⟨L', hL'⟩ : ∃ x, x = doW l L kd id cc := ⟨_, rfl⟩
            have HL' := Lib.hid hL'
            rw [← hb', ← hL'] at SZ4
            rw [← hb', ← hS', ← hL'] at TT4 hd2
            have HD2 : Hid (PbA w2 w.heap.size g h' l (L'.length : Int) (sumC L') b' S') := hd2
            have hhz : h' < w2.heap.size := (Ps.lt hd2).2.2.2
            clear hb' hS' hL' hd2 hc2 hh2 e0 e1 e2
            go_wp2_with fail
            refine (rsDo_any _ _ _ _ _ _ _ _ _ P2.out.2.1 PP.out.tb.roll hml b2 b3 b4 b5).mono ?_
            rintro e w3 ⟨A4, m4, c4, rfl, ho3, hb3, hnb⟩
            rw [← HL'.out] at ho3
            have B3 := own_below P2.out.1 hb3
            obtain ⟨u0, u1, u2, u3, u4⟩ := box_cells B3
            have NX := Lib.hid (ppair_next (Ps.below HD2.out hb3) TT4.out SZ4.out B3 ho3 (newB_ne hnb P2.out.2.2 hhz))
            have BW3 : Hid (Below w.heap.size w w3) := BW2.out.trans (hb3.mono BW2.out.size)
            have QX := Lib.hid (ppair_other QQ.out HBA.out PA.out.ds HC2.out hb3 B3 (fun e => G1.out e.symm) (by omega) HH2.out XX.out hnb)
            clear x0 x1 x4 y0 y1 y2 B3 hb3 ho3 hnb
            go_wp2_with fail
            go_roundw
            case rel => exact ⟨k + 1, L', b', S', h', A4, m4, c4, by omega, by go_num, NX.out.1, QX.out.1, QX.out.2, BW3.out.trans NX.out.2⟩
            case measure => simp [intOf]; omega
          · have P8 := Lib.hid (hp.mono (show 60 + k ≤ 120 by omega))
            have B8 := Lib.hid hb
            have X8 : Hid (Crs h2 (.slice A0 m0 c0) h (.slice A m c)) := ⟨fun e => XX.out.hh e.symm, XX.out.hv, XX.out.vh⟩
            clear hp hb XX
            obtain ⟨L5, hL5⟩ : ∃ x, x = L := ⟨_, rfl⟩
            obtain ⟨S5, hS5⟩ : ∃ x, x = S := ⟨_, rfl⟩
            obtain ⟨bq5, hbq5⟩ : ∃ x, x = b := ⟨_, rfl⟩
            obtain ⟨h5, hh5⟩ : ∃ x, x = h := ⟨_, rfl⟩
            obtain ⟨A5, hA5⟩ : ∃ x, x = A := ⟨_, rfl⟩
            obtain ⟨m5, hm5⟩ : ∃ x, x = m := ⟨_, rfl⟩
            obtain ⟨c5, hc5⟩ : ∃ x, x = c := ⟨_, rfl⟩
            subst hL5 hS5 hbq5 hh5 hA5 hm5 hc5
            go_wp2_with fail
            go_loopw [159] (fun i wr => ∃ (k : Nat) (L : List Nd) (b : Nat) (S : List Nd) (h : Nat) (A : Option Addr) (m c : Nat), k ≤ n3 ∧ i = .int .i64 k ∧ PPair w.heap.size wr g2 h w6.heap.size l (.slice A m c) (60 + k) b S L ∧ PPair w.heap.size wr g h5 w1.heap.size l (.slice A5 m5 c5) 120 bq5 S5 L5 ∧ Crs h (.slice A m c) h5 (.slice A5 m5 c5) ∧ Below w.heap.size w wr) (fun i _ => n3 - (intOf i).toNat)
            case atStart => exact ⟨0, L0, bq0, S0, h2, A0, m0, c0, by omega, rfl, QQ.out, P8.out, X8.out, B8.out⟩
            case round =>
              rename_i wr
              obtain ⟨k, L, b, S, h, A, m, c, hk, rfl, hp, hp2, hx, hb⟩ := hrel
              clear QQ
              have QQ := Lib.hid hp2
              have XX := Lib.hid hx
              clear hp2 hx
              by_cases hlt3 : k < n3
              · obtain ⟨bk, o, rfl, hin⟩ := HA3.out (by have := HL3.out; omega)
                have hk2 : k < O3.length := by have := HL3.out; omega
                obtain ⟨e0, e1, e2⟩ := (hin.below hb hin.1).2 k hk2
                have hbd := obds_at HB3.out hk2
                obtain ⟨_, ⟨b2, b3⟩, b4, b5⟩ := hbd
                have hbl := hin.1
                have PP := Lib.hid hp
                have BB := Lib.hid hb
                obtain ⟨hbb, hLk⟩ := szc_b3 hp.sz (by omega)
                have hml : m ≤ 400000 := by have := (nodes_cells (ownNd_nodes hp.own)).1; omega
                have hzr := hb.size
                clear hin hb hp
                generalize O3.getD k plz = r at *
                obtain ⟨⟨kd, id⟩, cc⟩ := r
                simp only at e0 e1 e2 b2 b3 b4 b5
                have HBA := Lib.hid (call_box wr 36 (.int .i64 kd) (.int .i64 id) (.int .i64 cc))
                have PA := Lib.hid (PP.out.below HBA.out)
                go_wp2_with fail
                refine (pdo_any _ _ _ _ PA.out.ds PP.out.tb (by omega) b2 b3 b4 b5).mono ?_
                rintro e w2 ⟨rfl, h', hd2, hc2, hh2⟩
                have HC2 := Lib.hid hc2
                have HH2 := Lib.hid hh2
                have P2 := Lib.hid (ppair_do PA.out hc2 hh2)
                have z2 := hc2.size
                simp at z2
                obtain ⟨y0, y1, y2⟩ := tri_cells (PA.out.ds.other (tri_new wr 36 (.int .i64 kd) (.int .i64 id) (.int .i64 cc)) hc2 (by decide) (by decide))
                obtain ⟨x0, x1, _, _, x4⟩ := box_cells P2.out.1
                have BW2 : Hid (Below w.heap.size w w2) := (BB.out.trans (HBA.out.mono hzr)).trans (hc2.below (Ps.lt PP.out.ds).1 (Ps.lt PP.out.ds).2.2.1 (by simp; omega))
                have TT4 := Lib.hid (PP.out.tb.doC (show b ≤ 61 by omega) kd id cc)
                have SZ4 := Lib.hid (szc_do PP.out.tb PP.out.sz kd id cc)
                obtain ⟨b', hb'⟩ : ∃ x, x = doB l b S L kd id cc := ⟨_, rfl⟩
                obtain ⟨S', hS'⟩ : ∃ x, x = doS l b S L kd id cc := ⟨_, rfl⟩
                obtain ⟨L', hL'⟩ : ∃ x, x = doW l L kd id cc := ⟨_, rfl⟩
                have HL' := Lib.hid hL'
                rw [← hb', ← hL'] at SZ4
                rw [← hb', ← hS', ← hL'] at TT4 hd2
                have HD2 : Hid (PbA w2 w.heap.size g2 h' l (L'.length : Int) (sumC L') b' S') := hd2
                have hhz : h' < w2.heap.size := (Ps.lt hd2).2.2.2
                clear hb' hS' hL' hd2 hc2 hh2 e0 e1 e2
                go_wp2_with fail
                refine (rsDo_any _ _ _ _ _ _ _ _ _ P2.out.2.1 PP.out.tb.roll hml b2 b3 b4 b5).mono ?_
                rintro e w3 ⟨A4, m4, c4, rfl, ho3, hb3, hnb⟩
                rw [← HL'.out] at ho3
                have B3 := own_below P2.out.1 hb3
                obtain ⟨u0, u1, u2, u3, u4⟩ := box_cells B3
                have NX := Lib.hid (ppair_next (Ps.below HD2.out hb3) TT4.out SZ4.out B3 ho3 (newB_ne hnb P2.out.2.2 hhz))
                have BW3 : Hid (Below w.heap.size w w3) := BW2.out.trans (hb3.mono BW2.out.size)
                have QX := Lib.hid (ppair_other QQ.out HBA.out PA.out.ds HC2.out hb3 B3 (fun e => G1.out e) (by omega) HH2.out XX.out hnb)
                clear x0 x1 x4 y0 y1 y2 B3 hb3 ho3 hnb
                go_wp2_with fail
                go_roundw
                case rel => exact ⟨k + 1, L', b', S', h', A4, m4, c4, by omega, by go_num, NX.out.1, QX.out.1, QX.out.2, BW3.out.trans NX.out.2⟩
                case measure => simp [intOf]; omega
              · have P9 := Lib.hid (hp.mono (show 60 + k ≤ 120 by omega))
                have B9 := Lib.hid hb
                obtain ⟨x0, x1, _, _, x4⟩ := box_cells QQ.out.box
                have hb5 := szc_b3 QQ.out.sz (by omega)
                have hb9 := szc_b3 P9.out.sz (by omega)
                clear hp hb
                go_wp2_with fail
                refine (plike_any _ _ _ _ QQ.out.ds QQ.out.tb (by omega) (by omega) (ownNd_nodes QQ.out.own)).mono ?_
                rintro e w8 ⟨rfl, b8⟩
                have P10 := Lib.hid (P9.out.below b8)
                have B10 : Hid (Below w.heap.size w w8) := B9.out.trans (b8.mono B9.out.size)
                clear b8 x0 x1 x4
                obtain ⟨x0, x1, _, _, x4⟩ := box_cells P10.out.box
                go_wp2_with fail
                refine (plike_any _ _ _ _ P10.out.ds P10.out.tb (by omega) (by omega) (ownNd_nodes P10.out.own)).mono ?_
                rintro e w9 ⟨rfl, b9⟩
                have B11 : Hid (Below w.heap.size w w9) := B10.out.trans (b9.mono B10.out.size)
                clear b9 x0 x1 x4
                go_wp2_with (go_at_call 16; refine (pbAlive_any _).mono ?_; rintro e w10 ⟨rfl, b10⟩)
                go_ret
                exact ⟨rfl, B11.out.trans (b10.mono B11.out.size)⟩

end Go.Proofs.Ytomhikjohgiloaa
