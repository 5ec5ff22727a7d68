/- The walk of the statement ProbeTables of layer probe: for every input it returns true, and nothing that was there before is changed. -/
import Derived.Test.YtomhikjohgiloaaPbLaw2
namespace Go.Proofs.Ytomhikjohgiloaa
set_option linter.unusedVariables false
set_option maxRecDepth 100000
open Go.RowKit

/-- a box of three cells, stored anew -/
theorem tri_set {TS : TypeId} {w : World} {B q : Nat} {x y z : Value} (r : w.ownsRow B TS 3 (.slice (some ⟨q, 0, none⟩) 1 1) 1 [x, y, z]) (a b c : Value) :
    (((w.setCell ⟨q, 0, none⟩ a).setCell ⟨q, 1, none⟩ b).setCell ⟨q, 2, none⟩ c).ownsRow B TS 3 (.slice (some ⟨q, 0, none⟩) 1 1) 1 [a, b, c] ∧
    (∀ (base : Nat) (e : TypeId) (size n : Nat) (v : Value) (ys : List Value), e ≠ TS → w.ownsRow base e size v n ys → (((w.setCell ⟨q, 0, none⟩ a).setCell ⟨q, 1, none⟩ b).setCell ⟨q, 2, none⟩ c).ownsRow base e size v n ys) ∧
    Below B w (((w.setCell ⟨q, 0, none⟩ a).setCell ⟨q, 1, none⟩ b).setCell ⟨q, 2, none⟩ c) := by
  have r1 := World.ownsRow.stored r 0 a
  have r2 := World.ownsRow.stored r1.1 1 b
  have r3 := World.ownsRow.stored r2.1 2 c
  have hB := (r.lt q rfl).1
  refine ⟨r3.1, fun base e size n v ys he o => ?_, (((Below.refl _ _).setCell (p := ⟨q, 0, none⟩) hB a).setCell (p := ⟨q, 1, none⟩) hB b).setCell (p := ⟨q, 2, none⟩) hB c⟩
  have o1 := o.kept r1.2 (own_apart o r he)
  have o2 := o1.kept r2.2 (own_apart o1 r1.1 he)
  exact o2.kept r3.2 (own_apart o2 r2.1 he)
theorem tri_all {TS : TypeId} {w : World} {B q : Nat} {x y z : Value} (r : w.ownsRow B TS 3 (.slice (some ⟨q, 0, none⟩) 1 1) 1 [x, y, z]) :
    (w.cell? ⟨q, 0, none⟩ = some x ∧ w.cell? ⟨q, 1, none⟩ = some y ∧ w.cell? ⟨q, 2, none⟩ = some z) ∧ (w.frozen? ⟨q, 0, none⟩ = false ∧ w.frozen? ⟨q, 1, none⟩ = false ∧ w.frozen? ⟨q, 2, none⟩ = false) ∧ q < w.heap.size :=
  ⟨tri_cells r, ⟨r.frozenAt 0, r.frozenAt 1, r.frozenAt 2⟩, (r.lt q rfl).2⟩
theorem keep_four2 {W a b : World} {p q r s : Addr} {x y z u : Value} (h : a.cell? p = some x ∧ a.cell? q = some y ∧ a.cell? r = some z ∧ a.cell? s = some u ∧ Below W.heap.size W a) (hb : Below a.heap.size a b) (hp : p.block < W.heap.size) (hq : q.block < W.heap.size) (hr : r.block < W.heap.size) (hs : s.block < W.heap.size) : b.cell? p = some x ∧ b.cell? q = some y ∧ b.cell? r = some z ∧ b.cell? s = some u ∧ Below W.heap.size W b := by
  obtain ⟨h1, h2, h3, h4, h5⟩ := h
  have hz := h5.size
  exact ⟨(hb.cell (by omega)).trans h1, (hb.cell (by omega)).trans h2, (hb.cell (by omega)).trans h3, (hb.cell (by omega)).trans h4, h5.trans (hb.mono hz)⟩
theorem below_of4 {W a : World} {p q r s : Addr} {x y z u : Value} (h : a.cell? p = some x ∧ a.cell? q = some y ∧ a.cell? r = some z ∧ a.cell? s = some u ∧ Below W.heap.size W a) : Below W.heap.size W a := h.2.2.2.2
theorem ne_own {g h n c : Nat} (h0 : g ≠ h) : (Value.slice (some ⟨g, 0, none⟩) n c).ownBlock ≠ some h := by simp [Value.ownBlock]; exact h0
/-- a table of the program, the document's own one in a box, and the array that came in -/
structure TPair (B : Nat) (w : World) (g h q r : Nat) (l a0 a1 : Int) (n b : Nat) (S L : List Nd) (gT cT : Nat) : Prop where
  ds : PbA w B g h l (L.length : Int) (sumC L) b S
  tb : Tb l b S L
  sz : SzC n b L
  box : w.ownsRow B 33 3 (.slice (some ⟨q, 0, none⟩) 1 1) 1 [.int .i64 l, .int .i64 (b : Int), .slice (some ⟨gT, 0, none⟩) (2 ^ b) cT]
  own : OwnNd 42 w 0 (.slice (some ⟨gT, 0, none⟩) (2 ^ b) cT) S
  ne : gT ≠ h
  ask : w.ownsRow B 26 2 (.slice (some ⟨r, 0, none⟩) 1 1) 1 [.int .i64 a0, .int .i64 a1]
theorem TPair.below {B : Nat} {w w' : World} {g h q r : Nat} {l a0 a1 : Int} {n b : Nat} {S L : List Nd} {gT cT : Nat} (p : TPair B w g h q r l a0 a1 n b S L gT cT) (hb : Below w.heap.size w w') : TPair B w' g h q r l a0 a1 n b S L gT cT :=
  ⟨Ps.below p.ds hb, p.tb, p.sz, own_below p.box hb, own_below p.own hb, p.ne, own_below p.ask hb⟩
/-- behind the table's own call: all else is as it was -/
theorem tpair_do {B : Nat} {W W1 w4 : World} {g h h' q r o g1 N c1 : Nat} {l nn tt : Int} {b : Nat} {S S' : List Nd} {x y z u v t a0 a1 : Value} (d : PbA W B g h l nn tt b S) (hb : Below W.heap.size W W1) (c : Chg g h W1 w4) (hh : h' = h ∨ W1.heap.size ≤ h')
    (bx : W.ownsRow B 33 3 (.slice (some ⟨q, 0, none⟩) 1 1) 1 [x, y, z]) (ow : OwnNd 42 W 0 (.slice (some ⟨g1, 0, none⟩) N c1) S') (ne : g1 ≠ h)
    (ak : W.ownsRow B 26 2 (.slice (some ⟨r, 0, none⟩) 1 1) 1 [a0, a1]) (op : W.ownsRow B 36 3 (.slice (some ⟨o, 0, none⟩) 1 1) 1 [u, v, t]) :
    w4.ownsRow B 33 3 (.slice (some ⟨q, 0, none⟩) 1 1) 1 [x, y, z] ∧ OwnNd 42 w4 0 (.slice (some ⟨g1, 0, none⟩) N c1) S' ∧ g1 ≠ h' ∧
    w4.ownsRow B 26 2 (.slice (some ⟨r, 0, none⟩) 1 1) 1 [a0, a1] ∧ w4.ownsRow B 36 3 (.slice (some ⟨o, 0, none⟩) 1 1) 1 [u, v, t] ∧ Below B W w4 := by
  have d1 := Ps.below d hb
  have lt := Ps.lt d1
  have ow1 : OwnNd _ W1 0 _ S' := own_below ow hb
  have hz : B ≤ W.heap.size := by have := Ps.lt d; omega
  refine ⟨d1.other (own_below bx hb) c (by decide) (by decide), d1.nodes ow1 c (by decide) (ne_own ne), ?_, d1.other (own_below ak hb) c (by decide) (by decide), d1.other (own_below op hb) c (by decide) (by decide), (hb.mono hz).trans (c.below lt.1 lt.2.2.1 (by have := hb.size; omega))⟩
  rcases hh with e | e
  · rw [e]; exact ne
  · have := (ow1.lt g1 rfl).2
    omega
theorem pbSlot_at {B g h b : Nat} {l n t : Int} {S : List Nd} (k : Nat) (w : World) (d : PbA w B g h l n t b S) (hb : b ≤ 40) :
    Calls Try.prog 22 #[.pointer (some ⟨g, 0, none⟩), .int .i64 (k : Int)] w fun e w' => e = .returned (.agg #[.int .i64 (tAt S k).1, .int .i64 (tAt S k).2]) ∧ Below w.heap.size w w' := by
  have q := pbSlot_any (k : Int) w d hb
  have e : slotI S (k : Int) = tAt S k := by unfold slotI; rw [if_neg (by omega), Int.toNat_natCast]
  rw [e] at q
  exact q
set_option maxHeartbeats 3200000 in
theorem walk_probeTables (l : Int) (A : Option Addr) (n c : Nat) (O : List Pl) (a0 a1 : Int) (L0 : -9223372036854775808 ≤ l) (L1 : l ≤ 9223372036854775807) (OB : OBds O) (m1 : n ≤ 9223372036854775807) (AA0 : -9223372036854775808 ≤ a0) (AA1 : a0 ≤ 9223372036854775807) (AB0 : -9223372036854775808 ≤ a1) (AB1 : a1 ≤ 9223372036854775807) (w : World) (H1 : PlacedAt w (.slice A n c) O) :
    Calls Try.prog 4 #[.int .i64 l, .slice A n c, .agg #[.int .i64 a0, .int .i64 a1]] w fun e w' => e = .returned (.bool true) ∧ Below w.heap.size w w' := by
  have HO := Lib.hid H1
  have HL := Lib.hid (placed_cells H1).1
  have HA := Lib.hid (placed_cells H1).2.2.2
  have HB := Lib.hid OB
  have HB0 := Lib.hid ((Below.refl w.heap.size w).alloc (Nat.le_refl _) (.cells #[.int .i64 a0, .int .i64 a1] 26))
  clear H1 OB
  by_cases hn : 100 < n
  · go_enter Try.func4, Try.ntmps4
    go_wp2_with (go_at_call 16; refine (pbAlive_any _).mono ?_; rintro e w1 ⟨rfl, hb1⟩)
    all_goals (go_ret; exact ⟨rfl, HB0.out.trans (hb1.mono HB0.out.size)⟩)
  · by_cases hr : 1 ≤ l ∧ l ≤ 48
    · obtain ⟨h1, h2⟩ := hr
      have T0 := Lib.hid (tb_new (uni_yes (l := l) ⟨h1, h2⟩))
      go_enter Try.func4, Try.ntmps4
      go_wp2_with fail
      refine (pbNew_any l _ h1 h2).mono ?_
      rintro e w1 ⟨g, h, rfl, d1, b1⟩
      have hzz : w.heap.size ≤ (w.alloc (.cells #[.int .i64 a0, .int .i64 a1] 26)).heap.size := by simp
      have D1 : Hid (PbA w1 w.heap.size g h l (([] : List Nd).length : Int) (sumC []) 3 (List.replicate 8 nz)) := Ps.low d1 hzz
      have AK1 := Lib.hid (own_below (duo_new w 26 (.int .i64 a0) (.int .i64 a1)) b1)
      have B1 : Hid (Below w.heap.size w w1) := HB0.out.trans (b1.mono hzz)
      have HLT := Lib.hid (Ps.lt D1.out)
      clear d1 b1 hzz
      go_wp2_with fail
      refine (rtNew_any l _).mono ?_
      rintro e w2 ⟨gT, rfl, o2, b2⟩
      have hz1 := B1.out.size
      have B2 : Hid (Below w.heap.size w w2) := B1.out.trans (b2.mono hz1)
      have hz2 := B2.out.size
      have hz12 := b2.size
      have Q2 : Hid (TPair w.heap.size (w2.alloc (.cells #[.int .i64 l, .int .i64 3, .slice (some ⟨gT, 0, none⟩) 8 8] 33)) g h w2.heap.size w.heap.size l a0 a1 0 3 (List.replicate 8 nz) [] gT 8) := by
        have ba : Below w2.heap.size w2 (w2.alloc (.cells #[.int .i64 l, .int .i64 3, .slice (some ⟨gT, 0, none⟩) 8 8] 33)) := (Below.refl _ _).alloc (Nat.le_refl _) _
        refine ⟨Ps.below (Ps.below D1.out b2) ba, T0.out, szc_new, own_low (tri_new ..) hz2, own_low (own_below o2 ba) (Nat.zero_le _), ?_, own_below (own_below AK1.out b2) ba⟩
        have q1 := (o2.lt gT rfl).1
        have q2 := HLT.out
        omega
      have B3 : Hid (Below w.heap.size w (w2.alloc (.cells #[.int .i64 l, .int .i64 3, .slice (some ⟨gT, 0, none⟩) 8 8] 33))) := B2.out.alloc hz2 _
      clear o2 b2
      go_wp2_with fail
      go_loopw [51] (fun i wr => ∃ (k : Nat) (L : List Nd) (b : Nat) (S : List Nd) (h gT cT : Nat), k ≤ n ∧ i = .int .i64 k ∧ TPair w.heap.size wr g h w2.heap.size w.heap.size l a0 a1 k b S L gT cT ∧ Below w.heap.size w wr) (fun i _ => n - (intOf i).toNat)
      case atStart => exact ⟨0, [], 3, _, h, gT, 8, by omega, rfl, Q2.out, B3.out⟩
      case round =>
        rename_i wr
        obtain ⟨k, L, b, S, h, gT, cT, hk, rfl, hp, hb⟩ := hrel
        obtain ⟨hbb, hLk⟩ := szc_b hp.sz (by omega)
        have PP := Lib.hid hp
        have BB := Lib.hid hb
        have hzr := hb.size
        obtain ⟨⟨q0, q1, q2⟩, _, hq⟩ := tri_all hp.box
        by_cases hlt : k < n
        · have hk2 : k < O.length := by have := HL.out; omega
          obtain ⟨bq, o, rfl, hin⟩ := HA.out (by have := HL.out; omega)
          obtain ⟨e0, e1, e2⟩ := (hin.below hb hin.1).2 k hk2
          have hbd := obds_at HB.out hk2
          obtain ⟨_, ⟨b2, b3⟩, b4, b5⟩ := hbd
          have hbl := hin.1
          have hml : L.length ≤ 400000 := by omega
          clear hin hb hp
          generalize O.getD k plz = r at *
          obtain ⟨⟨kd, id⟩, cc⟩ := r
          simp only at e0 e1 e2 b2 b3 b4 b5
          have HBA := Lib.hid (call_box wr 36 (.int .i64 kd) (.int .i64 id) (.int .i64 cc))
          have PA := Lib.hid (PP.out.below HBA.out)
          have hqa : w2.heap.size < (wr.alloc (.cells #[.int .i64 kd, .int .i64 id, .int .i64 cc] 36)).heap.size := by simp; omega
          have TD := Lib.hid (rtDo_any kd id cc _ PA.out.own PP.out.tb (by omega) hml b2 b3 b4 b5)
          have TT4 := Lib.hid (PP.out.tb.doC (show b ≤ 61 by omega) kd id cc)
          have SZ4 := Lib.hid (szc_do PP.out.tb PP.out.sz kd id cc)
          have DO := Lib.hid (fun wx (d : PbA wx w.heap.size g h l (L.length : Int) (sumC L) b S) => pdo_any kd id cc wx d PP.out.tb (by omega) b2 b3 b4 b5)
          obtain ⟨nv, hnv⟩ : ∃ x, x = doN l L kd id cc := ⟨_, rfl⟩
          obtain ⟨b', hb'⟩ : ∃ x, x = doB l b S L kd id cc := ⟨_, rfl⟩
          obtain ⟨S', hS'⟩ : ∃ x, x = doS l b S L kd id cc := ⟨_, rfl⟩
          obtain ⟨L', hL'⟩ : ∃ x, x = doW l L kd id cc := ⟨_, rfl⟩
          rw [← hb', ← hL'] at SZ4
          rw [← hb', ← hS', ← hL'] at TT4
          rw [← hb', ← hS', ← hnv] at TD
          rw [← hb', ← hS', ← hL', ← hnv] at DO
          clear hb' hS' hL' hnv
          have hhw : h < (wr.alloc (.cells #[.int .i64 kd, .int .i64 id, .int .i64 cc] 36)).heap.size := (Ps.lt PA.out.ds).2.2.2
          go_wp2_with fail
          refine TD.out.mono ?_
          rintro e w3 ⟨g1, c1, rfl, ho3, hb3, hn3⟩
          have hz3 := hb3.size
          simp at hz3
          have NE3 : Hid (g1 ≠ h) := by
            show _ ≠ _
            rcases hn3 with q | q
            · injection q with q _ _
              injection q with q
              injection q with q
              rw [q]; exact PP.out.ne
            · omega
          have PB := Lib.hid (PA.out.below hb3)
          have X3 := tri_set PB.out.box (.int .i64 l) (.int .i64 (b' : Int)) (.slice (some ⟨g1, 0, none⟩) (2 ^ b') c1)
          obtain ⟨⟨x0, x1, x2⟩, ⟨f0, f1, f2⟩, hqz⟩ := tri_all PB.out.box
          have OP3 := X3.2.1 _ _ _ _ _ _ (by decide) (own_below (tri_new wr 36 (.int .i64 kd) (.int .i64 id) (.int .i64 cc)) hb3)
          obtain ⟨y0, y1, y2⟩ := tri_cells OP3
          have HOP := Lib.hid OP3
          have DS3 : Hid (PbA _ w.heap.size g h l (L.length : Int) (sumC L) b S) := ps_box PB.out.ds X3.2.1 (by decide) (by decide)
          have OW3 : Hid (OwnNd _ _ 0 (.slice (some ⟨g1, 0, none⟩) (2 ^ b') c1) S') := X3.2.1 _ _ _ _ _ _ (by decide) ho3
          have AK3 := Lib.hid (X3.2.1 _ _ _ _ _ _ (by decide) PB.out.ask)
          have BX3 := Lib.hid X3.1
          have BW3 := Lib.hid (((BB.out.trans (HBA.out.mono hzr)).trans (hb3.mono (HBA.out.size |> Nat.le_trans hzr))).trans X3.2.2)
          have hwz : wr.heap.size < w3.heap.size := by omega
          clear X3 OP3 ho3 hb3 hn3 q0 q1 q2 e0 e1 e2
          go_wp2_with fail
          have DSW : Hid (PbA ((((w3.setCell ⟨w2.heap.size, 0, none⟩ (.int .i64 l)).setCell ⟨w2.heap.size, 1, none⟩ (.int .i64 (b' : Int))).setCell ⟨w2.heap.size, 2, none⟩ (.slice (some ⟨g1, 0, none⟩) (2 ^ b') c1)).alloc (.cells #[.int .i64 l, .int .i64 (b' : Int), .slice (some ⟨g1, 0, none⟩) (2 ^ b') c1] 33)) w.heap.size g h l (L.length : Int) (sumC L) b S) := Ps.below DS3.out ((Below.refl _ _).alloc (Nat.le_refl _) _)
          have BXW := Lib.hid (BX3.out.alloc (.cells #[.int .i64 l, .int .i64 (b' : Int), .slice (some ⟨g1, 0, none⟩) (2 ^ b') c1] 33))
          have OWW := Lib.hid (World.ownsRow.alloc OW3.out (.cells #[.int .i64 l, .int .i64 (b' : Int), .slice (some ⟨g1, 0, none⟩) (2 ^ b') c1] 33))
          have AKW := Lib.hid (AK3.out.alloc (.cells #[.int .i64 l, .int .i64 (b' : Int), .slice (some ⟨g1, 0, none⟩) (2 ^ b') c1] 33))
          have OPW := Lib.hid (own_low (HOP.out.alloc (.cells #[.int .i64 l, .int .i64 (b' : Int), .slice (some ⟨g1, 0, none⟩) (2 ^ b') c1] 33)) hzr)
          have BWW := Lib.hid (BW3.out.alloc BW3.out.size (.cells #[.int .i64 l, .int .i64 (b' : Int), .slice (some ⟨g1, 0, none⟩) (2 ^ b') c1] 33))
          generalize (((w3.setCell ⟨w2.heap.size, 0, none⟩ (.int .i64 l)).setCell ⟨w2.heap.size, 1, none⟩ (.int .i64 (b' : Int))).setCell ⟨w2.heap.size, 2, none⟩ (.slice (some ⟨g1, 0, none⟩) (2 ^ b') c1)).alloc (.cells #[.int .i64 l, .int .i64 (b' : Int), .slice (some ⟨g1, 0, none⟩) (2 ^ b') c1] 33) = W at *
          have SW : W.cell? ⟨w2.heap.size, 2, none⟩ = some (.slice (some ⟨g1, 0, none⟩) (2 ^ b') c1) ∧ W.cell? ⟨wr.heap.size, 0, none⟩ = some (.int .i64 kd) ∧ W.cell? ⟨wr.heap.size, 1, none⟩ = some (.int .i64 id) ∧ W.cell? ⟨wr.heap.size, 2, none⟩ = some (.int .i64 cc) := ⟨(tri_cells BXW.out).2.2, tri_cells OPW.out⟩
          clear DS3 OW3 AK3 BX3 HOP y0 y1 y2 f0 f1 f2 x0 x1 x2
          go_region_held3 (fun w' => w'.cell? ⟨w2.heap.size, 2, none⟩ = some (.slice (some ⟨g1, 0, none⟩) (2 ^ b') c1) ∧ w'.cell? ⟨wr.heap.size, 0, none⟩ = some (.int .i64 kd) ∧ w'.cell? ⟨wr.heap.size, 1, none⟩ = some (.int .i64 id) ∧ w'.cell? ⟨wr.heap.size, 2, none⟩ = some (.int .i64 cc))
            (first | assumption | (exact SW))
            (first
              | (go_at_call 20; refine (DO.out _ (Ps.below DSW.out (below_drew _))).mono ?_; rintro e w4 ⟨rfl, h', hd4, hc4, hh4⟩; have K4 := Lib.hid (tpair_do DSW.out (below_drew _) hc4 hh4 BXW.out OWW.out NE3.out AKW.out OPW.out); have HD4 := Lib.hid hd4; have S4 : w4.cell? ⟨w2.heap.size, 2, none⟩ = some (.slice (some ⟨g1, 0, none⟩) (2 ^ b') c1) ∧ w4.cell? ⟨wr.heap.size, 0, none⟩ = some (.int .i64 kd) ∧ w4.cell? ⟨wr.heap.size, 1, none⟩ = some (.int .i64 id) ∧ w4.cell? ⟨wr.heap.size, 2, none⟩ = some (.int .i64 cc) := ⟨(tri_cells K4.out.1).2.2, tri_cells K4.out.2.2.2.2.1⟩; clear hd4 hc4 hh4)
              | (go_at_call 21; refine (pbSize_any _ HD4.out).mono ?_; rintro e w5 ⟨rfl, rfl⟩))
          go_wp2_with fail
          go_roundw
          case rel => exact ⟨k + 1, L', b', S', h', g1, c1, by omega, by go_num, ⟨HD4.out, TT4.out, SZ4.out, K4.out.1, K4.out.2.1, K4.out.2.2.1, K4.out.2.2.2.1⟩, BWW.out.trans K4.out.2.2.2.2.2⟩
          case measure => simp [intOf]; omega
        · clear hp hb
          have SLT : Hid (∀ j : Nat, j < 2 ^ b → ∀ w1, PbA w1 w.heap.size g h l (L.length : Int) (sumC L) b S → Calls Try.prog 22 #[.pointer (some ⟨g, 0, none⟩), .int .i64 (j : Int)] w1 fun e w' => e = .returned (.agg #[.int .i64 (tAt S j).1, .int .i64 (tAt S j).2]) ∧ Below w1.heap.size w1 w') := fun j hj w1 d => pbSlot_at j w1 d (by omega)
          have hpN := pow_40 (b := b) (by omega)
          obtain ⟨wL, hwL⟩ : ∃ x : World, x = wr := ⟨_, rfl⟩
          subst hwL
          obtain ⟨N, hN⟩ : ∃ N, N = 2 ^ b := ⟨_, rfl⟩
          rw [← hN] at q2 hpN SLT
          have SL := Lib.hid (sl_own PP.out.own)
          rw [← hN] at SL
          have HN := Lib.hid hN
          clear hN
          go_wp2_with fail
          go_loopw [79] (fun i wr => ∃ j : Nat, j ≤ N ∧ i = .int .i64 j ∧ Below wL.heap.size wL wr) (fun i _ => N - (intOf i).toNat)
          case atStart => exact ⟨0, by omega, rfl, Below.refl _ _⟩
          case round =>
            rename_i wr
            obtain ⟨j, hj, rfl, hbL⟩ := hrel
            by_cases hlt2 : j < N
            · have PJ := Lib.hid (PP.out.below hbL)
              have SJ := SLT.out j hlt2
              obtain ⟨s0, s1⟩ := (SL.out.below hbL).2 j hlt2
              obtain ⟨x, hx⟩ : ∃ x, x = tAt S j := ⟨_, rfl⟩
              rw [← hx] at s0 s1 SJ
              obtain ⟨x1, x2⟩ := x
              simp only at s0 s1 SJ
              have SJH := Lib.hid SJ
              have hne : ∀ w, (binOp .neq 42 (.agg #[.int .i64 x1, .int .i64 x2]) (.agg #[.int .i64 x1, .int .i64 x2])).run Try.prog w = .ok (.bool false) w := fun w => by rw [run_neq_nodes]; simp
              have hzz := hbL.size
              clear hx SJ
              go_wp2_with fail
              have y0 : (wr.alloc (.cells #[.int .i64 x1, .int .i64 x2] 42)).cell? ⟨wr.heap.size, 0, none⟩ = some (.int .i64 x1) := by simp
              have y1 : (wr.alloc (.cells #[.int .i64 x1, .int .i64 x2] 42)).cell? ⟨wr.heap.size, 1, none⟩ = some (.int .i64 x2) := by simp
              have hba := Lib.hid (hbL.alloc hzz (.cells #[.int .i64 x1, .int .i64 x2] 42))
              have PK := Lib.hid (PJ.out.below ((Below.refl _ _).alloc (Nat.le_refl _) (.cells #[.int .i64 x1, .int .i64 x2] 42)))
              have hzw : wr.heap.size < (wr.alloc (.cells #[.int .i64 x1, .int .i64 x2] 42)).heap.size := by simp
              generalize wr.alloc (.cells #[.int .i64 x1, .int .i64 x2] 42) = W at *
              have HZ := Lib.hid hzw
              clear hzw
              go_region_held3 (fun w' => w'.cell? ⟨wr.heap.size, 0, none⟩ = some (.int .i64 x1) ∧ w'.cell? ⟨wr.heap.size, 1, none⟩ = some (.int .i64 x2) ∧ Below W.heap.size W w')
                (first | assumption | (exact keep_two (by assumption) (by assumption) HZ.out HZ.out) | (exact ⟨y0, y1, below_drew _⟩))
                (first | (go_at_call 22; refine (SJH.out _ (Ps.below PK.out.ds (below_of (p := ⟨wr.heap.size, 0, none⟩) (q := ⟨wr.heap.size, 1, none⟩) (x := .int .i64 x1) (y := .int .i64 x2) (by assumption)))).mono ?_; rintro e w5 ⟨rfl, hb5⟩))
              rename_i hH
              have hbb9 := Lib.hid hH.2.2
              go_wp2_with fail
              go_roundw
              case rel => exact ⟨j + 1, by omega, by go_num, hba.out.trans (hbb9.out.mono hba.out.size)⟩
              case measure => simp [intOf]; omega
            · have PE := Lib.hid (PP.out.below hbL)
              have BE : Hid (Below w.heap.size w wr) := BB.out.trans (hbL.mono BB.out.size)
              obtain ⟨⟨x0, x1, x2⟩, _, _⟩ := tri_all PE.out.box
              rw [← HN.out] at x2
              obtain ⟨k0, k1, _, _, _⟩ := box_cells PE.out.ask
              have hlenS : S.length = N := by rw [HN.out]; exact PE.out.ds.len
              clear hbL
              by_cases ha : 0 ≤ a1 ∧ a1 < (N : Int)
              · obtain ⟨ha1, ha2⟩ := ha
                have P9 := Lib.hid PE.out
                have B9 := Lib.hid BE.out
                go_wp2_with fail
                clear x0 x1 x2 k0 k1
                have WK := Lib.hid (fun w1 (hb : Below wr.heap.size wr w1) => pbWalk_any a0 w1 (Ps.below P9.out.ds hb) P9.out.tb (by omega) AA0 AA1)
                have RW := Lib.hid (fun w1 (hb : Below wr.heap.size wr w1) => rtWalk_any (c := cT) a0 w1 ((sl_own P9.out.own).below hb) P9.out.tb (by omega) AA0 AA1)
                obtain ⟨wv, hwv⟩ : ∃ x, x = walkN l b S a0 := ⟨_, rfl⟩
                rw [← hwv] at WK RW
                rw [← HN.out] at RW
                clear hwv
                obtain ⟨⟨x0, x1, x2⟩, _, xq⟩ := tri_all P9.out.box
                rw [← HN.out] at x2
                obtain ⟨k0, _, _, _, kq⟩ := box_cells P9.out.ask
                have XQ := Lib.hid xq
                have KQ := Lib.hid kq
                clear xq kq
                go_region_held3 (fun w' => w'.cell? ⟨w2.heap.size, 0, none⟩ = some (.int .i64 l) ∧ w'.cell? ⟨w2.heap.size, 1, none⟩ = some (.int .i64 (b : Int)) ∧ w'.cell? ⟨w2.heap.size, 2, none⟩ = some (.slice (some ⟨gT, 0, none⟩) N cT) ∧ w'.cell? ⟨w.heap.size, 0, none⟩ = some (.int .i64 a0) ∧ Below wr.heap.size wr w')
                  (first | assumption | (exact keep_four2 (by assumption) (by assumption) XQ.out XQ.out XQ.out KQ.out) | (exact ⟨x0, x1, x2, k0, below_drew _⟩))
                  (first
                    | (go_at_call 23; refine (WK.out _ (below_of4 (p := ⟨w2.heap.size, 0, none⟩) (q := ⟨w2.heap.size, 1, none⟩) (r := ⟨w2.heap.size, 2, none⟩) (s := ⟨w.heap.size, 0, none⟩) (x := .int .i64 l) (y := .int .i64 (b : Int)) (z := .slice (some ⟨gT, 0, none⟩) N cT) (u := .int .i64 a0) (by assumption))).mono ?_; rintro e w6 ⟨rfl, rfl⟩)
                    | (go_at_call 24; refine (RW.out _ (below_of4 (p := ⟨w2.heap.size, 0, none⟩) (q := ⟨w2.heap.size, 1, none⟩) (r := ⟨w2.heap.size, 2, none⟩) (s := ⟨w.heap.size, 0, none⟩) (x := .int .i64 l) (y := .int .i64 (b : Int)) (z := .slice (some ⟨gT, 0, none⟩) N cT) (u := .int .i64 a0) (by assumption))).mono ?_; rintro e w7 ⟨rfl, hb7⟩)
                    | (go_at_call 16; refine (pbAlive_any _).mono ?_; rintro e w8 ⟨rfl, hb8⟩))
                rename_i hH
                have hbb9 := hH.2.2.2.2
                go_wp2_with fail
                go_ret
                exact ⟨rfl, B9.out.trans (hbb9.mono B9.out.size)⟩
              · have hnz : ∀ w, (binOp .neq 42 (.agg #[.int .i64 0, .int .i64 0]) (.agg #[.int .i64 0, .int .i64 0])).run Try.prog w = .ok (.bool false) w := fun w => by rw [run_neq_nodes]; simp
                have hsl : slotI S a1 = nz := by
                  unfold slotI
                  by_cases q : a1 < 0
                  · rw [if_pos q]
                  · rw [if_neg q, tAt_out (by omega)]
                have SLA : Hid (∀ w1, PbA w1 w.heap.size g h l (L.length : Int) (sumC L) b S → Calls Try.prog 22 #[.pointer (some ⟨g, 0, none⟩), .int .i64 a1] w1 fun e w' => e = .returned (.agg #[.int .i64 0, .int .i64 0]) ∧ Below w1.heap.size w1 w') := fun w1 d => by
                  have q := pbSlot_any a1 w1 d (show b ≤ 40 by omega)
                  rw [hsl] at q
                  exact q
                clear hsl
                rcases (show a1 < 0 ∨ (0 ≤ a1 ∧ (N : Int) ≤ a1) by omega) with hq1 | ⟨hq1, hq2⟩
                all_goals
                  clear ha
                  go_wp2_with fail
                  refine (SLA.out _ PE.out.ds).mono ?_
                  rintro e w5 ⟨rfl, hb5⟩
                  have P9 := Lib.hid (PE.out.below hb5)
                  have B9 : Hid (Below w.heap.size w w5) := BE.out.trans (hb5.mono BE.out.size)
                  clear hb5 x0 x1 x2 k0 k1
                  go_wp2_with fail
                  have WK := Lib.hid (fun w1 (hb : Below w5.heap.size w5 w1) => pbWalk_any a0 w1 (Ps.below P9.out.ds hb) P9.out.tb (by omega) AA0 AA1)
                  have RW := Lib.hid (fun w1 (hb : Below w5.heap.size w5 w1) => rtWalk_any (c := cT) a0 w1 ((sl_own P9.out.own).below hb) P9.out.tb (by omega) AA0 AA1)
                  obtain ⟨wv, hwv⟩ : ∃ x, x = walkN l b S a0 := ⟨_, rfl⟩
                  rw [← hwv] at WK RW
                  rw [← HN.out] at RW
                  clear hwv
                  obtain ⟨⟨x0, x1, x2⟩, _, xq⟩ := tri_all P9.out.box
                  rw [← HN.out] at x2
                  obtain ⟨k0, _, _, _, kq⟩ := box_cells P9.out.ask
                  have XQ := Lib.hid xq
                  have KQ := Lib.hid kq
                  clear xq kq
                  go_region_held3 (fun w' => w'.cell? ⟨w2.heap.size, 0, none⟩ = some (.int .i64 l) ∧ w'.cell? ⟨w2.heap.size, 1, none⟩ = some (.int .i64 (b : Int)) ∧ w'.cell? ⟨w2.heap.size, 2, none⟩ = some (.slice (some ⟨gT, 0, none⟩) N cT) ∧ w'.cell? ⟨w.heap.size, 0, none⟩ = some (.int .i64 a0) ∧ Below w5.heap.size w5 w')
                    (first | assumption | (exact keep_four2 (by assumption) (by assumption) XQ.out XQ.out XQ.out KQ.out) | (exact ⟨x0, x1, x2, k0, below_drew _⟩))
                    (first
                      | (go_at_call 23; refine (WK.out _ (below_of4 (p := ⟨w2.heap.size, 0, none⟩) (q := ⟨w2.heap.size, 1, none⟩) (r := ⟨w2.heap.size, 2, none⟩) (s := ⟨w.heap.size, 0, none⟩) (x := .int .i64 l) (y := .int .i64 (b : Int)) (z := .slice (some ⟨gT, 0, none⟩) N cT) (u := .int .i64 a0) (by assumption))).mono ?_; rintro e w6 ⟨rfl, rfl⟩)
                      | (go_at_call 24; refine (RW.out _ (below_of4 (p := ⟨w2.heap.size, 0, none⟩) (q := ⟨w2.heap.size, 1, none⟩) (r := ⟨w2.heap.size, 2, none⟩) (s := ⟨w.heap.size, 0, none⟩) (x := .int .i64 l) (y := .int .i64 (b : Int)) (z := .slice (some ⟨gT, 0, none⟩) N cT) (u := .int .i64 a0) (by assumption))).mono ?_; rintro e w7 ⟨rfl, hb7⟩)
                      | (go_at_call 16; refine (pbAlive_any _).mono ?_; rintro e w8 ⟨rfl, hb8⟩))
                  rename_i hH
                  have hbb9 := hH.2.2.2.2
                  go_wp2_with fail
                  go_ret
                  exact ⟨rfl, B9.out.trans (hbb9.mono B9.out.size)⟩
    · have NO := Lib.hid (fun w => pbNew_no l w hr)
      rcases (show l < 1 ∨ (1 ≤ l ∧ 48 < l) by omega) with hq | ⟨hq1, hq2⟩
      all_goals
        clear hr
        go_enter Try.func4, Try.ntmps4
        go_wp2_with (first | (go_at_call 17; refine (NO.out _).mono ?_; rintro e w1 ⟨rfl, rfl⟩) | (go_at_call 16; refine (pbAlive_any _).mono ?_; rintro e w1 ⟨rfl, hb1⟩))
        go_ret
        exact ⟨rfl, HB0.out.trans (hb1.mono HB0.out.size)⟩

end Go.Proofs.Ytomhikjohgiloaa
