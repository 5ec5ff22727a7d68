/- The document's answer of package dewpondref13: Insert, where it is OK. -/
import Derived.Test.YtfilmblpikcpnaaGreatDgRef3
namespace Go.Proofs.YtfilmblpikcpnaaGreat
set_option linter.unusedVariables false
set_option maxRecDepth 100000
open Go.RowKit

/-- the tail's answer: a row of its own, put into both boxes -/
theorem rdg_end2 {k l : Int} {A A5 : Option Addr} {n c n5 c5 : Nat} {M : List Nd} {w w1 : World} {v y0 y1 y2 : Value} (I : DgI w w1 k l v y0 y1 y2) (o : OwnNd 74 w1 0 (.slice A5 n5 c5) M) (nw : NewB (.slice A n c) (.slice A5 n5 c5) w.heap.size) :
    RDgPost k l M 0 (.slice A n c) w (.returned (.tuple #[.agg #[.int .i64 k, .int .i64 l, .slice A5 n5 c5], .int .i64 0])) (((((w1.setCell ⟨w.heap.size, 1, none⟩ (.int .i64 l)).setCell ⟨w.heap.size, 2, none⟩ (.slice A5 n5 c5)).setCell ⟨w.heap.size + 1, 0, none⟩ (.int .i64 k)).setCell ⟨w.heap.size + 1, 1, none⟩ (.int .i64 l)).setCell ⟨w.heap.size + 1, 2, none⟩ (.slice A5 n5 c5)) := by
  have T1 := tri_set2 I.s (.int .i64 l) (.slice A5 n5 c5)
  have I2 := I.set2 (.slice A5 n5 c5)
  have T := tri_set I2.r (.int .i64 k) (.int .i64 l) (.slice A5 n5 c5)
  exact ⟨A5, n5, c5, rfl, T.2.1 _ _ _ _ _ _ (by decide) (T1.2.1 _ _ _ _ _ _ (by decide) o), I2.b.trans T.2.2.1, nw⟩
theorem NewB.refl' (v : Value) (k : Nat) : NewB v v k := .inl rfl
theorem newB_trans {a b c : Value} {i j : Nat} (h : NewB a b i) (h2 : NewB b c j) (hj : i ≤ j) : NewB a c i := by
  rcases h2 with q | q
  · rw [q]; exact h
  · exact .inr fun x e => Nat.le_trans hj (q x e)
set_option maxHeartbeats 6400000 in
theorem rDgInsert_ok (l k x cc : Int) (A : Option Addr) (n c : Nat) (L : List Nd) (w : World) (h : OwnNd 74 w 0 (.slice A n c) L) (v : DgV l k L) (hn : n ≤ 100) (he : dgE l L x cc = 0)
    (A0 : -9223372036854775808 ≤ x) (A1 : x ≤ 9223372036854775807) (B0 : -9223372036854775808 ≤ cc) (B1 : cc ≤ 9223372036854775807) :
    Calls Tryz.prog 42 #[.agg #[.int .i64 k, .int .i64 l, .slice A n c], .int .i64 x, .int .i64 cc] w (RDgPost k l (dgIns l k L x cc) 0 (.slice A n c) w) := by
  have I0 := Lib.hid (dgI_new w k l (.slice A n c))
  have HN := Lib.hid (own_below h I0.out.b)
  have u : 1 ≤ l ∧ l ≤ 48 := of_decide_eq_true v.roll.1
  have LF := Lib.hid (fun w => rleaf_any l x w (by omega) (by omega) A0 A1)
  obtain ⟨x0, x1, x2, g0, g1, g2, hz⟩ := tri_all I0.out.s
  obtain ⟨hv, h1, h2⟩ := dgE_yes he
  rw [(leaf_yes hv).2] at LF
  have lf := leaf_right hv
  have rb := right_yes lf.1
  have c1 : decide (cc < 1) = false := decide_eq_false h1
  have c2 : decide (72057594037927935 - sumC L < cc) = false := decide_eq_false (by omega)
  have nn := good_nonneg (roll_good v.roll)
  have s0 : 0 ≤ sumC L := Int.le_trans (sum_le nn 0).1 (sum_le nn 0).2
  have s1 := v.roll.2.2.2.2
  have hw : IntKind.i64.wrap (72057594037927935 - sumC L) = 72057594037927935 - sumC L := wrap_lit rfl (by omega) (by omega)
  have kb1 := v.k1
  have kb2 := v.k2
  have hw8 : IntKind.i64.wrap (8 * k) = 8 * k := wrap_lit rfl (by omega) (by omega)
  have WT := Lib.hid (rDgWeight_any l k A n c L _ (ownNd_nodes HN.out) v.roll (by omega))
  have GT := Lib.hid (fun w1 (hb : Below _ _ w1) => rsGet_any l (leafN l x) A n c L w1 ((ownNd_nodes HN.out).below hb) (by omega))
  rw [find_sum (roll_good v.roll)] at GT
  have R := Lib.hid (dgRoom_is v x)
  have HNL := Lib.hid (nodes_cells (ownNd_nodes HN.out)).1
  have HIN : Hid (dgIns l k L x cc = insW (dgRoom l k L x) (leafN l x) cc) := if_pos he
  have AD := Lib.hid (addS_ins (L := dgRoom l k L x) (c := cc) rb h1 (by rw [R.out.2.1]; exact h2))
  have lb := lf.2.2.1
  have lb2 := lf.2.2.2
  have RR := Lib.hid v.roll
  have RM : Hid (dgRoom l k L x = if sumAt (leafN l x) L = 0 ∧ (L.length : Int) = 8 * k then pressW l k L else L) := rfl
  rw [HIN.out]
  clear h nn h2 lf rb HIN v he hv h1
  generalize leafN l x = leaf at *
  generalize dgRoom l k L x = L2 at *
  by_cases hs : sumAt leaf L = 0
  · by_cases hl : (L.length : Int) = 8 * k
    · have e : L2 = pressW l k L := by rw [RM.out, if_pos ⟨hs, hl⟩]
      have z1 : (sumAt leaf L == 0) = true := beq_iff_eq.2 hs
      have z2 : ((n : Int) == 8 * k) = true := beq_iff_eq.2 (by have := HNL.out; omega)
      have CP := Lib.hid (fun w1 o => rDgCompress_any l k A n c L w1 o RR.out hn kb1 kb2)
      rw [← e] at CP
      clear RM hs hl e
      go_enter Tryz.func42, Tryz.ntmps42
      go_wp2_with fail
      generalize (w.alloc (.cells #[.int .i64 k, .int .i64 l, .slice A n c] 36)).alloc (.cells #[.int .i64 0, .int .i64 0, .slice none 0 0] 36) = W0 at *
      refine (LF.out _).mono ?_
      rintro e w1 ⟨rfl, rfl⟩
      go_wp2_with fail
      refine WT.out.mono ?_
      rintro e w2 ⟨rfl, hb2⟩
      have I2 := Lib.hid (I0.out.below hb2)
      have O2 := Lib.hid (own_below HN.out hb2)
      have HB2 := Lib.hid hb2
      obtain ⟨t0, t1, t2, a0, a1, a2, hz3⟩ := tri_all I2.out.s
      clear hb2 x0 x1 x2 g0 g1 g2
      go_wp2_with fail
      refine (GT.out _ HB2.out).mono ?_
      rintro e w3 ⟨rfl, hb3⟩
      have I3 := Lib.hid (I2.out.below hb3)
      have O3 := Lib.hid (own_below O2.out hb3)
      obtain ⟨t0, t1, t2, a0, a1, a2, hz3⟩ := tri_all I3.out.s
      clear hb3
      go_wp2_with fail
      refine (CP.out _ O3.out).mono ?_
      rintro e w4 ⟨A4, n4, c4, rfl, ho4, hb4, hnw4⟩
      have I4 := Lib.hid (I3.out.below hb4)
      have NW4 := Lib.hid (hnw4.mono I3.out.b.size)
      obtain ⟨t0, t1, t2, a0, a1, a2, hz3⟩ := tri_all I4.out.s
      have T4 := Lib.hid (tri_set I4.out.s (.int .i64 k) (.int .i64 l) (.slice A4 n4 c4))
      have I5 := Lib.hid (I4.out.set3 (.slice A4 n4 c4))
      have O5 := Lib.hid (T4.out.2.1 _ _ _ _ _ _ (by decide) ho4)
      have hn4 : n4 ≤ 1000 := by
        have a := (nodes_cells (ownNd_nodes ho4)).1
        have b := R.out.2.2.1
        have := HNL.out
        omega
      clear ho4 hb4 hnw4
      go_wp2_with fail
      generalize ((w4.setCell ⟨w.heap.size, 0, none⟩ (.int .i64 k)).setCell ⟨w.heap.size, 1, none⟩ (.int .i64 l)).setCell ⟨w.heap.size, 2, none⟩ (.slice A4 n4 c4) = W5 at *
      refine (rsAdd_any l leaf cc A4 n4 c4 L2 W5 O5.out R.out.1.roll (by omega) (by omega) (by omega) B0 B1).mono ?_
      rintro e w6 ⟨A5, n5, c5, rfl, ho6, hb6, hnw⟩
      rw [AD.out.1] at ho6
      have I6 := Lib.hid (I5.out.below hb6)
      have NW := Lib.hid (newB_trans NW4.out hnw I5.out.b.size)
      have E := Lib.hid (rdg_end2 I6.out ho6 NW.out)
      obtain ⟨t0, t1, t2, a0, a1, a2, hz3⟩ := tri_all I6.out.s
      have I7 := Lib.hid (I6.out.set2 (.slice A5 n5 c5))
      obtain ⟨y0, y1, y2, f0, f1, f2, hz2⟩ := tri_all I6.out.r
      obtain ⟨q0, q1, q2⟩ := set_three I7.out.r (.int .i64 k) (.int .i64 l) (.slice A5 n5 c5)
      clear ho6 hb6 hnw
      go_wp2_with fail
      exact bodyPost_ret (v := .tuple #[.agg #[.int .i64 k, .int .i64 l, .slice A5 n5 c5], .int .i64 0]) (by simp [results, Tryz.results42, go_sem, q0, q1, q2]) rfl E.out
    · have e : L2 = L := by rw [RM.out, if_neg fun z => hl z.2]
      subst e
      have z1 : (sumAt leaf L2 == 0) = true := beq_iff_eq.2 hs
      have z2 : ((n : Int) == 8 * k) = false := beq_eq_false_iff_ne.2 (by have := HNL.out; omega)
      clear RM hs hl
      go_enter Tryz.func42, Tryz.ntmps42
      go_wp2_with fail
      generalize (w.alloc (.cells #[.int .i64 k, .int .i64 l, .slice A n c] 36)).alloc (.cells #[.int .i64 0, .int .i64 0, .slice none 0 0] 36) = W0 at *
      refine (LF.out _).mono ?_
      rintro e w1 ⟨rfl, rfl⟩
      go_wp2_with fail
      refine WT.out.mono ?_
      rintro e w2 ⟨rfl, hb2⟩
      have I2 := Lib.hid (I0.out.below hb2)
      have O2 := Lib.hid (own_below HN.out hb2)
      have HB2 := Lib.hid hb2
      obtain ⟨t0, t1, t2, a0, a1, a2, hz3⟩ := tri_all I2.out.s
      clear hb2 x0 x1 x2 g0 g1 g2
      go_wp2_with fail
      refine (GT.out _ HB2.out).mono ?_
      rintro e w3 ⟨rfl, hb3⟩
      have I3 := Lib.hid (I2.out.below hb3)
      have O3 := Lib.hid (own_below O2.out hb3)
      obtain ⟨t0, t1, t2, a0, a1, a2, hz3⟩ := tri_all I3.out.s
      clear hb3
      go_wp2_with fail
      refine (rsAdd_any l leaf cc A n c L2 w3 O3.out R.out.1.roll (by omega) (by omega) (by omega) B0 B1).mono ?_
      rintro e w6 ⟨A5, n5, c5, rfl, ho6, hb6, hnw⟩
      rw [AD.out.1] at ho6
      have I6 := Lib.hid (I3.out.below hb6)
      have NW := Lib.hid (newB_trans (NewB.refl' (.slice A n c) w.heap.size) hnw I3.out.b.size)
      have E := Lib.hid (rdg_end2 I6.out ho6 NW.out)
      obtain ⟨t0, t1, t2, a0, a1, a2, hz3⟩ := tri_all I6.out.s
      have I7 := Lib.hid (I6.out.set2 (.slice A5 n5 c5))
      obtain ⟨y0, y1, y2, f0, f1, f2, hz2⟩ := tri_all I6.out.r
      obtain ⟨q0, q1, q2⟩ := set_three I7.out.r (.int .i64 k) (.int .i64 l) (.slice A5 n5 c5)
      clear ho6 hb6 hnw
      go_wp2_with fail
      exact bodyPost_ret (v := .tuple #[.agg #[.int .i64 k, .int .i64 l, .slice A5 n5 c5], .int .i64 0]) (by simp [results, Tryz.results42, go_sem, q0, q1, q2]) rfl E.out
  · have e : L2 = L := by rw [RM.out, if_neg fun z => hs z.1]
    subst e
    have z1 : (sumAt leaf L2 == 0) = false := beq_eq_false_iff_ne.2 hs
    clear RM hs
    go_enter Tryz.func42, Tryz.ntmps42
    go_wp2_with fail
    generalize (w.alloc (.cells #[.int .i64 k, .int .i64 l, .slice A n c] 36)).alloc (.cells #[.int .i64 0, .int .i64 0, .slice none 0 0] 36) = W0 at *
    refine (LF.out _).mono ?_
    rintro e w1 ⟨rfl, rfl⟩
    go_wp2_with fail
    refine WT.out.mono ?_
    rintro e w2 ⟨rfl, hb2⟩
    have I2 := Lib.hid (I0.out.below hb2)
    have O2 := Lib.hid (own_below HN.out hb2)
    have HB2 := Lib.hid hb2
    obtain ⟨t0, t1, t2, a0, a1, a2, hz3⟩ := tri_all I2.out.s
    clear hb2 x0 x1 x2 g0 g1 g2
    go_wp2_with fail
    refine (GT.out _ HB2.out).mono ?_
    rintro e w3 ⟨rfl, hb3⟩
    have I3 := Lib.hid (I2.out.below hb3)
    have O3 := Lib.hid (own_below O2.out hb3)
    obtain ⟨t0, t1, t2, a0, a1, a2, hz3⟩ := tri_all I3.out.s
    clear hb3
    go_wp2_with fail
    refine (rsAdd_any l leaf cc A n c L2 w3 O3.out R.out.1.roll (by omega) (by omega) (by omega) B0 B1).mono ?_
    rintro e w6 ⟨A5, n5, c5, rfl, ho6, hb6, hnw⟩
    rw [AD.out.1] at ho6
    have I6 := Lib.hid (I3.out.below hb6)
    have NW := Lib.hid (newB_trans (NewB.refl' (.slice A n c) w.heap.size) hnw I3.out.b.size)
    have E := Lib.hid (rdg_end2 I6.out ho6 NW.out)
    obtain ⟨t0, t1, t2, a0, a1, a2, hz3⟩ := tri_all I6.out.s
    have I7 := Lib.hid (I6.out.set2 (.slice A5 n5 c5))
    obtain ⟨y0, y1, y2, f0, f1, f2, hz2⟩ := tri_all I6.out.r
    obtain ⟨q0, q1, q2⟩ := set_three I7.out.r (.int .i64 k) (.int .i64 l) (.slice A5 n5 c5)
    clear ho6 hb6 hnw
    go_wp2_with fail
    exact bodyPost_ret (v := .tuple #[.agg #[.int .i64 k, .int .i64 l, .slice A5 n5 c5], .int .i64 0]) (by simp [results, Tryz.results42, go_sem, q0, q1, q2]) rfl E.out
theorem rDgInsert_any (l k x cc : Int) (A : Option Addr) (n c : Nat) (L : List Nd) (w : World) (h : OwnNd 74 w 0 (.slice A n c) L) (v : DgV l k L) (hn : n ≤ 100)
    (A0 : -9223372036854775808 ≤ x) (A1 : x ≤ 9223372036854775807) (B0 : -9223372036854775808 ≤ cc) (B1 : cc ≤ 9223372036854775807) :
    Calls Tryz.prog 42 #[.agg #[.int .i64 k, .int .i64 l, .slice A n c], .int .i64 x, .int .i64 cc] w (RDgPost k l (dgIns l k L x cc) (dgE l L x cc) (.slice A n c) w) := by
  have u : 1 ≤ l ∧ l ≤ 48 := of_decide_eq_true v.roll.1
  by_cases he : dgE l L x cc = 0
  · have z := rDgInsert_ok l k x cc A n c L w h v hn he A0 A1 B0 B1
    rw [he]
    exact z
  · rw [dgIns_no he]
    exact rDgInsert_no l k x cc A n c L w h v.roll (by omega) he (by omega) (by omega) A0 A1 B0 B1

end Go.Proofs.YtfilmblpikcpnaaGreat
