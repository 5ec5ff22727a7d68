/- The project's package digest: Compress, Insert. -/
import Derived.Test.YtfilmblpikcpnaaGreatDg
namespace Go.Proofs.YtfilmblpikcpnaaGreat
set_option linter.unusedVariables false
set_option maxRecDepth 100000
open Go.RowKit

theorem dgCompress_nil (w : World) : Calls Tryz.prog 25 #[.pointer none] w fun e w' => e = .returned (.int .i64 0) ∧ Below w.heap.size w w' := by
  go_enter Tryz.func25, Tryz.ntmps25
  go_wp2_with fail
  refine (dgParts_nil _).mono ?_
  rintro e w1 ⟨rfl, hb1⟩
  have B1 := Lib.hid (hb1.alloc hb1.size (.cells #[.int .i64 0, .int .i64 0, .int .i64 0, .pointer none] 82))
  clear hb1
  go_wp2_with (go_at_call 56; refine (prRun_nil _ _).mono ?_; rintro e w2 ⟨rfl, hb2⟩)
  go_ret
  exact ⟨rfl, B1.out.trans (hb2.mono B1.out.size)⟩
theorem dgF_new {q p g h h' : Nat} {w : World} (hh : h' = h ∨ w.heap.size ≤ h') : ∀ i, dgF q p g h' i → dgF q p g h i ∨ w.heap.size ≤ i := fun i f => by
  rcases f with f | f | f | f
  · exact .inl (.inl f)
  · exact .inl (.inr (.inl f))
  · exact .inl (.inr (.inr (.inl f)))
  · rcases hh with e | e
    · exact .inl (.inr (.inr (.inr (f.trans e))))
    · exact .inr (by omega)
set_option maxHeartbeats 1600000 in
theorem dgCompress_any {B q p g h : Nat} {kd l k : Int} {n : Nat} {L : List Nd} (w : World) (d : DgA w B q p g h kd l k n L) (hn : n ≤ 400) :
    Calls Tryz.prog 25 #[.pointer (some ⟨q, 0, none⟩)] w (DgPost B q p g h kd l k n (pressW l k L) (pressN l k L : Int) w) := by
  have D := Lib.hid d
  have PT := Lib.hid (dgParts_any w d.box)
  have HU := Lib.hid (fun j hl hx => press_uniq (cap := capW L k) (j := j) d.po.roll hl hx)
  have HPW : Hid (pressW l k L = preA l (capW L k) L (pressJ l (capW L k) L) ∧ pressN l k L = pressJ l (capW L k) L) := ⟨rfl, rfl⟩
  have V := Lib.hid (dgV_press d.v).1
  have HK := Lib.hid d.isk
  clear d
  generalize pressW l k L = M at *
  generalize pressN l k L = x at *
  generalize hcap : capW L k = cap at *
  go_enter Tryz.func25, Tryz.ntmps25
  go_wp2_with fail
  refine PT.out.mono ?_
  rintro e w1 ⟨rfl, hb1⟩
  have hb2 := hb1.alloc hb1.size (.cells #[.int .i64 l, .int .i64 k, .int .i64 kd, .pointer (some ⟨p, 0, none⟩)] 82)
  have B2 := Lib.hid hb2
  have D2 := Lib.hid (D.out.below hb2)
  have RN := Lib.hid (prRun_any k _ D2.out.po hn HK.out)
  rw [hcap] at RN
  clear hb1 hb2 hcap
  go_wp2_with fail
  generalize w1.alloc (.cells #[.int .i64 l, .int .i64 k, .int .i64 kd, .pointer (some ⟨p, 0, none⟩)] 82) = W at *
  refine RN.out.mono ?_
  rintro e w3 ⟨j, h', rfl, hl, hd, hc, hh⟩
  have ej := HU.out j hl.1 hl.2
  have hx : x = j := by rw [HPW.out.2]; exact ej.symm
  have hM : preA l cap L j = M := by rw [HPW.out.1, ← ej]
  rw [hM] at hd
  subst hx
  have E : Hid (DgPost B q p g h kd l k n M (x : Int) w (.returned (.int .i64 (x : Int))) w3) :=
    ⟨rfl, p, g, h', D2.out.po' hc hd V.out, (Kp.of (F := dgF q p g h) B2.out).trans hc.kp (fun i _ f => .inr (.inr f)), dgF_new (hh.imp (fun z => z) fun z => by have := B2.out.size; omega)⟩
  clear hl hd hc hh ej hM
  go_wp2_with fail
  go_ret
  exact E.out
theorem dgInsert_nil (x c : Int) (w : World) : Calls Tryz.prog 38 #[.pointer none, .int .i64 x, .int .i64 c] w fun e w' => e = .returned (.int .i64 1) ∧ w = w' := by
  go_enter Tryz.func38, Tryz.ntmps38
  go_wp2_with fail
  go_ret
  exact ⟨rfl, rfl⟩
theorem dgIns_end {B q p g h p' g' h' h2 : Nat} {kd l k : Int} {n m : Nat} {L2 M : List Nd} {w W w3 : World} (d : DgA W B q p' g' h' kd l k n L2) (kp : Kp (dgF q p g h) w W) (nw : ∀ i, dgF q p' g' h' i → dgF q p g h i ∨ w.heap.size ≤ i) (hd : PoA w3 B p' g' h2 kd l m M) (hc : Chg g' h' W w3) (hh : h2 = h' ∨ W.heap.size ≤ h2) (v : DgV l k M) (x : Int) :
    DgPost B q p g h kd l k m M x w (.returned (.int .i64 x)) w3 := by
  refine ⟨rfl, p', g', h2, d.po' hc hd v, kp.trans hc.kp (fun i hi f => ?_), fun i f => ?_⟩
  · rcases nw i (.inr (.inr f)) with z | z
    · exact z
    · omega
  · rcases dgF_new (q := q) (p := p') (g := g') hh i f with z | z
    · exact nw i z
    · exact .inr (by have := kp.size; omega)
theorem dg_stay {B q p g h : Nat} {kd l k : Int} {n m : Nat} {L : List Nd} {w W : World} (d : DgA w B q p g h kd l k n L) (hm : n ≤ m) (hb : Below w.heap.size w W) (x : Int) : DgPost B q p g h kd l k m L x w (.returned (.int .i64 x)) W :=
  ⟨rfl, p, g, h, (d.below hb).more hm, Kp.of hb, fun i f => .inl f⟩
set_option maxHeartbeats 1600000 in
theorem dgInsert_no {B q p g h : Nat} {kd l k : Int} {n : Nat} {L : List Nd} (x cc : Int) (w : World) (d : DgA w B q p g h kd l k n L) (hn : n ≤ 400) (he : ¬ dgE l L x cc = 0)
    (A0 : -9223372036854775808 ≤ x) (A1 : x ≤ 9223372036854775807) :
    Calls Tryz.prog 38 #[.pointer (some ⟨q, 0, none⟩), .int .i64 x, .int .i64 cc] w (DgPost B q p g h kd l k (n + 1) L (dgE l L x cc) w) := by
  obtain ⟨x0, x1, x2, x3⟩ := d.cells
  have u := d.po.uni
  have LF := Lib.hid (fun w => leaf_any l x w (by omega) (by omega) A0 A1)
  have D := Lib.hid d
  by_cases hv : ValC l x
  · obtain ⟨v1, v2⟩ := leaf_yes hv
    rw [v2] at LF
    by_cases h1 : cc < 1
    · rw [dgE_zero hv h1]
      have c1 : decide (cc < 1) = true := decide_eq_true h1
      clear d hv h1 v1 v2 he
      go_enter Tryz.func38, Tryz.ntmps38
      go_wp2_with (go_at_call 66; refine (LF.out _).mono ?_; rintro e w1 ⟨rfl, rfl⟩)
      go_ret
      exact dg_stay D.out (by omega) (Below.refl _ _) _
    · by_cases h2 : 72057594037927935 - sumC L < cc
      · rw [dgE_full hv h1 h2]
        have c1 : decide (cc < 1) = false := decide_eq_false h1
        have c2 : decide (72057594037927935 - sumC L < cc) = true := decide_eq_true h2
        have nn := good_nonneg (roll_good d.po.roll)
        have s0 : 0 ≤ sumC L := Int.le_trans (sum_le nn 0).1 (sum_le nn 0).2
        have s1 := d.po.roll.2.2.2.2
        have hw : IntKind.i64.wrap (72057594037927935 - sumC L) = 72057594037927935 - sumC L := wrap_lit rfl (by omega) (by omega)
        have NN := Lib.hid (dgN_any w d.box d.po (by omega))
        clear d hv h1 h2 v1 v2 he nn
        generalize sumC L = s at *
        go_enter Tryz.func38, Tryz.ntmps38
        go_wp2_with (first | (go_at_call 66; refine (LF.out _).mono ?_; rintro e w1 ⟨rfl, rfl⟩) | (go_at_call 21; refine NN.out.mono ?_; rintro e w2 ⟨rfl, hb2⟩))
        go_ret
        exact dg_stay D.out (by omega) hb2 _
      · exact absurd (dgE_ok hv h1 h2) he
  · rw [dgE_val hv]
    obtain ⟨v1, v2⟩ := leaf_no hv
    rw [v2] at LF
    clear d hv v1 v2 he
    go_enter Tryz.func38, Tryz.ntmps38
    go_wp2_with (go_at_call 66; refine (LF.out _).mono ?_; rintro e w1 ⟨rfl, rfl⟩)
    go_ret
    exact dg_stay D.out (by omega) (Below.refl _ _) _
set_option maxHeartbeats 6400000 in
theorem dgInsert_ok {B q p g h : Nat} {kd l k : Int} {n : Nat} {L : List Nd} (x cc : Int) (w : World) (d : DgA w B q p g h kd l k n L) (hn : n ≤ 400) (he : dgE l L x cc = 0)
    (A0 : -9223372036854775808 ≤ x) (A1 : x ≤ 9223372036854775807) (B0 : -9223372036854775808 ≤ cc) (B1 : cc ≤ 9223372036854775807) :
    Calls Tryz.prog 38 #[.pointer (some ⟨q, 0, none⟩), .int .i64 x, .int .i64 cc] w (DgPost B q p g h kd l k (n + 1) (dgIns l k L x cc) 0 w) := by
  obtain ⟨x0, x1, x2, x3⟩ := d.cells
  have u := d.po.uni
  have LF := Lib.hid (fun w => leaf_any l x w (by omega) (by omega) A0 A1)
  have D := Lib.hid d
  have VN := Lib.hid (dgV_ins d.v x cc)
  obtain ⟨hv, h1, h2⟩ := dgE_yes he
  rw [(leaf_yes hv).2] at LF
  have lf := leaf_right hv
  have rb := right_yes lf.1
  have c1 : decide (cc < 1) = false := decide_eq_false h1
  have c2 : decide (72057594037927935 - sumC L < cc) = false := decide_eq_false (by omega)
  have nn := good_nonneg (roll_good d.po.roll)
  have s0 : 0 ≤ sumC L := Int.le_trans (sum_le nn 0).1 (sum_le nn 0).2
  have s1 := d.po.roll.2.2.2.2
  have hw : IntKind.i64.wrap (72057594037927935 - sumC L) = 72057594037927935 - sumC L := wrap_lit rfl (by omega) (by omega)
  have kb1 := d.v.k1
  have kb2 := d.v.k2
  have lb := lf.2.2.1
  have lb2 := lf.2.2.2
  have NN := Lib.hid (dgN_any w d.box d.po (by omega))
  have GT := Lib.hid (fun w1 hb => read_below (poGet_any (leafN l x) w1 (d.po.below hb) (by omega) (by omega) (by omega)))
  have R := Lib.hid (dgRoom_is d.v x)
  have HIN : Hid (dgIns l k L x cc = insW (dgRoom l k L x) (leafN l x) cc) := if_pos he
  have AD := Lib.hid (addS_ins (L := dgRoom l k L x) (c := cc) rb h1 (by rw [R.out.2.1]; exact h2))
  have LN := Lib.hid d.v.len
  have PN := Lib.hid d.po.len
  have RM : Hid (dgRoom l k L x = if sumAt (leafN l x) L = 0 ∧ (L.length : Int) = 8 * k then pressW l k L else L) := rfl
  rw [HIN.out] at VN ⊢
  clear d nn h2 lf rb HIN he hv h1
  generalize leafN l x = leaf at *
  generalize dgRoom l k L x = L2 at *
  by_cases hs : sumAt leaf L = 0
  · have z1 : (sumAt leaf L == 0) = true := beq_iff_eq.2 hs
    have GL := Lib.hid (fun w1 hb => dgLen_any w1 (D.out.below hb).box (D.out.below hb).po (by omega))
    have GR := Lib.hid (fun w1 hb => dgRoom_any w1 (D.out.below hb).box kb1 kb2)
    by_cases hl : (L.length : Int) = 8 * k
    · have e : L2 = pressW l k L := by rw [RM.out, if_pos ⟨hs, hl⟩]
      have z2 : decide (8 * k ≤ (L.length : Int)) = true := decide_eq_true (by omega)
      have CP := Lib.hid (fun w1 hb => dgCompress_any w1 (D.out.below hb) hn)
      rw [← e] at CP
      clear RM hs hl e
      generalize ((L.length : Nat) : Int) = len at *
      generalize sumAt leaf L = sl at *
      generalize sumC L = s at *
      go_enter Tryz.func38, Tryz.ntmps38
      go_wp2_with fail
      refine (LF.out _).mono ?_
      rintro e w1 ⟨rfl, rfl⟩
      go_wp2_with fail
      refine NN.out.mono ?_
      rintro e w2 ⟨rfl, hb2⟩
      have D2 := Lib.hid (D.out.below hb2)
      have BB2 := Lib.hid hb2
      obtain ⟨x0, x1, x2, x3⟩ := D2.out.cells
      clear hb2
      go_wp2_with fail
      refine (GT.out _ BB2.out).mono ?_
      rintro e w3 ⟨rfl, hb3⟩
      have BB3 := Lib.hid (BB2.out.trans (hb3.mono BB2.out.size))
      clear hb3
      go_wp2_with fail
      refine (GL.out _ BB3.out).mono ?_
      rintro e w4 ⟨rfl, hb4⟩
      have BB4 := Lib.hid (BB3.out.trans (hb4.mono BB3.out.size))
      clear hb4
      go_wp2_with fail
      refine (GR.out _ BB4.out).mono ?_
      rintro e w5 ⟨rfl, hb5⟩
      have BB5 := Lib.hid (BB4.out.trans (hb5.mono BB4.out.size))
      clear hb5
      go_wp2_with fail
      refine (CP.out _ BB5.out).mono ?_
      rintro e w6 ⟨rfl, p', g', h', hd6, hk6, hn6⟩
      have D6 := Lib.hid hd6
      have K6 := Lib.hid ((Kp.of (F := dgF q p g h) BB5.out).trans hk6 (fun i _ f => f))
      have N6 : Hid (∀ i, dgF q p' g' h' i → dgF q p g h i ∨ w.heap.size ≤ i) := fun i f => (hn6 i f).imp (fun z => z) fun z => by have := BB5.out.size; omega
      obtain ⟨x0, x1, x2, x3⟩ := D6.out.cells
      have AA := Lib.hid (poAdd_n (n + 1) leaf cc w6 D6.out.po (by omega) (by omega) (by
        rw [AD.out.1, insW_len (roll_good D6.out.po.roll)]
        have a := R.out.2.2.1
        have b := PN.out
        split <;> omega) (by omega) (by omega) B0 B1)
      rw [AD.out.1, AD.out.2] at AA
      clear hd6 hk6 hn6
      go_wp2_with fail
      refine AA.out.mono ?_
      rintro e w7 ⟨rfl, h2, hd7, hc7, hh7⟩
      have E := Lib.hid (dgIns_end D6.out K6.out N6.out hd7 hc7 hh7 VN.out 0)
      clear hd7 hc7 hh7 AA
      go_wp2_with fail
      go_ret
      exact E.out
    · have e : L2 = L := by rw [RM.out, if_neg fun z => hl z.2]
      subst e
      have z2 : decide (8 * k ≤ (L2.length : Int)) = false := decide_eq_false (by have := LN.out; omega)
      have AA := Lib.hid (fun w1 hb => poAdd_n (n + 1) leaf cc w1 (D.out.below hb).po (by omega) (by omega) (by
        rw [AD.out.1, insW_len (roll_good D.out.po.roll)]
        have b := PN.out
        split <;> omega) (by omega) (by omega) B0 B1)
      rw [AD.out.1, AD.out.2] at AA
      clear RM hs hl
      generalize insW L2 leaf cc = M at *
      generalize ((L2.length : Nat) : Int) = len at *
      generalize sumAt leaf L2 = sl at *
      generalize sumC L2 = s at *
      go_enter Tryz.func38, Tryz.ntmps38
      go_wp2_with fail
      refine (LF.out _).mono ?_
      rintro e w1 ⟨rfl, rfl⟩
      go_wp2_with fail
      refine NN.out.mono ?_
      rintro e w2 ⟨rfl, hb2⟩
      have D2 := Lib.hid (D.out.below hb2)
      have BB2 := Lib.hid hb2
      obtain ⟨x0, x1, x2, x3⟩ := D2.out.cells
      clear hb2
      go_wp2_with fail
      refine (GT.out _ BB2.out).mono ?_
      rintro e w3 ⟨rfl, hb3⟩
      have BB3 := Lib.hid (BB2.out.trans (hb3.mono BB2.out.size))
      clear hb3
      go_wp2_with fail
      refine (GL.out _ BB3.out).mono ?_
      rintro e w4 ⟨rfl, hb4⟩
      have BB4 := Lib.hid (BB3.out.trans (hb4.mono BB3.out.size))
      clear hb4
      go_wp2_with fail
      refine (GR.out _ BB4.out).mono ?_
      rintro e w5 ⟨rfl, hb5⟩
      have BB5 := Lib.hid (BB4.out.trans (hb5.mono BB4.out.size))
      have D5 := Lib.hid (D.out.below BB5.out)
      obtain ⟨x0, x1, x2, x3⟩ := D5.out.cells
      clear hb5
      go_wp2_with fail
      refine (AA.out _ BB5.out).mono ?_
      rintro e w7 ⟨rfl, h2, hd7, hc7, hh7⟩
      have E := Lib.hid (dgIns_end D5.out (Kp.of (F := dgF q p g h) BB5.out) (fun i f => .inl f) hd7 hc7 hh7 VN.out 0)
      clear hd7 hc7 hh7 AA
      go_wp2_with fail
      go_ret
      exact E.out
  · have e : L2 = L := by rw [RM.out, if_neg fun z => hs z.1]
    subst e
    have z1 : (sumAt leaf L2 == 0) = false := beq_eq_false_iff_ne.2 hs
    have AA := Lib.hid (fun w1 hb => poAdd_n (n + 1) leaf cc w1 (D.out.below hb).po (by omega) (by omega) (by
      rw [AD.out.1, insW_len (roll_good D.out.po.roll)]
      have b := PN.out
      split <;> omega) (by omega) (by omega) B0 B1)
    rw [AD.out.1, AD.out.2] at AA
    clear RM hs
    generalize insW L2 leaf cc = M at *
    generalize sumAt leaf L2 = sl at *
    generalize sumC L2 = s at *
    go_enter Tryz.func38, Tryz.ntmps38
    go_wp2_with fail
    refine (LF.out _).mono ?_
    rintro e w1 ⟨rfl, rfl⟩
    go_wp2_with fail
    refine NN.out.mono ?_
    rintro e w2 ⟨rfl, hb2⟩
    have D2 := Lib.hid (D.out.below hb2)
    have BB2 := Lib.hid hb2
    obtain ⟨x0, x1, x2, x3⟩ := D2.out.cells
    clear hb2
    go_wp2_with fail
    refine (GT.out _ BB2.out).mono ?_
    rintro e w3 ⟨rfl, hb3⟩
    have BB3 := Lib.hid (BB2.out.trans (hb3.mono BB2.out.size))
    have D3 := Lib.hid (D.out.below BB3.out)
    obtain ⟨x0, x1, x2, x3⟩ := D3.out.cells
    clear hb3
    go_wp2_with fail
    refine (AA.out _ BB3.out).mono ?_
    rintro e w7 ⟨rfl, h2, hd7, hc7, hh7⟩
    have E := Lib.hid (dgIns_end D3.out (Kp.of (F := dgF q p g h) BB3.out) (fun i f => .inl f) hd7 hc7 hh7 VN.out 0)
    clear hd7 hc7 hh7 AA
    go_wp2_with fail
    go_ret
    exact E.out
theorem dgInsert_any {B q p g h : Nat} {kd l k : Int} {n : Nat} {L : List Nd} (x cc : Int) (w : World) (d : DgA w B q p g h kd l k n L) (hn : n ≤ 400)
    (A0 : -9223372036854775808 ≤ x) (A1 : x ≤ 9223372036854775807) (B0 : -9223372036854775808 ≤ cc) (B1 : cc ≤ 9223372036854775807) :
    Calls Tryz.prog 38 #[.pointer (some ⟨q, 0, none⟩), .int .i64 x, .int .i64 cc] w (DgPost B q p g h kd l k (n + 1) (dgIns l k L x cc) (dgE l L x cc) w) := by
  by_cases he : dgE l L x cc = 0
  · have z := dgInsert_ok x cc w d hn he A0 A1 B0 B1
    rw [he]
    exact z
  · rw [dgIns_no he]
    exact dgInsert_no x cc w d hn he A0 A1

end Go.Proofs.YtfilmblpikcpnaaGreat
