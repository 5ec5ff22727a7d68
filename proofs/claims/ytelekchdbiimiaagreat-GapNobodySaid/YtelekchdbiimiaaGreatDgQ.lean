/- Texts laid together: Dg, Dg2, Dg3, Dg4, RnkNum, QuNum, Flt, Sp, RnkK, QuK. -/
import Derived.Test.YtelekchdbiimiaaGreatDgN
import Derived.Test.YtelekchdbiimiaaGreatPrP
import Derived.Test.YtelekchdbiimiaaGreatPoQ
import Derived.Deep.RegionHeld3
import Derived.Laws.StructEq
import Derived.Laws.ComplexArith
import Derived.Test.YtelekchdbiimiaaGreatRkT
import Derived.Test.YtelekchdbiimiaaGreatMmy
import Derived.Test.YtelekchdbiimiaaGreatPln
namespace Go.Proofs.YtelekchdbiimiaaGreat
set_option linter.unusedVariables false
set_option maxRecDepth 100000
open Go.RowKit
theorem body_conf (a b c : Int) (x : Option Addr) : ∀ w, (Instr.field 110 (.agg #[.int .i64 a, .int .i64 b, .int .i64 c, .pointer x]) 0).run Tryz.prog w = .ok (.agg #[.int .i64 a, .int .i64 b, .int .i64 c]) w := fun w => by kernel_rfl
theorem body_pool (a b c : Int) (x : Option Addr) : ∀ w, (Instr.field 110 (.agg #[.int .i64 a, .int .i64 b, .int .i64 c, .pointer x]) 1).run Tryz.prog w = .ok (.pointer x) w := fun w => by kernel_rfl
theorem conf_k (a b c : Int) : ∀ w, (Instr.field 23 (.agg #[.int .i64 a, .int .i64 b, .int .i64 c]) 1).run Tryz.prog w = .ok (.int .i64 b) w := fun w => by kernel_rfl
/-- a digest's box: its four cells, and where it lies -/
structure DgT4 (w : World) (B q p : Nat) (l k kd : Int) : Prop where
  top : w.ownsRow B 112 4 (.slice (some ⟨q, 0, none⟩) 1 1) 1 (dgCells l k kd p)
theorem DgT4.below {w w' : World} {B q p : Nat} {l k kd : Int} (d : DgT4 w B q p l k kd) (hb : Below w.heap.size w w') : DgT4 w' B q p l k kd := ⟨own_below d.top hb⟩
theorem DgA.box {w : World} {B q p g h : Nat} {kd l k : Int} {n : Nat} {L : List Nd} (d : DgA w B q p g h kd l k n L) : DgT4 w B q p l k kd := ⟨d.top⟩
theorem dgParts_any {B q p : Nat} {l k kd : Int} (w : World) (d : DgT4 w B q p l k kd) : Calls Tryz.prog 47 #[.pointer (some ⟨q, 0, none⟩)] w fun e w' => e = .returned (.agg #[.int .i64 l, .int .i64 k, .int .i64 kd, .pointer (some ⟨p, 0, none⟩)]) ∧ Below w.heap.size w w' := by
  have HB : Hid (∀ x y z u, Below w.heap.size w (w.alloc (.cells #[x, y, z, u] 110))) := fun x y z u => (Below.refl _ _).alloc (Nat.le_refl _) _
  obtain ⟨c0, c1, c2, c3, _, _, _, _, hz⟩ := quad_all d.top
  clear d
  go_enter Tryz.func47, Tryz.ntmps47
  go_wp2_with fail
  exact bodyPost_ret (v := .agg #[.int .i64 l, .int .i64 k, .int .i64 kd, .pointer (some ⟨p, 0, none⟩)]) (by simp [results, Tryz.results47, go_sem]) rfl ⟨rfl, HB.out _ _ _ _⟩
theorem dgConf_any {B q p : Nat} {l k kd : Int} (w : World) (d : DgT4 w B q p l k kd) : Calls Tryz.prog 54 #[.pointer (some ⟨q, 0, none⟩)] w fun e w' => e = .returned (.agg #[.int .i64 l, .int .i64 k, .int .i64 kd]) ∧ Below w.heap.size w w' := by
  have HB : Hid (Below w.heap.size w (w.alloc (.cells #[.int .i64 0, .int .i64 0, .int .i64 0] 23))) := (Below.refl _ _).alloc (Nat.le_refl _) _
  have X := Lib.hid (tri_nw w 23 (.int .i64 0) (.int .i64 0) (.int .i64 0))
  have F := body_conf l k kd (some ⟨p, 0, none⟩)
  have PT := Lib.hid (dgParts_any _ (d.below HB.out))
  clear d
  go_enter Tryz.func54, Tryz.ntmps54
  go_wp2_with fail
  generalize w.alloc (.cells #[.int .i64 0, .int .i64 0, .int .i64 0] 23) = W at *
  refine PT.out.mono ?_
  rintro e w1 ⟨rfl, hb1⟩
  have X1 := Lib.hid (own_below X.out hb1)
  obtain ⟨y0, y1, y2, f0, f1, f2, hz2⟩ := tri_all X1.out
  obtain ⟨q0, q1, q2⟩ := set_three X1.out (.int .i64 l) (.int .i64 k) (.int .i64 kd)
  have B1 := Lib.hid ((HB.out.trans (hb1.mono HB.out.size)).trans (tri_set X1.out (.int .i64 l) (.int .i64 k) (.int .i64 kd)).2.2.1)
  clear hb1
  go_wp2_with fail
  exact bodyPost_ret (v := .agg #[.int .i64 l, .int .i64 k, .int .i64 kd]) (by simp [results, Tryz.results54, go_sem, q0, q1, q2]) rfl ⟨rfl, B1.out⟩
theorem dgN_any {B q p g h : Nat} {l k kd : Int} {n : Nat} {L : List Nd} (w : World) (d : DgT4 w B q p l k kd) (o : PoA w B p g h kd l n L) (hn : n ≤ 1000) : Calls Tryz.prog 22 #[.pointer (some ⟨q, 0, none⟩)] w fun e w' => e = .returned (.int .i64 (sumC L)) ∧ Below w.heap.size w w' := by
  have F := body_pool l k kd (some ⟨p, 0, none⟩)
  have PT := Lib.hid (dgParts_any _ d)
  have TT := Lib.hid (fun w1 hb => read_below (poTotal_any w1 (o.below hb) hn))
  clear d o
  generalize sumC L = s at *
  go_enter Tryz.func22, Tryz.ntmps22
  go_wp2_with (first | (go_at_call 47; refine PT.out.mono ?_; rintro e w1 ⟨rfl, hb1⟩) | (go_at_call 48; refine (TT.out _ hb1).mono ?_; rintro e w2 ⟨rfl, hb2⟩))
  go_ret
  exact ⟨rfl, hb1.trans (hb2.mono hb1.size)⟩
theorem dgLen_any {B q p g h : Nat} {l k kd : Int} {n : Nat} {L : List Nd} (w : World) (d : DgT4 w B q p l k kd) (o : PoA w B p g h kd l n L) (hn : n ≤ 1000) : Calls Tryz.prog 51 #[.pointer (some ⟨q, 0, none⟩)] w fun e w' => e = .returned (.int .i64 (L.length : Int)) ∧ Below w.heap.size w w' := by
  have F := body_pool l k kd (some ⟨p, 0, none⟩)
  have PT := Lib.hid (dgParts_any _ d)
  have TT := Lib.hid (fun w1 hb => read_below (poLen_any w1 (o.below hb) hn))
  clear d o
  generalize ((L.length : Nat) : Int) = s at *
  go_enter Tryz.func51, Tryz.ntmps51
  go_wp2_with (first | (go_at_call 47; refine PT.out.mono ?_; rintro e w1 ⟨rfl, hb1⟩) | (go_at_call 93; refine (TT.out _ hb1).mono ?_; rintro e w2 ⟨rfl, hb2⟩))
  go_ret
  exact ⟨rfl, hb1.trans (hb2.mono hb1.size)⟩
theorem dgNodes_any {B q p g h : Nat} {l k kd : Int} {n : Nat} {L : List Nd} (w : World) (d : DgT4 w B q p l k kd) (o : PoA w B p g h kd l n L) (hn : n ≤ 1000) : Calls Tryz.prog 105 #[.pointer (some ⟨q, 0, none⟩)] w (ListOwn 77 L w) := by
  have F := body_pool l k kd (some ⟨p, 0, none⟩)
  have PT := Lib.hid (dgParts_any _ d)
  have TT := Lib.hid (fun w1 hb => poSnap_any w1 (o.below hb) hn)
  clear d o
  go_enter Tryz.func105, Tryz.ntmps105
  go_wp2_with (first | (go_at_call 47; refine PT.out.mono ?_; rintro e w1 ⟨rfl, hb1⟩) | (go_at_call 140; refine (TT.out _ hb1).mono ?_; rintro e w2 ⟨A3, m3, c3, rfl, ho, hb2⟩))
  go_ret
  exact ⟨A3, m3, c3, rfl, own_low ho hb1.size, hb1.trans (hb2.mono hb1.size)⟩
theorem dgRoom_any {B q p : Nat} {l k kd : Int} (w : World) (d : DgT4 w B q p l k kd) (k1 : 1 ≤ k) (k2 : k ≤ 1048576) : Calls Tryz.prog 52 #[.pointer (some ⟨q, 0, none⟩)] w fun e w' => e = .returned (.int .i64 (8 * k)) ∧ Below w.heap.size w w' := by
  have F := body_conf l k kd (some ⟨p, 0, none⟩)
  have F2 := conf_k l k kd
  have hw8 : IntKind.i64.wrap (8 * k) = 8 * k := wrap_lit rfl (by omega) (by omega)
  have PT := Lib.hid (dgParts_any _ d)
  clear d
  go_enter Tryz.func52, Tryz.ntmps52
  go_wp2_with (first | (go_at_call 47; refine PT.out.mono ?_; rintro e w1 ⟨rfl, hb1⟩))
  go_ret
  exact ⟨rfl, hb1⟩
end Go.Proofs.YtelekchdbiimiaaGreat
namespace Go.Proofs.YtelekchdbiimiaaGreat
set_option linter.unusedVariables false
set_option maxRecDepth 100000
open Go.RowKit
theorem dgF_new {q p g h h' : Nat} {w : World} (hh : h' = h ∨ w.heap.size ≤ h') : ∀ i, dgF q p g h' i → dgF q p g h i ∨ w.heap.size ≤ i := fun i f => by
  rcases f with f | f | f | f
  · exact .inl (.inl f)
  · exact .inl (.inr (.inl f))
  · exact .inl (.inr (.inr (.inl f)))
  · rcases hh with e | e
    · exact .inl (.inr (.inr (.inr (f.trans e))))
    · exact .inr (by omega)
set_option maxHeartbeats 1600000 in
theorem dgCompress_any {B q p g h : Nat} {kd l k : Int} {n : Nat} {L : List Nd} (w : World) (d : DgA w B q p g h kd l k n L) (hn : n ≤ 400) :
    Calls Tryz.prog 75 #[.pointer (some ⟨q, 0, none⟩)] w (DgPost B q p g h kd l k n (pressW l k L) (pressN l k L : Int) w) := by
  have D := Lib.hid d
  have PT := Lib.hid (dgParts_any w d.box)
  have HU := Lib.hid (fun j hl hx => press_uniq (cap := capW L k) (j := j) d.po.roll hl hx)
  have HPW : Hid (pressW l k L = preA l (capW L k) L (pressJ l (capW L k) L) ∧ pressN l k L = pressJ l (capW L k) L) := ⟨rfl, rfl⟩
  have V := Lib.hid (dgV_press d.v).1
  have HK := Lib.hid d.isk
  clear d
  generalize pressW l k L = M at *
  generalize pressN l k L = x at *
  generalize hcap : capW L k = cap at *
  go_enter Tryz.func75, Tryz.ntmps75
  go_wp2_with fail
  refine PT.out.mono ?_
  rintro e w1 ⟨rfl, hb1⟩
  have hb2 := hb1.alloc hb1.size (.cells #[.int .i64 l, .int .i64 k, .int .i64 kd, .pointer (some ⟨p, 0, none⟩)] 110)
  have B2 := Lib.hid hb2
  have D2 := Lib.hid (D.out.below hb2)
  have RN := Lib.hid (prRun_any k _ D2.out.po hn HK.out)
  rw [hcap] at RN
  clear hb1 hb2 hcap
  go_wp2_with fail
  generalize w1.alloc (.cells #[.int .i64 l, .int .i64 k, .int .i64 kd, .pointer (some ⟨p, 0, none⟩)] 110) = W at *
  refine RN.out.mono ?_
  rintro e w3 ⟨j, h', rfl, hl, hd, hc, hh⟩
  have ej := HU.out j hl.1 hl.2
  have hx : x = j := by rw [HPW.out.2]; exact ej.symm
  have hM : preA l cap L j = M := by rw [HPW.out.1, ← ej]
  rw [hM] at hd
  subst hx
  have E : Hid (DgPost B q p g h kd l k n M (x : Int) w (.returned (.int .i64 (x : Int))) w3) :=
    ⟨rfl, p, g, h', D2.out.po' hc hd V.out, (Kp.of (F := dgF q p g h) B2.out).trans hc.kp (fun i _ f => .inr (.inr f)), dgF_new (hh.imp (fun z => z) fun z => by have := B2.out.size; omega)⟩
  clear hl hd hc hh ej hM
  go_wp2_with fail
  go_ret
  exact E.out
theorem dgIns_end {B q p g h p' g' h' h2 : Nat} {kd l k : Int} {n m : Nat} {L2 M : List Nd} {w W w3 : World} (d : DgA W B q p' g' h' kd l k n L2) (kp : Kp (dgF q p g h) w W) (nw : ∀ i, dgF q p' g' h' i → dgF q p g h i ∨ w.heap.size ≤ i) (hd : PoA w3 B p' g' h2 kd l m M) (hc : Chg g' h' W w3) (hh : h2 = h' ∨ W.heap.size ≤ h2) (v : DgV l k M) (x : Int) :
    DgPost B q p g h kd l k m M x w (.returned (.int .i64 x)) w3 := by
  refine ⟨rfl, p', g', h2, d.po' hc hd v, kp.trans hc.kp (fun i hi f => ?_), fun i f => ?_⟩
  · rcases nw i (.inr (.inr f)) with z | z
    · exact z
    · omega
  · rcases dgF_new (q := q) (p := p') (g := g') hh i f with z | z
    · exact nw i z
    · exact .inr (by have := kp.size; omega)
theorem dg_stay {B q p g h : Nat} {kd l k : Int} {n m : Nat} {L : List Nd} {w W : World} (d : DgA w B q p g h kd l k n L) (hm : n ≤ m) (hb : Below w.heap.size w W) (x : Int) : DgPost B q p g h kd l k m L x w (.returned (.int .i64 x)) W :=
  ⟨rfl, p, g, h, (d.below hb).more hm, Kp.of hb, fun i f => .inl f⟩
set_option maxHeartbeats 1600000 in
theorem dgInsert_no {B q p g h : Nat} {kd l k : Int} {n : Nat} {L : List Nd} (x cc : Int) (w : World) (d : DgA w B q p g h kd l k n L) (hn : n ≤ 400) (he : ¬ dgE l L x cc = 0)
    (A0 : -9223372036854775808 ≤ x) (A1 : x ≤ 9223372036854775807) :
    Calls Tryz.prog 77 #[.pointer (some ⟨q, 0, none⟩), .int .i64 x, .int .i64 cc] w (DgPost B q p g h kd l k (n + 1) L (dgE l L x cc) w) := by
  obtain ⟨x0, x1, x2, x3⟩ := d.cells
  have u := d.po.uni
  have LF := Lib.hid (fun w => leaf_any l x w (by omega) (by omega) A0 A1)
  have D := Lib.hid d
  by_cases hv : ValC l x
  · obtain ⟨v1, v2⟩ := leaf_yes hv
    rw [v2] at LF
    by_cases h1 : cc < 1
    · rw [dgE_zero hv h1]
      have c1 : decide (cc < 1) = true := decide_eq_true h1
      clear d hv h1 v1 v2 he
      go_enter Tryz.func77, Tryz.ntmps77
      go_wp2_with (go_at_call 120; refine (LF.out _).mono ?_; rintro e w1 ⟨rfl, rfl⟩)
      go_ret
      exact dg_stay D.out (by omega) (Below.refl _ _) _
    · by_cases h2 : 72057594037927935 - sumC L < cc
      · rw [dgE_full hv h1 h2]
        have c1 : decide (cc < 1) = false := decide_eq_false h1
        have c2 : decide (72057594037927935 - sumC L < cc) = true := decide_eq_true h2
        have nn := good_nonneg (roll_good d.po.roll)
        have s0 : 0 ≤ sumC L := Int.le_trans (sum_le nn 0).1 (sum_le nn 0).2
        have s1 := d.po.roll.2.2.2.2
        have hw : IntKind.i64.wrap (72057594037927935 - sumC L) = 72057594037927935 - sumC L := wrap_lit rfl (by omega) (by omega)
        have NN := Lib.hid (dgN_any w d.box d.po (by omega))
        clear d hv h1 h2 v1 v2 he nn
        generalize sumC L = s at *
        go_enter Tryz.func77, Tryz.ntmps77
        go_wp2_with (first | (go_at_call 120; refine (LF.out _).mono ?_; rintro e w1 ⟨rfl, rfl⟩) | (go_at_call 22; refine NN.out.mono ?_; rintro e w2 ⟨rfl, hb2⟩))
        go_ret
        exact dg_stay D.out (by omega) hb2 _
      · exact absurd (dgE_ok hv h1 h2) he
  · rw [dgE_val hv]
    obtain ⟨v1, v2⟩ := leaf_no hv
    rw [v2] at LF
    clear d hv v1 v2 he
    go_enter Tryz.func77, Tryz.ntmps77
    go_wp2_with (go_at_call 120; refine (LF.out _).mono ?_; rintro e w1 ⟨rfl, rfl⟩)
    go_ret
    exact dg_stay D.out (by omega) (Below.refl _ _) _
set_option maxHeartbeats 6400000 in
theorem dgInsert_ok {B q p g h : Nat} {kd l k : Int} {n : Nat} {L : List Nd} (x cc : Int) (w : World) (d : DgA w B q p g h kd l k n L) (hn : n ≤ 400) (he : dgE l L x cc = 0)
    (A0 : -9223372036854775808 ≤ x) (A1 : x ≤ 9223372036854775807) (B0 : -9223372036854775808 ≤ cc) (B1 : cc ≤ 9223372036854775807) :
    Calls Tryz.prog 77 #[.pointer (some ⟨q, 0, none⟩), .int .i64 x, .int .i64 cc] w (DgPost B q p g h kd l k (n + 1) (dgIns l k L x cc) 0 w) := by
  obtain ⟨x0, x1, x2, x3⟩ := d.cells
  have u := d.po.uni
  have LF := Lib.hid (fun w => leaf_any l x w (by omega) (by omega) A0 A1)
  have D := Lib.hid d
  have VN := Lib.hid (dgV_ins d.v x cc)
  obtain ⟨hv, h1, h2⟩ := dgE_yes he
  rw [(leaf_yes hv).2] at LF
  have lf := leaf_right hv
  have rb := right_yes lf.1
  have c1 : decide (cc < 1) = false := decide_eq_false h1
  have c2 : decide (72057594037927935 - sumC L < cc) = false := decide_eq_false (by omega)
  have nn := good_nonneg (roll_good d.po.roll)
  have s0 : 0 ≤ sumC L := Int.le_trans (sum_le nn 0).1 (sum_le nn 0).2
  have s1 := d.po.roll.2.2.2.2
  have hw : IntKind.i64.wrap (72057594037927935 - sumC L) = 72057594037927935 - sumC L := wrap_lit rfl (by omega) (by omega)
  have kb1 := d.v.k1
  have kb2 := d.v.k2
  have lb := lf.2.2.1
  have lb2 := lf.2.2.2
  have NN := Lib.hid (dgN_any w d.box d.po (by omega))
  have GT := Lib.hid (fun w1 hb => read_below (poGet_any (leafN l x) w1 (d.po.below hb) (by omega) (by omega) (by omega)))
  have R := Lib.hid (dgRoom_is d.v x)
  have HIN : Hid (dgIns l k L x cc = insW (dgRoom l k L x) (leafN l x) cc) := if_pos he
  have AD := Lib.hid (addS_ins (L := dgRoom l k L x) (c := cc) rb h1 (by rw [R.out.2.1]; exact h2))
  have LN := Lib.hid d.v.len
  have PN := Lib.hid d.po.len
  have RM : Hid (dgRoom l k L x = if sumAt (leafN l x) L = 0 ∧ (L.length : Int) = 8 * k then pressW l k L else L) := rfl
  rw [HIN.out] at VN ⊢
  clear d nn h2 lf rb HIN he hv h1
  generalize leafN l x = leaf at *
  generalize dgRoom l k L x = L2 at *
  by_cases hs : sumAt leaf L = 0
  · have z1 : (sumAt leaf L == 0) = true := beq_iff_eq.2 hs
    have GL := Lib.hid (fun w1 hb => dgLen_any w1 (D.out.below hb).box (D.out.below hb).po (by omega))
    have GR := Lib.hid (fun w1 hb => dgRoom_any w1 (D.out.below hb).box kb1 kb2)
    by_cases hl : (L.length : Int) = 8 * k
    · have e : L2 = pressW l k L := by rw [RM.out, if_pos ⟨hs, hl⟩]
      have z2 : decide (8 * k ≤ (L.length : Int)) = true := decide_eq_true (by omega)
      have CP := Lib.hid (fun w1 hb => dgCompress_any w1 (D.out.below hb) hn)
      rw [← e] at CP
      clear RM hs hl e
      generalize ((L.length : Nat) : Int) = len at *
      generalize sumAt leaf L = sl at *
      generalize sumC L = s at *
      go_enter Tryz.func77, Tryz.ntmps77
      go_wp2_with fail
      refine (LF.out _).mono ?_
      rintro e w1 ⟨rfl, rfl⟩
      go_wp2_with fail
      refine NN.out.mono ?_
      rintro e w2 ⟨rfl, hb2⟩
      have D2 := Lib.hid (D.out.below hb2)
      have BB2 := Lib.hid hb2
      obtain ⟨x0, x1, x2, x3⟩ := D2.out.cells
      clear hb2
      go_wp2_with fail
      refine (GT.out _ BB2.out).mono ?_
      rintro e w3 ⟨rfl, hb3⟩
      have BB3 := Lib.hid (BB2.out.trans (hb3.mono BB2.out.size))
      clear hb3
      go_wp2_with fail
      refine (GL.out _ BB3.out).mono ?_
      rintro e w4 ⟨rfl, hb4⟩
      have BB4 := Lib.hid (BB3.out.trans (hb4.mono BB3.out.size))
      clear hb4
      go_wp2_with fail
      refine (GR.out _ BB4.out).mono ?_
      rintro e w5 ⟨rfl, hb5⟩
      have BB5 := Lib.hid (BB4.out.trans (hb5.mono BB4.out.size))
      clear hb5
      go_wp2_with fail
      refine (CP.out _ BB5.out).mono ?_
      rintro e w6 ⟨rfl, p', g', h', hd6, hk6, hn6⟩
      have D6 := Lib.hid hd6
      have K6 := Lib.hid ((Kp.of (F := dgF q p g h) BB5.out).trans hk6 (fun i _ f => f))
      have N6 : Hid (∀ i, dgF q p' g' h' i → dgF q p g h i ∨ w.heap.size ≤ i) := fun i f => (hn6 i f).imp (fun z => z) fun z => by have := BB5.out.size; omega
      obtain ⟨x0, x1, x2, x3⟩ := D6.out.cells
      have AA := Lib.hid (poAdd_n (n + 1) leaf cc w6 D6.out.po (by omega) (by omega) (by
        rw [AD.out.1, insW_len (roll_good D6.out.po.roll)]
        have a := R.out.2.2.1
        have b := PN.out
        split <;> omega) (by omega) (by omega) B0 B1)
      rw [AD.out.1, AD.out.2] at AA
      clear hd6 hk6 hn6
      go_wp2_with fail
      refine AA.out.mono ?_
      rintro e w7 ⟨rfl, h2, hd7, hc7, hh7⟩
      have E := Lib.hid (dgIns_end D6.out K6.out N6.out hd7 hc7 hh7 VN.out 0)
      clear hd7 hc7 hh7 AA
      go_wp2_with fail
      go_ret
      exact E.out
    · have e : L2 = L := by rw [RM.out, if_neg fun z => hl z.2]
      subst e
      have z2 : decide (8 * k ≤ (L2.length : Int)) = false := decide_eq_false (by have := LN.out; omega)
      have AA := Lib.hid (fun w1 hb => poAdd_n (n + 1) leaf cc w1 (D.out.below hb).po (by omega) (by omega) (by
        rw [AD.out.1, insW_len (roll_good D.out.po.roll)]
        have b := PN.out
        split <;> omega) (by omega) (by omega) B0 B1)
      rw [AD.out.1, AD.out.2] at AA
      clear RM hs hl
      generalize insW L2 leaf cc = M at *
      generalize ((L2.length : Nat) : Int) = len at *
      generalize sumAt leaf L2 = sl at *
      generalize sumC L2 = s at *
      go_enter Tryz.func77, Tryz.ntmps77
      go_wp2_with fail
      refine (LF.out _).mono ?_
      rintro e w1 ⟨rfl, rfl⟩
      go_wp2_with fail
      refine NN.out.mono ?_
      rintro e w2 ⟨rfl, hb2⟩
      have D2 := Lib.hid (D.out.below hb2)
      have BB2 := Lib.hid hb2
      obtain ⟨x0, x1, x2, x3⟩ := D2.out.cells
      clear hb2
      go_wp2_with fail
      refine (GT.out _ BB2.out).mono ?_
      rintro e w3 ⟨rfl, hb3⟩
      have BB3 := Lib.hid (BB2.out.trans (hb3.mono BB2.out.size))
      clear hb3
      go_wp2_with fail
      refine (GL.out _ BB3.out).mono ?_
      rintro e w4 ⟨rfl, hb4⟩
      have BB4 := Lib.hid (BB3.out.trans (hb4.mono BB3.out.size))
      clear hb4
      go_wp2_with fail
      refine (GR.out _ BB4.out).mono ?_
      rintro e w5 ⟨rfl, hb5⟩
      have BB5 := Lib.hid (BB4.out.trans (hb5.mono BB4.out.size))
      have D5 := Lib.hid (D.out.below BB5.out)
      obtain ⟨x0, x1, x2, x3⟩ := D5.out.cells
      clear hb5
      go_wp2_with fail
      refine (AA.out _ BB5.out).mono ?_
      rintro e w7 ⟨rfl, h2, hd7, hc7, hh7⟩
      have E := Lib.hid (dgIns_end D5.out (Kp.of (F := dgF q p g h) BB5.out) (fun i f => .inl f) hd7 hc7 hh7 VN.out 0)
      clear hd7 hc7 hh7 AA
      go_wp2_with fail
      go_ret
      exact E.out
  · have e : L2 = L := by rw [RM.out, if_neg fun z => hs z.1]
    subst e
    have z1 : (sumAt leaf L2 == 0) = false := beq_eq_false_iff_ne.2 hs
    have AA := Lib.hid (fun w1 hb => poAdd_n (n + 1) leaf cc w1 (D.out.below hb).po (by omega) (by omega) (by
      rw [AD.out.1, insW_len (roll_good D.out.po.roll)]
      have b := PN.out
      split <;> omega) (by omega) (by omega) B0 B1)
    rw [AD.out.1, AD.out.2] at AA
    clear RM hs
    generalize insW L2 leaf cc = M at *
    generalize sumAt leaf L2 = sl at *
    generalize sumC L2 = s at *
    go_enter Tryz.func77, Tryz.ntmps77
    go_wp2_with fail
    refine (LF.out _).mono ?_
    rintro e w1 ⟨rfl, rfl⟩
    go_wp2_with fail
    refine NN.out.mono ?_
    rintro e w2 ⟨rfl, hb2⟩
    have D2 := Lib.hid (D.out.below hb2)
    have BB2 := Lib.hid hb2
    obtain ⟨x0, x1, x2, x3⟩ := D2.out.cells
    clear hb2
    go_wp2_with fail
    refine (GT.out _ BB2.out).mono ?_
    rintro e w3 ⟨rfl, hb3⟩
    have BB3 := Lib.hid (BB2.out.trans (hb3.mono BB2.out.size))
    have D3 := Lib.hid (D.out.below BB3.out)
    obtain ⟨x0, x1, x2, x3⟩ := D3.out.cells
    clear hb3
    go_wp2_with fail
    refine (AA.out _ BB3.out).mono ?_
    rintro e w7 ⟨rfl, h2, hd7, hc7, hh7⟩
    have E := Lib.hid (dgIns_end D3.out (Kp.of (F := dgF q p g h) BB3.out) (fun i f => .inl f) hd7 hc7 hh7 VN.out 0)
    clear hd7 hc7 hh7 AA
    go_wp2_with fail
    go_ret
    exact E.out
theorem dgInsert_any {B q p g h : Nat} {kd l k : Int} {n : Nat} {L : List Nd} (x cc : Int) (w : World) (d : DgA w B q p g h kd l k n L) (hn : n ≤ 400)
    (A0 : -9223372036854775808 ≤ x) (A1 : x ≤ 9223372036854775807) (B0 : -9223372036854775808 ≤ cc) (B1 : cc ≤ 9223372036854775807) :
    Calls Tryz.prog 77 #[.pointer (some ⟨q, 0, none⟩), .int .i64 x, .int .i64 cc] w (DgPost B q p g h kd l k (n + 1) (dgIns l k L x cc) (dgE l L x cc) w) := by
  by_cases he : dgE l L x cc = 0
  · have z := dgInsert_ok x cc w d hn he A0 A1 B0 B1
    rw [he]
    exact z
  · rw [dgIns_no he]
    exact dgInsert_no x cc w d hn he A0 A1
end Go.Proofs.YtelekchdbiimiaaGreat
namespace Go.Proofs.YtelekchdbiimiaaGreat
set_option linter.unusedVariables false
set_option maxRecDepth 100000
open Go.RowKit
theorem keep_quad {W a b : World} {p q r s : Addr} {x y z u : Value} (h : a.cell? p = some x ∧ a.cell? q = some y ∧ a.cell? r = some z ∧ a.cell? s = some u ∧ Below W.heap.size W a) (hb : Below a.heap.size a b)
    (hp : p.block < W.heap.size) (hq : q.block < W.heap.size) (hr : r.block < W.heap.size) (hs : s.block < W.heap.size) : b.cell? p = some x ∧ b.cell? q = some y ∧ b.cell? r = some z ∧ b.cell? s = some u ∧ Below W.heap.size W b := by
  obtain ⟨h1, h2, h3, h4, h5⟩ := h
  have hz := h5.size
  exact ⟨(hb.cell (by omega)).trans h1, (hb.cell (by omega)).trans h2, (hb.cell (by omega)).trans h3, (hb.cell (by omega)).trans h4, h5.trans (hb.mono hz)⟩
theorem below_quad {W a : World} {p q r s : Addr} {x y z u : Value} (h : a.cell? p = some x ∧ a.cell? q = some y ∧ a.cell? r = some z ∧ a.cell? s = some u ∧ Below W.heap.size W a) : Below W.heap.size W a := h.2.2.2.2
set_option maxHeartbeats 3200000 in
theorem dgClone_any {B q p g h : Nat} {kd l k : Int} {n : Nat} {L : List Nd} (w : World) (d : DgA w B q p g h kd l k n L) (hn : n ≤ 1000) :
    Calls Tryz.prog 21 #[.pointer (some ⟨q, 0, none⟩)] w fun e w' => ∃ q2 p2 g2 h2, e = .returned (.pointer (some ⟨q2, 0, none⟩)) ∧ DgA w' w.heap.size q2 p2 g2 h2 kd l k n L ∧ Below w.heap.size w w' := by
  obtain ⟨c0, c1, c2, c3⟩ := d.cells
  have V := Lib.hid d.v
  have hq : Hid (q < w.heap.size) := (d.top.lt q rfl).2
  have CL := Lib.hid (fun w1 (hb : Below w.heap.size w w1) => (poClone_any w1 (d.po.below hb) hn).mono (R' := fun e w' => ∃ p2 g2 h2, e = .returned (.pointer (some ⟨p2, 0, none⟩)) ∧ PoA w' w.heap.size p2 g2 h2 kd l n L ∧ Below w1.heap.size w1 w' ∧ Below w.heap.size w w') fun e w' ⟨p2, g2, h2, a, b, c⟩ => ⟨p2, g2, h2, a, b.low hb.size, c, hb.trans (c.mono hb.size)⟩)
  clear d
  go_enter Tryz.func21, Tryz.ntmps21
  go_wp2_with fail
  go_region_held3 (fun w' => w'.cell? ⟨q, 0, none⟩ = some (.int .i64 l) ∧ w'.cell? ⟨q, 1, none⟩ = some (.int .i64 k) ∧ w'.cell? ⟨q, 2, none⟩ = some (.int .i64 kd) ∧ w'.cell? ⟨q, 3, none⟩ = some (.pointer (some ⟨p, 0, none⟩)) ∧ Below w.heap.size w w')
    (first | assumption | (exact keep_quad (by assumption) hb2 hq.out hq.out hq.out hq.out) | (exact keep_quad (by assumption) ((Below.refl _ _).alloc (Nat.le_refl _) _) hq.out hq.out hq.out hq.out) | (exact ⟨c0, c1, c2, c3, below_drew _⟩))
    (first
      | (go_at_call 46; refine (CL.out _ (below_quad (p := ⟨q, 0, none⟩) (q := ⟨q, 1, none⟩) (r := ⟨q, 2, none⟩) (s := ⟨q, 3, none⟩) (x := .int .i64 l) (y := .int .i64 k) (z := .int .i64 kd) (u := .pointer (some ⟨p, 0, none⟩)) (by assumption))).mono ?_; rintro e w3 ⟨p2, g2, h2, rfl, hd2, hb2, hb3⟩))
  go_wp2_with fail
  go_ret
  exact ⟨_, p2, g2, h2, rfl, ⟨own_low (quad_new ..) hb3.size, hd2.below ((Below.refl _ _).alloc (Nat.le_refl _) _), V.out⟩, hb3.alloc hb3.size _⟩
/-- what Reset leaves -/
def DgPost0 (B q p g h : Nat) (kd l k : Int) (n : Nat) (M : List Nd) (w : World) (e : Ending) (w' : World) : Prop :=
  e = .returned (.tuple #[]) ∧ ∃ p' g' h', DgA w' B q p' g' h' kd l k n M ∧ Kp (dgF q p g h) w w' ∧ ∀ i, dgF q p' g' h' i → dgF q p g h i ∨ w.heap.size ≤ i
theorem dg_reset {B q p g h p2 g2 h2 : Nat} {kd l k : Int} {n : Nat} {L : List Nd} {w w1 : World} (d : DgA w B q p g h kd l k n L) (hb : Below w.heap.size w w1) (hd : PoA w1 w.heap.size p2 g2 h2 kd l 0 []) :
    DgPost0 B q p g h kd l k n [] w (.returned (.tuple #[])) (w1.setCell ⟨q, 3, none⟩ (.pointer (some ⟨p2, 0, none⟩))) := by
  have lt := d.lt q (.inl rfl)
  have r := own_below d.top hb
  have s := (World.ownsRow.stored r 3 (.pointer (some ⟨p2, 0, none⟩))).1
  have z := Kp.setCell w1 ⟨q, 3, none⟩ (.pointer (some ⟨p2, 0, none⟩))
  have pl := hd.lt
  have u := d.po.uni
  refine ⟨rfl, p2, g2, h2, ⟨s, ((hd.kp z fun i e f => ?_).low (by have := d.lt q (.inl rfl); omega)).more (Nat.zero_le n), dgV_nil ⟨u.1, u.2⟩ d.v.k1 d.v.k2⟩, (Kp.of (F := dgF q p g h) hb).trans z (fun i _ e => .inl e), fun i f => ?_⟩
  · simp only at e
    rcases f with f | f | f <;> omega
  · rcases f with f | f | f | f
    · exact .inl (.inl f)
    · exact .inr (by omega)
    · exact .inr (by omega)
    · exact .inr (by omega)
set_option maxHeartbeats 3200000 in
theorem dgReset_any {B q p g h : Nat} {kd l k : Int} {n : Nat} {L : List Nd} (w : World) (d : DgA w B q p g h kd l k n L) :
    Calls Tryz.prog 76 #[.pointer (some ⟨q, 0, none⟩)] w (DgPost0 B q p g h kd l k n [] w) := by
  have D := Lib.hid d
  obtain ⟨c0, c1, c2, c3⟩ := d.cells
  have NW := Lib.hid (fun w => poNew_any kd l w d.po.is)
  have XX := Lib.hid (fun w1 (hb : Below w.heap.size w w1) => (d.below hb).cells)
  have YY := Lib.hid (fun w1 (hb : Below w.heap.size w w1) (u : Value) => quad_all (World.ownsRow.stored (own_below d.top hb) 3 u).1)
  have ZZ := Lib.hid (fun w1 (hb : Below w.heap.size w w1) => own_below d.top hb)
  clear d
  go_enter Tryz.func76, Tryz.ntmps76
  go_wp2_with fail
  go_region_held3 (fun w' => w'.cell? ⟨q, 0, none⟩ = some (.int .i64 l) ∧ w'.cell? ⟨q, 2, none⟩ = some (.int .i64 kd))
    (first | (exact ⟨(XX.out _ hb1).1, (XX.out _ hb1).2.2.1⟩) | (exact ⟨(YY.out _ hb1 _).1, (YY.out _ hb1 _).2.2.1⟩) | (exact ⟨c0, c2⟩) | (exact ⟨(XX.out _ (below_drew _)).1, (XX.out _ (below_drew _)).2.2.1⟩))
    (first | (go_at_call 90; refine (NW.out _).mono ?_; rintro e w1 ⟨p2, g2, h2, rfl, hd2, hb1'⟩; have hb1 : Below w.heap.size w w1 := (below_drew w).trans hb1'; obtain ⟨_, _, _, x3, _, _, _, x7, _⟩ := quad_all (ZZ.out _ hb1)))
  go_wp2_with fail
  go_end0
  exact dg_reset D.out hb1 hd2
end Go.Proofs.YtelekchdbiimiaaGreat
namespace Go.Proofs.YtelekchdbiimiaaGreat
set_option linter.unusedVariables false
set_option maxRecDepth 100000
open Go.RowKit
/-- what Load leaves -/
def DgLoadPost (kd l k : Int) (L : List Nd) (w : World) (e : Ending) (w' : World) : Prop := Below w.heap.size w w' ∧
  ((¬ dgLdE kd l k L = 0 ∧ e = .returned (.tuple #[.pointer none, .int .i64 (dgLdE kd l k L)])) ∨
   (dgLdE kd l k L = 0 ∧ ∃ q p g h, e = .returned (.tuple #[.pointer (some ⟨q, 0, none⟩), .int .i64 0]) ∧ DgA w' w.heap.size q p g h kd l k L.length L))
theorem dg_load_no {kd l k : Int} {L : List Nd} {w w' : World} {x : Int} (h : dgLdE kd l k L = x) (hx : ¬ x = 0) (hb : Below w.heap.size w w') : DgLoadPost kd l k L w (.returned (.tuple #[.pointer none, .int .i64 x])) w' :=
  ⟨hb, .inl ⟨by rw [h]; exact hx, by rw [h]⟩⟩
set_option maxHeartbeats 3200000 in
theorem dgLoad_any (kd l k : Int) (A : Option Addr) (m c : Nat) (L : List Nd) (w : World) (hv : NodesAt w (.slice A m c) L) (hB : NBds L) (hm : m ≤ 500) (L0 : -9223372036854775808 ≤ l) (L1 : l ≤ 9223372036854775807) :
    Calls Tryz.prog 24 #[.agg #[.int .i64 l, .int .i64 k, .int .i64 kd], .slice A m c] w (DgLoadPost kd l k L w) := by
  have HB0 : Hid (Below w.heap.size w (w.alloc (.cells #[.int .i64 l, .int .i64 k, .int .i64 kd] 23))) := (Below.refl _ _).alloc (Nat.le_refl _) _
  have X0 := Lib.hid (tri_nw w 23 (.int .i64 l) (.int .i64 k) (.int .i64 kd))
  obtain ⟨x0, x1, x2, _, _, _, hz⟩ := tri_all X0.out
  by_cases h1 : k < 1
  · have c1 : decide (k < 1) = true := decide_eq_true h1
    have E := Lib.hid (dgLdE_conf (kd := kd) (l := l) (k := k) (L := L) (fun q => by have z : 1 ≤ k ∧ k ≤ 1048576 := of_decide_eq_true q.1; omega))
    clear hv hB h1
    go_enter Tryz.func24, Tryz.ntmps24
    go_wp2_with fail
    go_ret2
    exact dg_load_no E.out (by omega) HB0.out
  · have c1 : decide (k < 1) = false := decide_eq_false h1
    by_cases h2 : 1048576 < k
    · have c2 : decide (1048576 < k) = true := decide_eq_true h2
      have E := Lib.hid (dgLdE_conf (kd := kd) (l := l) (k := k) (L := L) (fun q => by have z : 1 ≤ k ∧ k ≤ 1048576 := of_decide_eq_true q.1; omega))
      clear hv hB h1 h2
      go_enter Tryz.func24, Tryz.ntmps24
      go_wp2_with fail
      go_ret2
      exact dg_load_no E.out (by omega) HB0.out
    · have c2 : decide (1048576 < k) = false := decide_eq_false h2
      have kb1 : 1 ≤ k := by omega
      have kb2 : k ≤ 1048576 := by omega
      have HK : Hid (kIs k = true) := decide_eq_true ⟨kb1, kb2⟩
      have LD := Lib.hid (poLoad_any kd l A m c L _ (hv.below HB0.out) hB (by omega) L0 L1)
      have hlen : L.length ≤ 500 := by have := (nodes_cells hv).1; omega
      clear hv hB h1 h2
      go_enter Tryz.func24, Tryz.ntmps24
      go_wp2_with fail
      generalize w.alloc (.cells #[.int .i64 l, .int .i64 k, .int .i64 kd] 23) = W at *
      refine LD.out.mono ?_
      rintro e w1 ⟨hb1, ⟨hi, rfl⟩ | ⟨hi, hr, rfl⟩ | ⟨hi, hr, p, g, h, rfl, hd⟩⟩
      · have E := Lib.hid (dgLdE_conf (kd := kd) (l := l) (k := k) (L := L) (fun q => by rw [hi] at q; exact absurd q.2 (by simp)))
        have B1 := Lib.hid (HB0.out.trans (hb1.mono HB0.out.size))
        clear hi hb1
        go_wp2_with fail
        go_ret2
        exact dg_load_no E.out (by omega) B1.out
      · have E := Lib.hid (dgLdE_form (L := L) HK.out hi hr)
        have B1 := Lib.hid (HB0.out.trans (hb1.mono HB0.out.size))
        clear hi hb1 hr
        go_wp2_with fail
        go_ret2
        exact dg_load_no E.out (by omega) B1.out
      · have B1 := Lib.hid (HB0.out.trans (hb1.mono HB0.out.size))
        have X1 := Lib.hid (own_below X0.out hb1)
        have HI := Lib.hid hi
        have HR := Lib.hid hr
        have hba : Below w1.heap.size w1 (w1.alloc (.cells #[.int .i64 l, .int .i64 k, .int .i64 kd, .pointer (some ⟨p, 0, none⟩)] 112)) := (Below.refl _ _).alloc (Nat.le_refl _) _
        have X2 := Lib.hid (own_below X1.out hba)
        have B2 := Lib.hid (B1.out.trans (hba.mono B1.out.size))
        have D2 : Hid (DgT4 (w1.alloc (.cells #[.int .i64 l, .int .i64 k, .int .i64 kd, .pointer (some ⟨p, 0, none⟩)] 112)) w.heap.size w1.heap.size p l k kd) := ⟨own_low (quad_new ..) B1.out.size⟩
        have P2 := Lib.hid ((hd.low HB0.out.size).below hba)
        obtain ⟨x0, x1, x2, _, _, _, hz⟩ := tri_all X1.out
        clear hb1 hd hi hr hba
        have GL := Lib.hid (dgLen_any _ D2.out P2.out (by omega))
        go_wp2_with fail
        generalize w1.alloc (.cells #[.int .i64 l, .int .i64 k, .int .i64 kd, .pointer (some ⟨p, 0, none⟩)] 112) = W2 at *
        refine GL.out.mono ?_
        rintro e w3 ⟨rfl, hb3⟩
        have D3 := Lib.hid (D2.out.below hb3)
        have P3 := Lib.hid (P2.out.below hb3)
        have B3 := Lib.hid (B2.out.trans (hb3.mono B2.out.size))
        have X3 := Lib.hid (own_below X2.out hb3)
        clear hb3 GL
        have GR := Lib.hid (dgRoom_any _ D3.out kb1 kb2)
        go_wp2_with fail
        refine GR.out.mono ?_
        rintro e w4 ⟨rfl, hb4⟩
        have D4 := Lib.hid (D3.out.below hb4)
        have P4 := Lib.hid (P3.out.below hb4)
        have B4 := Lib.hid (B3.out.trans (hb4.mono B3.out.size))
        have X4 := Lib.hid (own_below X3.out hb4)
        obtain ⟨x0, x1, x2, _, _, _, hz⟩ := tri_all X4.out
        clear hb4 GR
        by_cases h4 : (L.length : Int) ≤ 8 * k
        · have c3 : decide (8 * k < (L.length : Int)) = false := decide_eq_false (by omega)
          have LT := Lib.hid (prLight_any k _ P4.out (by omega))
          have H4 := Lib.hid h4
          cases hlt : lightB l L k
          · rw [hlt] at LT
            have E := Lib.hid (dgLdE_cap HK.out HI.out HR.out (fun q => by rw [hlt] at q; exact absurd q.2 (by simp)))
            clear hlt h4
            go_wp2_with (go_at_call 53; refine LT.out.mono ?_; rintro e w5 ⟨rfl, hb5⟩)
            go_ret2
            exact dg_load_no E.out (by omega) (B4.out.trans (hb5.mono B4.out.size))
          · rw [hlt] at LT
            have E := Lib.hid (dgLdE_ok HK.out HI.out HR.out h4 hlt)
            have V : Hid (DgV l k L) := ⟨kb1, kb2, P4.out.roll, h4, light_c hlt⟩
            clear hlt h4
            go_wp2_with (go_at_call 53; refine LT.out.mono ?_; rintro e w5 ⟨rfl, hb5⟩)
            go_ret2
            exact ⟨B4.out.trans (hb5.mono B4.out.size), .inr ⟨E.out, _, p, g, h, rfl, ⟨(D4.out.below hb5).top, P4.out.below hb5, V.out⟩⟩⟩
        · have c3 : decide (8 * k < (L.length : Int)) = true := decide_eq_true (by omega)
          have E := Lib.hid (dgLdE_cap HK.out HI.out HR.out (fun q => h4 q.1))
          clear h4
          go_wp2_with fail
          go_ret2
          exact dg_load_no E.out (by omega) B4.out
theorem dgNodes_at0 (w : World) : NodesAt w (.slice none 0 0) [] := ownNd_nodes (ownNd_nil 77 w 0)
set_option maxHeartbeats 1600000 in
theorem dgNew_any (kd l k : Int) (w : World) (L0 : -9223372036854775808 ≤ l) (L1 : l ≤ 9223372036854775807) :
    Calls Tryz.prog 37 #[.agg #[.int .i64 l, .int .i64 k, .int .i64 kd]] w (DgLoadPost kd l k [] w) := by
  have HB0 : Hid (Below w.heap.size w (w.alloc (.cells #[.int .i64 l, .int .i64 k, .int .i64 kd] 23))) := (Below.refl _ _).alloc (Nat.le_refl _) _
  have X0 := Lib.hid (tri_nw w 23 (.int .i64 l) (.int .i64 k) (.int .i64 kd))
  obtain ⟨x0, x1, x2, _, _, _, hz⟩ := tri_all X0.out
  have LD := Lib.hid (dgLoad_any kd l k none 0 0 [] _ (dgNodes_at0 (w.alloc (.cells #[.int .i64 l, .int .i64 k, .int .i64 kd] 23))) (fun n hn => by simp at hn) (by omega) L0 L1)
  go_enter Tryz.func37, Tryz.ntmps37
  go_wp2_with fail
  generalize w.alloc (.cells #[.int .i64 l, .int .i64 k, .int .i64 kd] 23) = W at *
  refine LD.out.mono ?_
  rintro e w1 ⟨hb1, ⟨hi, rfl⟩ | ⟨hi, q, p, g, h, rfl, hd⟩⟩
  · have B1 := Lib.hid (HB0.out.trans (hb1.mono HB0.out.size))
    have HI := Lib.hid hi
    clear hi hb1
    generalize hx : dgLdE kd l k [] = x at *
    have HX := Lib.hid hx
    clear hx
    go_wp2_with fail
    go_ret2
    exact dg_load_no HX.out HI.out B1.out
  · have B1 := Lib.hid (HB0.out.trans (hb1.mono HB0.out.size))
    have HI := Lib.hid hi
    have HD := Lib.hid (hd.low HB0.out.size)
    clear hi hb1 hd
    go_wp2_with fail
    go_ret2
    exact ⟨B1.out, .inr ⟨HI.out, q, p, g, h, rfl, HD.out⟩⟩
theorem dgNew_ok (kd l k : Int) (w : World) (hk : kIs k = true) (hp : isP kd l = true) :
    Calls Tryz.prog 37 #[.agg #[.int .i64 l, .int .i64 k, .int .i64 kd]] w fun e w' => Below w.heap.size w w' ∧ ∃ q p g h, e = .returned (.tuple #[.pointer (some ⟨q, 0, none⟩), .int .i64 0]) ∧ DgA w' w.heap.size q p g h kd l k 0 [] := by
  have u : 1 ≤ l ∧ l ≤ 48 := by rcases of_decide_eq_true hp with q | q <;> omega
  refine (dgNew_any kd l k w (by omega) (by omega)).mono ?_
  rintro e w1 ⟨hb, ⟨hi, _⟩ | ⟨_, z⟩⟩
  · exact absurd (by rw [dgLdE_nil, if_pos ⟨hk, hp⟩]) hi
  · exact ⟨hb, z⟩
theorem dgNew_no (kd l k : Int) (w : World) (h : ¬ (kIs k = true ∧ isP kd l = true)) (L0 : -9223372036854775808 ≤ l) (L1 : l ≤ 9223372036854775807) :
    Calls Tryz.prog 37 #[.agg #[.int .i64 l, .int .i64 k, .int .i64 kd]] w fun e w' => e = .returned (.tuple #[.pointer none, .int .i64 2]) ∧ Below w.heap.size w w' := by
  refine (dgNew_any kd l k w L0 L1).mono ?_
  rintro e w1 ⟨hb, ⟨hi, z⟩ | ⟨z, _⟩⟩
  · rw [dgLdE_conf h] at z
    exact ⟨z, hb⟩
  · rw [dgLdE_conf h] at z
    exact absurd z (by omega)
end Go.Proofs.YtelekchdbiimiaaGreat
namespace Go.Proofs.YtelekchdbiimiaaGreat
set_option linter.unusedVariables false
theorem wtF_parts {P : Int → Bool} {l : Int} {L : List Nd} (h : RollC l L) (k : Nat) : 0 ≤ wtF P (L.take k) ∧ wtF P (L.take k) ≤ 72057594037927935 := by
  have nn : NonNeg L := good_nonneg (roll_good h)
  have b := wtF_bd P (L := L.take k) fun m hm => nn m (List.mem_of_mem_take hm)
  have e : sumC (L.take k) + sumC (L.drop k) = sumC L := by rw [← sumC_app, List.take_append_drop]
  have b2 := wtF_bd (fun _ => true) (L := L.drop k) fun m hm => nn m (List.mem_of_mem_drop hm)
  rw [wtF_all] at b2
  have s : sumC L ≤ 72057594037927935 := h.2.2.2.2
  exact ⟨b.1, by omega⟩
theorem wtF_all_parts {P : Int → Bool} {l : Int} {L : List Nd} (h : RollC l L) : 0 ≤ wtF P L ∧ wtF P L ≤ 72057594037927935 := by
  have q := wtF_parts (P := P) h L.length
  rwa [List.take_length] at q
def lowP (l y : Int) : Int → Bool := fun n => decide (hiN l n ≤ y)
def highP (l y : Int) : Int → Bool := fun n => decide (loN l n ≤ y)
theorem low_is (l : Int) (L : List Nd) (y : Int) : lowR l L y = wtF (lowP l y) L := rfl
theorem high_is (l : Int) (L : List Nd) (y : Int) : highR l L y = wtF (highP l y) L := rfl
theorem low_bd {l : Int} {L : List Nd} (h : RollC l L) (y : Int) : 0 ≤ lowR l L y ∧ lowR l L y ≤ 72057594037927935 := wtF_all_parts h
theorem high_bd {l : Int} {L : List Nd} (h : RollC l L) (y : Int) : 0 ≤ highR l L y ∧ highR l L y ≤ 72057594037927935 := wtF_all_parts h
theorem node_ends {l : Int} {L : List Nd} (h : RollC l L) {n : Nd} (hn : n ∈ L) : 0 ≤ loN l n.1 ∧ loN l n.1 ≤ hiN l n.1 ∧ hiN l n.1 < 2 ^ l.toNat := by
  have r : RightC l n.1 := of_decide_eq_true (h.2.2.1 n hn).1
  have m := right_max (h.2.2.1 n hn).1
  have e := end_yes r
  have b := wid_bd r m
  have p := wid_pos l n.1
  rw [e.1, e.2.1]
  exact ⟨by omega, by omega, by omega⟩
theorem low_high {l : Int} {L : List Nd} (h : RollC l L) (y : Int) : lowR l L y ≤ highR l L y :=
  wtF_le (good_nonneg (roll_good h)) fun n hn q => decide_eq_true (Int.le_trans (node_ends h hn).2.1 (of_decide_eq_true q))
/-- from the last value on both are all -/
theorem rank_last {l : Int} {L : List Nd} (h : RollC l L) {a : Int} (ha : 2 ^ l.toNat - 1 ≤ a) : lowR l L a = sumC L ∧ highR l L a = sumC L := by
  rw [← wtF_all]
  exact ⟨wtF_eq fun n hn => decide_eq_true (by have := node_ends h hn; omega), wtF_eq fun n hn => decide_eq_true (by have := node_ends h hn; omega)⟩
theorem wtF_none (L : List Nd) : wtF (fun _ => false) L = 0 := by
  induction L with
  | nil => rfl
  | cons n L ih => simp [wtF, ih]
def insS (x : Int) : List Int → List Int
  | [] => [x]
  | y :: ys => if y < x then y :: insS x ys else if y = x then y :: ys else x :: y :: ys
def stepsN (l : Int) (L : List Nd) : List Int := L.foldl (fun o n => insS (hiN l n.1) o) []
theorem insS_mem {x y : Int} : ∀ {T : List Int}, y ∈ insS x T ↔ y = x ∨ y ∈ T
  | [] => by simp [insS]
  | z :: T => by
    unfold insS
    split
    · rw [List.mem_cons, insS_mem, List.mem_cons]; constructor <;> (rintro (h | h | h) <;> simp [h])
    · split
      · rename_i h; subst h; simp
      · simp
theorem steps_mem (l : Int) (L : List Nd) (y : Int) : y ∈ stepsN l L ↔ ∃ n ∈ L, hiN l n.1 = y := by
  have key : ∀ (L : List Nd) (o : List Int), y ∈ L.foldl (fun o n => insS (hiN l n.1) o) o ↔ y ∈ o ∨ ∃ n ∈ L, hiN l n.1 = y := by
    intro L
    induction L with
    | nil => intro o; simp
    | cons n L ih =>
      intro o
      rw [List.foldl_cons, ih, insS_mem]
      constructor
      · rintro ((h | h) | ⟨m, hm, h⟩)
        · exact .inr ⟨n, by simp, h.symm⟩
        · exact .inl h
        · exact .inr ⟨m, by simp [hm], h⟩
      · rintro (h | ⟨m, hm, h⟩)
        · exact .inl (.inr h)
        · rcases List.mem_cons.1 hm with q | q
          · subst q; exact .inl (.inl h.symm)
          · exact .inr ⟨m, q, h⟩
  rw [stepsN, key]; simp
/-- rising -/
def RiseI : List Int → Prop
  | [] => True
  | x :: T => (∀ y ∈ T, x < y) ∧ RiseI T
theorem insS_rise {x : Int} : ∀ {T : List Int}, RiseI T → RiseI (insS x T)
  | [], _ => ⟨fun y h => by simp at h, trivial⟩
  | z :: T, ⟨h1, h2⟩ => by
    unfold insS
    split
    · rename_i hz
      refine ⟨fun y hy => ?_, insS_rise h2⟩
      rcases insS_mem.1 hy with q | q
      · omega
      · exact h1 y q
    · split
      · exact ⟨h1, h2⟩
      · refine ⟨fun y hy => ?_, h1, h2⟩
        rcases List.mem_cons.1 hy with q | q
        · omega
        · have := h1 y q; omega
theorem steps_rise (l : Int) (L : List Nd) : RiseI (stepsN l L) := by
  have key : ∀ (L : List Nd) (o : List Int), RiseI o → RiseI (L.foldl (fun o n => insS (hiN l n.1) o) o) := by
    intro L
    induction L with
    | nil => intro o h; exact h
    | cons n L ih => intro o h; exact ih _ (insS_rise h)
  exact key L [] trivial
/-- a rising list is told by what it has -/
theorem rise_uniq : ∀ {S T : List Int}, RiseI S → RiseI T → (∀ y, y ∈ S ↔ y ∈ T) → S = T
  | [], [], _, _, _ => rfl
  | [], y :: T, _, _, h => absurd ((h y).2 (by simp)) (by simp)
  | x :: S, [], _, _, h => absurd ((h x).1 (by simp)) (by simp)
  | x :: S, y :: T, ⟨a, b⟩, ⟨c, d⟩, h => by
    have e : x = y := by
      rcases List.mem_cons.1 ((h x).1 (by simp)) with p | p
      · exact p
      · rcases List.mem_cons.1 ((h y).2 (by simp)) with q | q
        · exact q.symm
        · have := a y q; have := c x p; omega
    subst e
    have r := rise_uniq b d fun z => by
      constructor
      · intro hz
        rcases List.mem_cons.1 ((h z).1 (List.mem_cons_of_mem _ hz)) with q | q
        · have := a z hz; omega
        · exact q
      · intro hz
        rcases List.mem_cons.1 ((h z).2 (List.mem_cons_of_mem _ hz)) with q | q
        · have := c z hz; omega
        · exact q
    rw [r]
end Go.Proofs.YtelekchdbiimiaaGreat
namespace Go.Proofs.YtelekchdbiimiaaGreat
set_option linter.unusedVariables false
/-- what those nodes weigh whose end is at most y -/
def wtE (e : Int → Int) (L : List Nd) (y : Int) : Int := wtF (fun n => decide (e n ≤ y)) L
/-- y is the least up to which so much weighs -/
structure AtP (e : Int → Int) (L : List Nd) (r y : Int) : Prop where
  is : r ≤ wtE e L y
  least : ∀ z, z < y → wtE e L z < r
theorem AtP.uniq {e : Int → Int} {L : List Nd} {r x y : Int} (a : AtP e L r x) (b : AtP e L r y) : x = y := by
  rcases Int.lt_trichotomy x y with h | h | h
  · have := b.least x h; have := a.is; omega
  · exact h
  · have := a.least y h; have := b.is; omega
theorem AtP.mono {e : Int → Int} {L : List Nd} {r s x y : Int} (a : AtP e L r x) (b : AtP e L s y) (h : r ≤ s) : x ≤ y := by
  rcases Int.lt_or_le y x with q | q
  · have := a.least y q; have := b.is; omega
  · exact q
theorem AtP.le {e : Int → Int} {L : List Nd} {r x z : Int} (a : AtP e L r x) (h : r ≤ wtE e L z) : x ≤ z := by
  rcases Int.lt_or_le z x with q | q
  · have := a.least z q; omega
  · exact q
end Go.Proofs.YtelekchdbiimiaaGreat
namespace Go.Proofs.YtelekchdbiimiaaGreat
set_option linter.unusedVariables false
end Go.Proofs.YtelekchdbiimiaaGreat
namespace Go.Proofs.YtelekchdbiimiaaGreat
set_option linter.unusedVariables false
open Go.RowKit
/-- is there a span of these ends? -/
def SpC (lo hi : Int) : Prop := 0 ≤ lo ∧ lo ≤ hi ∧ hi ≤ 281474976710655
instance (lo hi : Int) : Decidable (SpC lo hi) := by unfold SpC; infer_instance
end Go.Proofs.YtelekchdbiimiaaGreat
namespace Go.Proofs.YtelekchdbiimiaaGreat
set_option linter.unusedVariables false
set_option maxRecDepth 100000
open Go.RowKit
end Go.Proofs.YtelekchdbiimiaaGreat
namespace Go.Proofs.YtelekchdbiimiaaGreat
set_option linter.unusedVariables false
set_option maxRecDepth 100000
open Go.RowKit
end Go.Proofs.YtelekchdbiimiaaGreat
