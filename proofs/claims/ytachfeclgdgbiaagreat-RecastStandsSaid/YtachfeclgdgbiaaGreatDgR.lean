/- Texts laid together: DgRef, DgRef2, DgRef3, DgRef4, DgRef5. -/
import Derived.Test.YtachfeclgdgbiaaGreatDgN
import Derived.Test.YtachfeclgdgbiaaGreatPrR
import Derived.Test.YtachfeclgdgbiaaGreatDrQ
import Derived.Test.YtachfeclgdgbiaaGreatPoQ
import Derived.Test.YtachfeclgdgbiaaGreatPbR
import Derived.Deep.RegionHeld3
/- The document's answers of package dewpondref13: Is, New, Weight, Cap. -/
namespace Go.Proofs.YtachfeclgdgbiaaGreat
set_option linter.unusedVariables false
set_option maxRecDepth 100000
open Go.RowKit

theorem dgBelow3 {W a : World} {p q r : Addr} {x y z : Value} (h : a.cell? p = some x ∧ a.cell? q = some y ∧ a.cell? r = some z ∧ Below W.heap.size W a) : Below W.heap.size W a := h.2.2.2
theorem rDgIs_any (l k kd : Int) (w : World) : Calls Tryz.prog 65 #[.agg #[.int .i64 l, .int .i64 k, .int .i64 kd]] w fun e w' => e = .returned (.bool (kIs k && isP kd l)) ∧ Below w.heap.size w w' := by
  have HB0 : Hid (Below w.heap.size w (w.alloc (.cells #[.int .i64 l, .int .i64 k, .int .i64 kd] 23))) := (Below.refl _ _).alloc (Nat.le_refl _) _
  obtain ⟨x0, x1, x2, _, _, _, hz⟩ := tri_all (tri_new w 23 (.int .i64 l) (.int .i64 k) (.int .i64 kd))
  have IS := Lib.hid (fun w => rPrIs_any k w)
  have PS := Lib.hid (fun w => poIs_any kd l w)
  cases hk : kIs k
  · rw [hk] at IS
    clear hk
    go_enter Tryz.func65, Tryz.ntmps65
    go_wp2_with fail
    generalize w.alloc (.cells #[.int .i64 l, .int .i64 k, .int .i64 kd] 23) = W at *
    go_wp2_with (go_at_call 90; refine (IS.out _).mono ?_; rintro e w1 ⟨rfl, rfl⟩)
    go_ret
    exact ⟨by simp, HB0.out⟩
  · rw [hk] at IS
    clear hk
    go_enter Tryz.func65, Tryz.ntmps65
    go_wp2_with fail
    generalize w.alloc (.cells #[.int .i64 l, .int .i64 k, .int .i64 kd] 23) = W at *
    go_wp2_with (first | (go_at_call 90; refine (IS.out _).mono ?_; rintro e w1 ⟨rfl, rfl⟩) | (go_at_call 18; refine (PS.out _).mono ?_; rintro e w2 ⟨rfl, rfl⟩))
    go_ret
    exact ⟨by simp, HB0.out⟩
theorem rDgWeight_any (l k : Int) (A : Option Addr) (n c : Nat) (L : List Nd) (w : World) (h : NodesAt w (.slice A n c) L) (hr : RollC l L) (hn : n ≤ 1000) :
    Calls Tryz.prog 39 #[.agg #[.int .i64 k, .int .i64 l, .slice A n c]] w fun e w' => e = .returned (.int .i64 (sumC L)) ∧ Below w.heap.size w w' := by
  have HB0 : Hid (Below w.heap.size w (w.alloc (.cells #[.int .i64 k, .int .i64 l, .slice A n c] 37))) := (Below.refl _ _).alloc (Nat.le_refl _) _
  obtain ⟨x0, x1, x2, _, _, _, hz⟩ := tri_all (tri_new w 37 (.int .i64 k) (.int .i64 l) (.slice A n c))
  have TT := Lib.hid (fun w1 (hb : Below (w.alloc (.cells #[.int .i64 k, .int .i64 l, .slice A n c] 37)).heap.size (w.alloc (.cells #[.int .i64 k, .int .i64 l, .slice A n c] 37)) w1) => rsTotal_any l A n c L w1 (h.below (HB0.out.trans (hb.mono HB0.out.size))) hr (by omega))
  clear h hr
  go_enter Tryz.func39, Tryz.ntmps39
  go_wp2_with (go_at_call 75; refine (TT.out _ (Below.refl _ _)).mono ?_; rintro e w1 ⟨rfl, hb1⟩)
  go_ret
  exact ⟨rfl, HB0.out.trans (hb1.mono HB0.out.size)⟩
end Go.Proofs.YtachfeclgdgbiaaGreat

/- The document's answer of package dewpondref13: Compress. -/
namespace Go.Proofs.YtachfeclgdgbiaaGreat
set_option linter.unusedVariables false
set_option maxRecDepth 100000
open Go.RowKit

/-- the two boxes of a call: the digest that is turned, and the one that is handed out -/
structure DgI (w W : World) (k l : Int) (v y0 y1 y2 : Value) : Prop where
  s : W.ownsRow w.heap.size 37 3 (.slice (some ⟨w.heap.size, 0, none⟩) 1 1) 1 [.int .i64 k, .int .i64 l, v]
  r : W.ownsRow w.heap.size 37 3 (.slice (some ⟨w.heap.size + 1, 0, none⟩) 1 1) 1 [y0, y1, y2]
  b : Below w.heap.size w W
theorem dgI_new (w : World) (k l : Int) (v : Value) : DgI w ((w.alloc (.cells #[.int .i64 k, .int .i64 l, v] 37)).alloc (.cells #[.int .i64 0, .int .i64 0, .slice none 0 0] 37)) k l v (.int .i64 0) (.int .i64 0) (.slice none 0 0) := by
  have e1 : (w.alloc (.cells #[.int .i64 k, .int .i64 l, v] 37)).heap.size = w.heap.size + 1 := by simp
  have q := tri_new (w.alloc (.cells #[.int .i64 k, .int .i64 l, v] 37)) 37 (.int .i64 0) (.int .i64 0) (.slice none 0 0)
  rw [e1] at q
  exact ⟨(tri_new w _ _ _ _).alloc _, own_low q (by omega), ((Below.refl _ _).alloc (Nat.le_refl _) _).alloc (by simp) _⟩
theorem DgI.below {w W W' : World} {k l : Int} {v y0 y1 y2 : Value} (h : DgI w W k l v y0 y1 y2) (hb : Below W.heap.size W W') : DgI w W' k l v y0 y1 y2 := ⟨own_below h.s hb, own_below h.r hb, h.b.trans (hb.mono h.b.size)⟩
/-- the store is put anew -/
theorem DgI.set2 {w W : World} {k l : Int} {v y0 y1 y2 : Value} (h : DgI w W k l v y0 y1 y2) (u : Value) : DgI w ((W.setCell ⟨w.heap.size, 1, none⟩ (.int .i64 l)).setCell ⟨w.heap.size, 2, none⟩ u) k l u y0 y1 y2 := by
  have q := tri_set2 h.s (.int .i64 l) u
  exact ⟨q.1, q.2.2.2 _ _ _ _ _ _ (by simp [Value.ownBlock]) h.r, h.b.trans q.2.2.1⟩
/-- the whole digest is put anew -/
theorem DgI.set3 {w W : World} {k l : Int} {v y0 y1 y2 : Value} (h : DgI w W k l v y0 y1 y2) (u : Value) : DgI w (((W.setCell ⟨w.heap.size, 0, none⟩ (.int .i64 k)).setCell ⟨w.heap.size, 1, none⟩ (.int .i64 l)).setCell ⟨w.heap.size, 2, none⟩ u) k l u y0 y1 y2 := by
  have q := tri_set h.s (.int .i64 k) (.int .i64 l) u
  exact ⟨q.1, q.2.2.2 _ _ _ _ _ _ (by simp [Value.ownBlock]) h.r, h.b.trans q.2.2.1⟩
/-- a digest handed out, and a number: its list is a row of its own, the one that came in or a new one -/
def RDgPost (k l : Int) (M : List Nd) (x : Int) (v0 : Value) (w : World) (e : Ending) (w' : World) : Prop :=
  ∃ A m c, e = .returned (.tuple #[.agg #[.int .i64 k, .int .i64 l, .slice A m c], .int .i64 x]) ∧ OwnNd 75 w' 0 (.slice A m c) M ∧ Below w.heap.size w w' ∧ NewB v0 (.slice A m c) w.heap.size
theorem HasL.own {w W : World} {A0 A : Option Addr} {n0 c0 n c : Nat} {L0 L : List Nd} (h : HasL w W A0 n0 c0 L0 (.slice A n c) L) (h0 : OwnNd 75 w 0 (.slice A0 n0 c0) L0) (hb : Below w.heap.size w W) : OwnNd 75 W 0 (.slice A n c) L ∧ NewB (.slice A0 n0 c0) (.slice A n c) w.heap.size := by
  rcases h with ⟨e, e2⟩ | o
  · rw [e, e2]; exact ⟨own_below h0 hb, .inl rfl⟩
  · exact ⟨own_low o (Nat.zero_le _), newB_of o (Nat.le_refl _)⟩
set_option maxHeartbeats 3200000 in
theorem rDgCompress_any (l k : Int) (A : Option Addr) (n c : Nat) (L : List Nd) (w : World) (h : OwnNd 75 w 0 (.slice A n c) L) (hr : RollC l L) (hn : n ≤ 100) (k1 : 1 ≤ k) (k2 : k ≤ 1048576) :
    Calls Tryz.prog 46 #[.agg #[.int .i64 k, .int .i64 l, .slice A n c]] w (RDgPost k l (pressW l k L) (pressN l k L : Int) (.slice A n c) w) := by
  have I0 := Lib.hid (dgI_new w k l (.slice A n c))
  have HN := Lib.hid (own_below h I0.out.b)
  have hk : kIs k = true := decide_eq_true ⟨k1, k2⟩
  have RN := Lib.hid (rPrRun_has l k A n c L _ (ownNd_nodes HN.out) hr (by omega) hk)
  have HU := Lib.hid (fun j hl hx => press_uniq (cap := capW L k) (j := j) hr hl hx)
  have HPW : Hid (pressW l k L = preA l (capW L k) L (pressJ l (capW L k) L) ∧ pressN l k L = pressJ l (capW L k) L) := ⟨rfl, rfl⟩
  obtain ⟨x0, x1, x2, _, _, _, _⟩ := tri_all I0.out.s
  clear h hr hk
  generalize pressW l k L = M at *
  generalize pressN l k L = x at *
  generalize hcap : capW L k = cap at *
  clear hcap
  go_enter Tryz.func46, Tryz.ntmps46
  go_wp2_with fail
  generalize (w.alloc (.cells #[.int .i64 k, .int .i64 l, .slice A n c] 37)).alloc (.cells #[.int .i64 0, .int .i64 0, .slice none 0 0] 37) = W0 at *
  refine RN.out.mono ?_
  rintro e w1 ⟨j, A1, m1, c1, A2, m2, c2, rfl, hl, hh, ho, hb1⟩
  have hm2 : m2 = j := by have a := (ints_cells (ownI_ints ho)).1; rw [preS_len] at a; exact a
  have ej := HU.out j hl.1 hl.2
  have hx : x = m2 := by rw [HPW.out.2, hm2]; exact ej.symm
  have hM : preA l cap L j = M := by rw [HPW.out.1, ← ej]
  rw [hM] at hh
  have HO := Lib.hid (hh.own HN.out hb1)
  subst hx
  have I1 := Lib.hid (I0.out.below hb1)
  clear hl hh ho hb1 hm2 ej hM x0 x1 x2 HU HPW RN
  have hba : Below w1.heap.size w1 (w1.alloc (.cells #[.int .i64 l, .slice A1 m1 c1] 35)) := (Below.refl _ _).alloc (Nat.le_refl _) _
  have I2 := Lib.hid (I1.out.below hba)
  have O2 := Lib.hid (own_below HO.out.1 hba)
  obtain ⟨t0, t1, _, _, ht⟩ := box_cells (foBx2 w1 35 (.int .i64 l) (.slice A1 m1 c1))
  obtain ⟨x0, x1, x2, g0, g1, g2, hz⟩ := tri_all I1.out.s
  obtain ⟨y0, y1, y2, h0, h1, h2, hz2⟩ := tri_all I1.out.r
  have T1 := Lib.hid (tri_set2 I1.out.s (.int .i64 l) (.slice A1 m1 c1))
  have I2' := Lib.hid (I1.out.set2 (.slice A1 m1 c1))
  have T2 := Lib.hid (tri_set I2'.out.r (.int .i64 k) (.int .i64 l) (.slice A1 m1 c1))
  obtain ⟨q0, q1, q2⟩ := set_three I2'.out.r (.int .i64 k) (.int .i64 l) (.slice A1 m1 c1)
  have O3 := Lib.hid (T2.out.2.1 _ _ _ _ _ _ (by decide) (T1.out.2.1 _ _ _ _ _ _ (by decide) HO.out.1))
  have B3 := Lib.hid (I2'.out.b.trans T2.out.2.2.1)
  have NW := Lib.hid HO.out.2
  clear hba
  go_wp2_with fail
  exact bodyPost_ret (v := .tuple #[.agg #[.int .i64 k, .int .i64 l, .slice A1 m1 c1], .int .i64 (x : Int)]) (by simp [results, Tryz.results46, go_sem, q0, q1, q2, hz2]) rfl ⟨A1, m1, c1, rfl, World.ownsRow.alloc O3.out _, B3.out.alloc B3.out.size _, NW.out.mono I0.out.b.size⟩

end Go.Proofs.YtachfeclgdgbiaaGreat

/- The document's answer of package dewpondref13: Insert. -/
namespace Go.Proofs.YtachfeclgdgbiaaGreat
set_option linter.unusedVariables false
set_option maxRecDepth 100000
open Go.RowKit

/-- an answer that leaves the digest as it was -/
theorem rdg_end {k l : Int} {A : Option Addr} {n c : Nat} {L : List Nd} {x : Int} {w w1 : World} {y0 y1 y2 : Value} (I : DgI w w1 k l (.slice A n c) y0 y1 y2) (o : OwnNd 75 w1 0 (.slice A n c) L) :
    RDgPost k l L x (.slice A n c) w (.returned (.tuple #[.agg #[.int .i64 k, .int .i64 l, .slice A n c], .int .i64 x])) (((w1.setCell ⟨w.heap.size + 1, 0, none⟩ (.int .i64 k)).setCell ⟨w.heap.size + 1, 1, none⟩ (.int .i64 l)).setCell ⟨w.heap.size + 1, 2, none⟩ (.slice A n c)) := by
  have T := tri_set I.r (.int .i64 k) (.int .i64 l) (.slice A n c)
  exact ⟨A, n, c, rfl, T.2.1 _ _ _ _ _ _ (by decide) o, I.b.trans T.2.2.1, .inl rfl⟩
set_option maxHeartbeats 3200000 in
theorem rDgInsert_no (l k x cc : Int) (A : Option Addr) (n c : Nat) (L : List Nd) (w : World) (h : OwnNd 75 w 0 (.slice A n c) L) (hr : RollC l L) (hn : n ≤ 1000) (he : ¬ dgE l L x cc = 0) (L0 : -9223372036854775808 ≤ l) (L1 : l ≤ 9223372036854775807)
    (A0 : -9223372036854775808 ≤ x) (A1 : x ≤ 9223372036854775807) (B0 : -9223372036854775808 ≤ cc) (B1 : cc ≤ 9223372036854775807) :
    Calls Tryz.prog 47 #[.agg #[.int .i64 k, .int .i64 l, .slice A n c], .int .i64 x, .int .i64 cc] w (RDgPost k l L (dgE l L x cc) (.slice A n c) w) := by
  have I0 := Lib.hid (dgI_new w k l (.slice A n c))
  have HN := Lib.hid (own_below h I0.out.b)
  have LF := Lib.hid (fun w => rleaf_any l x w L0 L1 A0 A1)
  obtain ⟨x0, x1, x2, g0, g1, g2, hz⟩ := tri_all I0.out.s
  by_cases hv : ValC l x
  · obtain ⟨v1, v2⟩ := leaf_yes hv
    rw [v2] at LF
    by_cases h1 : cc < 1
    · rw [dgE_zero hv h1]
      have c1 : decide (cc < 1) = true := decide_eq_true h1
      obtain ⟨y0, y1, y2, f0, f1, f2, hz2⟩ := tri_all I0.out.r
      obtain ⟨q0, q1, q2⟩ := set_three I0.out.r (.int .i64 k) (.int .i64 l) (.slice A n c)
      have E := Lib.hid (rdg_end (x := 4) I0.out HN.out)
      clear h hr hv h1 v1 v2 he
      go_enter Tryz.func47, Tryz.ntmps47
      go_wp2_with fail
      generalize (w.alloc (.cells #[.int .i64 k, .int .i64 l, .slice A n c] 37)).alloc (.cells #[.int .i64 0, .int .i64 0, .slice none 0 0] 37) = W0 at *
      refine (LF.out _).mono ?_
      rintro e w1 ⟨rfl, rfl⟩
      go_wp2_with fail
      exact bodyPost_ret (v := .tuple #[.agg #[.int .i64 k, .int .i64 l, .slice A n c], .int .i64 4]) (by simp [results, Tryz.results47, go_sem, q0, q1, q2]) rfl E.out
    · by_cases h2 : 72057594037927935 - sumC L < cc
      · rw [dgE_full hv h1 h2]
        have c1 : decide (cc < 1) = false := decide_eq_false h1
        have c2 : decide (72057594037927935 - sumC L < cc) = true := decide_eq_true h2
        have nn := good_nonneg (roll_good hr)
        have s0 : 0 ≤ sumC L := Int.le_trans (sum_le nn 0).1 (sum_le nn 0).2
        have s1 := hr.2.2.2.2
        have hw : IntKind.i64.wrap (72057594037927935 - sumC L) = 72057594037927935 - sumC L := wrap_lit rfl (by omega) (by omega)
        have WT := Lib.hid (rDgWeight_any l k A n c L _ (ownNd_nodes HN.out) hr hn)
        clear h hr hv h1 h2 v1 v2 he nn
        generalize sumC L = s at *
        go_enter Tryz.func47, Tryz.ntmps47
        go_wp2_with fail
        generalize (w.alloc (.cells #[.int .i64 k, .int .i64 l, .slice A n c] 37)).alloc (.cells #[.int .i64 0, .int .i64 0, .slice none 0 0] 37) = W0 at *
        refine (LF.out _).mono ?_
        rintro e w1 ⟨rfl, rfl⟩
        go_wp2_with fail
        refine WT.out.mono ?_
        rintro e w2 ⟨rfl, hb2⟩
        have I2 := Lib.hid (I0.out.below hb2)
        obtain ⟨t0, t1, t2, _, _, _, hz3⟩ := tri_all I2.out.s
        obtain ⟨y0, y1, y2, f0, f1, f2, hz2⟩ := tri_all I2.out.r
        obtain ⟨q0, q1, q2⟩ := set_three I2.out.r (.int .i64 k) (.int .i64 l) (.slice A n c)
        have E := Lib.hid (rdg_end (x := 5) I2.out (own_below HN.out hb2))
        clear hb2 x0 x1 x2 g0 g1 g2
        go_wp2_with fail
        exact bodyPost_ret (v := .tuple #[.agg #[.int .i64 k, .int .i64 l, .slice A n c], .int .i64 5]) (by simp [results, Tryz.results47, go_sem, q0, q1, q2]) rfl E.out
      · exact absurd (dgE_ok hv h1 h2) he
  · rw [dgE_val hv]
    obtain ⟨v1, v2⟩ := leaf_no hv
    rw [v2] at LF
    obtain ⟨y0, y1, y2, f0, f1, f2, hz2⟩ := tri_all I0.out.r
    obtain ⟨q0, q1, q2⟩ := set_three I0.out.r (.int .i64 k) (.int .i64 l) (.slice A n c)
    have E := Lib.hid (rdg_end (x := 3) I0.out HN.out)
    clear h hr hv v1 v2 he
    go_enter Tryz.func47, Tryz.ntmps47
    go_wp2_with fail
    generalize (w.alloc (.cells #[.int .i64 k, .int .i64 l, .slice A n c] 37)).alloc (.cells #[.int .i64 0, .int .i64 0, .slice none 0 0] 37) = W0 at *
    refine (LF.out _).mono ?_
    rintro e w1 ⟨rfl, rfl⟩
    go_wp2_with fail
    exact bodyPost_ret (v := .tuple #[.agg #[.int .i64 k, .int .i64 l, .slice A n c], .int .i64 3]) (by simp [results, Tryz.results47, go_sem, q0, q1, q2]) rfl E.out

end Go.Proofs.YtachfeclgdgbiaaGreat

/- The document's answer of package dewpondref13: Insert, where it is OK. -/
namespace Go.Proofs.YtachfeclgdgbiaaGreat
set_option linter.unusedVariables false
set_option maxRecDepth 100000
open Go.RowKit

/-- the tail's answer: a row of its own, put into both boxes -/
theorem rdg_end2 {k l : Int} {A A5 : Option Addr} {n c n5 c5 : Nat} {M : List Nd} {w w1 : World} {v y0 y1 y2 : Value} (I : DgI w w1 k l v y0 y1 y2) (o : OwnNd 75 w1 0 (.slice A5 n5 c5) M) (nw : NewB (.slice A n c) (.slice A5 n5 c5) w.heap.size) :
    RDgPost k l M 0 (.slice A n c) w (.returned (.tuple #[.agg #[.int .i64 k, .int .i64 l, .slice A5 n5 c5], .int .i64 0])) (((((w1.setCell ⟨w.heap.size, 1, none⟩ (.int .i64 l)).setCell ⟨w.heap.size, 2, none⟩ (.slice A5 n5 c5)).setCell ⟨w.heap.size + 1, 0, none⟩ (.int .i64 k)).setCell ⟨w.heap.size + 1, 1, none⟩ (.int .i64 l)).setCell ⟨w.heap.size + 1, 2, none⟩ (.slice A5 n5 c5)) := by
  have T1 := tri_set2 I.s (.int .i64 l) (.slice A5 n5 c5)
  have I2 := I.set2 (.slice A5 n5 c5)
  have T := tri_set I2.r (.int .i64 k) (.int .i64 l) (.slice A5 n5 c5)
  exact ⟨A5, n5, c5, rfl, T.2.1 _ _ _ _ _ _ (by decide) (T1.2.1 _ _ _ _ _ _ (by decide) o), I2.b.trans T.2.2.1, nw⟩
theorem NewB.refl' (v : Value) (k : Nat) : NewB v v k := .inl rfl
theorem newB_trans {a b c : Value} {i j : Nat} (h : NewB a b i) (h2 : NewB b c j) (hj : i ≤ j) : NewB a c i := by
  rcases h2 with q | q
  · rw [q]; exact h
  · exact .inr fun x e => Nat.le_trans hj (q x e)
set_option maxHeartbeats 6400000 in
theorem rDgInsert_ok (l k x cc : Int) (A : Option Addr) (n c : Nat) (L : List Nd) (w : World) (h : OwnNd 75 w 0 (.slice A n c) L) (v : DgV l k L) (hn : n ≤ 100) (he : dgE l L x cc = 0)
    (A0 : -9223372036854775808 ≤ x) (A1 : x ≤ 9223372036854775807) (B0 : -9223372036854775808 ≤ cc) (B1 : cc ≤ 9223372036854775807) :
    Calls Tryz.prog 47 #[.agg #[.int .i64 k, .int .i64 l, .slice A n c], .int .i64 x, .int .i64 cc] w (RDgPost k l (dgIns l k L x cc) 0 (.slice A n c) w) := by
  have I0 := Lib.hid (dgI_new w k l (.slice A n c))
  have HN := Lib.hid (own_below h I0.out.b)
  have u : 1 ≤ l ∧ l ≤ 48 := of_decide_eq_true v.roll.1
  have LF := Lib.hid (fun w => rleaf_any l x w (by omega) (by omega) A0 A1)
  obtain ⟨x0, x1, x2, g0, g1, g2, hz⟩ := tri_all I0.out.s
  obtain ⟨hv, h1, h2⟩ := dgE_yes he
  rw [(leaf_yes hv).2] at LF
  have lf := leaf_right hv
  have rb := right_yes lf.1
  have c1 : decide (cc < 1) = false := decide_eq_false h1
  have c2 : decide (72057594037927935 - sumC L < cc) = false := decide_eq_false (by omega)
  have nn := good_nonneg (roll_good v.roll)
  have s0 : 0 ≤ sumC L := Int.le_trans (sum_le nn 0).1 (sum_le nn 0).2
  have s1 := v.roll.2.2.2.2
  have hw : IntKind.i64.wrap (72057594037927935 - sumC L) = 72057594037927935 - sumC L := wrap_lit rfl (by omega) (by omega)
  have kb1 := v.k1
  have kb2 := v.k2
  have hw8 : IntKind.i64.wrap (8 * k) = 8 * k := wrap_lit rfl (by omega) (by omega)
  have WT := Lib.hid (rDgWeight_any l k A n c L _ (ownNd_nodes HN.out) v.roll (by omega))
  have GT := Lib.hid (fun w1 (hb : Below _ _ w1) => rsGet_any l (leafN l x) A n c L w1 ((ownNd_nodes HN.out).below hb) (by omega))
  rw [find_sum (roll_good v.roll)] at GT
  have R := Lib.hid (dgRoom_is v x)
  have HNL := Lib.hid (nodes_cells (ownNd_nodes HN.out)).1
  have HIN : Hid (dgIns l k L x cc = insW (dgRoom l k L x) (leafN l x) cc) := if_pos he
  have AD := Lib.hid (addS_ins (L := dgRoom l k L x) (c := cc) rb h1 (by rw [R.out.2.1]; exact h2))
  have lb := lf.2.2.1
  have lb2 := lf.2.2.2
  have RR := Lib.hid v.roll
  have RM : Hid (dgRoom l k L x = if sumAt (leafN l x) L = 0 ∧ (L.length : Int) = 8 * k then pressW l k L else L) := rfl
  rw [HIN.out]
  clear h nn h2 lf rb HIN v he hv h1
  generalize leafN l x = leaf at *
  generalize dgRoom l k L x = L2 at *
  by_cases hs : sumAt leaf L = 0
  · by_cases hl : (L.length : Int) = 8 * k
    · have e : L2 = pressW l k L := by rw [RM.out, if_pos ⟨hs, hl⟩]
      have z1 : (sumAt leaf L == 0) = true := beq_iff_eq.2 hs
      have z2 : ((n : Int) == 8 * k) = true := beq_iff_eq.2 (by have := HNL.out; omega)
      have CP := Lib.hid (fun w1 o => rDgCompress_any l k A n c L w1 o RR.out hn kb1 kb2)
      rw [← e] at CP
      clear RM hs hl e
      go_enter Tryz.func47, Tryz.ntmps47
      go_wp2_with fail
      generalize (w.alloc (.cells #[.int .i64 k, .int .i64 l, .slice A n c] 37)).alloc (.cells #[.int .i64 0, .int .i64 0, .slice none 0 0] 37) = W0 at *
      refine (LF.out _).mono ?_
      rintro e w1 ⟨rfl, rfl⟩
      go_wp2_with fail
      refine WT.out.mono ?_
      rintro e w2 ⟨rfl, hb2⟩
      have I2 := Lib.hid (I0.out.below hb2)
      have O2 := Lib.hid (own_below HN.out hb2)
      have HB2 := Lib.hid hb2
      obtain ⟨t0, t1, t2, a0, a1, a2, hz3⟩ := tri_all I2.out.s
      clear hb2 x0 x1 x2 g0 g1 g2
      go_wp2_with fail
      refine (GT.out _ HB2.out).mono ?_
      rintro e w3 ⟨rfl, hb3⟩
      have I3 := Lib.hid (I2.out.below hb3)
      have O3 := Lib.hid (own_below O2.out hb3)
      obtain ⟨t0, t1, t2, a0, a1, a2, hz3⟩ := tri_all I3.out.s
      clear hb3
      go_wp2_with fail
      refine (CP.out _ O3.out).mono ?_
      rintro e w4 ⟨A4, n4, c4, rfl, ho4, hb4, hnw4⟩
      have I4 := Lib.hid (I3.out.below hb4)
      have NW4 := Lib.hid (hnw4.mono I3.out.b.size)
      obtain ⟨t0, t1, t2, a0, a1, a2, hz3⟩ := tri_all I4.out.s
      have T4 := Lib.hid (tri_set I4.out.s (.int .i64 k) (.int .i64 l) (.slice A4 n4 c4))
      have I5 := Lib.hid (I4.out.set3 (.slice A4 n4 c4))
      have O5 := Lib.hid (T4.out.2.1 _ _ _ _ _ _ (by decide) ho4)
      have hn4 : n4 ≤ 1000 := by
        have a := (nodes_cells (ownNd_nodes ho4)).1
        have b := R.out.2.2.1
        have := HNL.out
        omega
      clear ho4 hb4 hnw4
      go_wp2_with fail
      generalize ((w4.setCell ⟨w.heap.size, 0, none⟩ (.int .i64 k)).setCell ⟨w.heap.size, 1, none⟩ (.int .i64 l)).setCell ⟨w.heap.size, 2, none⟩ (.slice A4 n4 c4) = W5 at *
      refine (rsAdd_any l leaf cc A4 n4 c4 L2 W5 O5.out R.out.1.roll (by omega) (by omega) (by omega) B0 B1).mono ?_
      rintro e w6 ⟨A5, n5, c5, rfl, ho6, hb6, hnw⟩
      rw [AD.out.1] at ho6
      have I6 := Lib.hid (I5.out.below hb6)
      have NW := Lib.hid (newB_trans NW4.out hnw I5.out.b.size)
      have E := Lib.hid (rdg_end2 I6.out ho6 NW.out)
      obtain ⟨t0, t1, t2, a0, a1, a2, hz3⟩ := tri_all I6.out.s
      have I7 := Lib.hid (I6.out.set2 (.slice A5 n5 c5))
      obtain ⟨y0, y1, y2, f0, f1, f2, hz2⟩ := tri_all I6.out.r
      obtain ⟨q0, q1, q2⟩ := set_three I7.out.r (.int .i64 k) (.int .i64 l) (.slice A5 n5 c5)
      clear ho6 hb6 hnw
      go_wp2_with fail
      exact bodyPost_ret (v := .tuple #[.agg #[.int .i64 k, .int .i64 l, .slice A5 n5 c5], .int .i64 0]) (by simp [results, Tryz.results47, go_sem, q0, q1, q2]) rfl E.out
    · have e : L2 = L := by rw [RM.out, if_neg fun z => hl z.2]
      subst e
      have z1 : (sumAt leaf L2 == 0) = true := beq_iff_eq.2 hs
      have z2 : ((n : Int) == 8 * k) = false := beq_eq_false_iff_ne.2 (by have := HNL.out; omega)
      clear RM hs hl
      go_enter Tryz.func47, Tryz.ntmps47
      go_wp2_with fail
      generalize (w.alloc (.cells #[.int .i64 k, .int .i64 l, .slice A n c] 37)).alloc (.cells #[.int .i64 0, .int .i64 0, .slice none 0 0] 37) = W0 at *
      refine (LF.out _).mono ?_
      rintro e w1 ⟨rfl, rfl⟩
      go_wp2_with fail
      refine WT.out.mono ?_
      rintro e w2 ⟨rfl, hb2⟩
      have I2 := Lib.hid (I0.out.below hb2)
      have O2 := Lib.hid (own_below HN.out hb2)
      have HB2 := Lib.hid hb2
      obtain ⟨t0, t1, t2, a0, a1, a2, hz3⟩ := tri_all I2.out.s
      clear hb2 x0 x1 x2 g0 g1 g2
      go_wp2_with fail
      refine (GT.out _ HB2.out).mono ?_
      rintro e w3 ⟨rfl, hb3⟩
      have I3 := Lib.hid (I2.out.below hb3)
      have O3 := Lib.hid (own_below O2.out hb3)
      obtain ⟨t0, t1, t2, a0, a1, a2, hz3⟩ := tri_all I3.out.s
      clear hb3
      go_wp2_with fail
      refine (rsAdd_any l leaf cc A n c L2 w3 O3.out R.out.1.roll (by omega) (by omega) (by omega) B0 B1).mono ?_
      rintro e w6 ⟨A5, n5, c5, rfl, ho6, hb6, hnw⟩
      rw [AD.out.1] at ho6
      have I6 := Lib.hid (I3.out.below hb6)
      have NW := Lib.hid (newB_trans (NewB.refl' (.slice A n c) w.heap.size) hnw I3.out.b.size)
      have E := Lib.hid (rdg_end2 I6.out ho6 NW.out)
      obtain ⟨t0, t1, t2, a0, a1, a2, hz3⟩ := tri_all I6.out.s
      have I7 := Lib.hid (I6.out.set2 (.slice A5 n5 c5))
      obtain ⟨y0, y1, y2, f0, f1, f2, hz2⟩ := tri_all I6.out.r
      obtain ⟨q0, q1, q2⟩ := set_three I7.out.r (.int .i64 k) (.int .i64 l) (.slice A5 n5 c5)
      clear ho6 hb6 hnw
      go_wp2_with fail
      exact bodyPost_ret (v := .tuple #[.agg #[.int .i64 k, .int .i64 l, .slice A5 n5 c5], .int .i64 0]) (by simp [results, Tryz.results47, go_sem, q0, q1, q2]) rfl E.out
  · have e : L2 = L := by rw [RM.out, if_neg fun z => hs z.1]
    subst e
    have z1 : (sumAt leaf L2 == 0) = false := beq_eq_false_iff_ne.2 hs
    clear RM hs
    go_enter Tryz.func47, Tryz.ntmps47
    go_wp2_with fail
    generalize (w.alloc (.cells #[.int .i64 k, .int .i64 l, .slice A n c] 37)).alloc (.cells #[.int .i64 0, .int .i64 0, .slice none 0 0] 37) = W0 at *
    refine (LF.out _).mono ?_
    rintro e w1 ⟨rfl, rfl⟩
    go_wp2_with fail
    refine WT.out.mono ?_
    rintro e w2 ⟨rfl, hb2⟩
    have I2 := Lib.hid (I0.out.below hb2)
    have O2 := Lib.hid (own_below HN.out hb2)
    have HB2 := Lib.hid hb2
    obtain ⟨t0, t1, t2, a0, a1, a2, hz3⟩ := tri_all I2.out.s
    clear hb2 x0 x1 x2 g0 g1 g2
    go_wp2_with fail
    refine (GT.out _ HB2.out).mono ?_
    rintro e w3 ⟨rfl, hb3⟩
    have I3 := Lib.hid (I2.out.below hb3)
    have O3 := Lib.hid (own_below O2.out hb3)
    obtain ⟨t0, t1, t2, a0, a1, a2, hz3⟩ := tri_all I3.out.s
    clear hb3
    go_wp2_with fail
    refine (rsAdd_any l leaf cc A n c L2 w3 O3.out R.out.1.roll (by omega) (by omega) (by omega) B0 B1).mono ?_
    rintro e w6 ⟨A5, n5, c5, rfl, ho6, hb6, hnw⟩
    rw [AD.out.1] at ho6
    have I6 := Lib.hid (I3.out.below hb6)
    have NW := Lib.hid (newB_trans (NewB.refl' (.slice A n c) w.heap.size) hnw I3.out.b.size)
    have E := Lib.hid (rdg_end2 I6.out ho6 NW.out)
    obtain ⟨t0, t1, t2, a0, a1, a2, hz3⟩ := tri_all I6.out.s
    have I7 := Lib.hid (I6.out.set2 (.slice A5 n5 c5))
    obtain ⟨y0, y1, y2, f0, f1, f2, hz2⟩ := tri_all I6.out.r
    obtain ⟨q0, q1, q2⟩ := set_three I7.out.r (.int .i64 k) (.int .i64 l) (.slice A5 n5 c5)
    clear ho6 hb6 hnw
    go_wp2_with fail
    exact bodyPost_ret (v := .tuple #[.agg #[.int .i64 k, .int .i64 l, .slice A5 n5 c5], .int .i64 0]) (by simp [results, Tryz.results47, go_sem, q0, q1, q2]) rfl E.out
theorem rDgInsert_any (l k x cc : Int) (A : Option Addr) (n c : Nat) (L : List Nd) (w : World) (h : OwnNd 75 w 0 (.slice A n c) L) (v : DgV l k L) (hn : n ≤ 100)
    (A0 : -9223372036854775808 ≤ x) (A1 : x ≤ 9223372036854775807) (B0 : -9223372036854775808 ≤ cc) (B1 : cc ≤ 9223372036854775807) :
    Calls Tryz.prog 47 #[.agg #[.int .i64 k, .int .i64 l, .slice A n c], .int .i64 x, .int .i64 cc] w (RDgPost k l (dgIns l k L x cc) (dgE l L x cc) (.slice A n c) w) := by
  have u : 1 ≤ l ∧ l ≤ 48 := of_decide_eq_true v.roll.1
  by_cases he : dgE l L x cc = 0
  · have z := rDgInsert_ok l k x cc A n c L w h v hn he A0 A1 B0 B1
    rw [he]
    exact z
  · rw [dgIns_no he]
    exact rDgInsert_no l k x cc A n c L w h v.roll (by omega) he (by omega) (by omega) A0 A1 B0 B1

end Go.Proofs.YtachfeclgdgbiaaGreat

/- The document's answers of package dewpondref13: Do, Above. -/
namespace Go.Proofs.YtachfeclgdgbiaaGreat
set_option linter.unusedVariables false
set_option maxRecDepth 100000
open Go.RowKit

/-- the three boxes of a call of Do -/
structure DgT (w W : World) (k l kd x cc : Int) (v y0 y1 y2 : Value) : Prop where
  s : W.ownsRow w.heap.size 37 3 (.slice (some ⟨w.heap.size, 0, none⟩) 1 1) 1 [.int .i64 k, .int .i64 l, v]
  o : W.ownsRow w.heap.size 47 3 (.slice (some ⟨w.heap.size + 1, 0, none⟩) 1 1) 1 [.int .i64 kd, .int .i64 x, .int .i64 cc]
  r : W.ownsRow w.heap.size 37 3 (.slice (some ⟨w.heap.size + 2, 0, none⟩) 1 1) 1 [y0, y1, y2]
  b : Below w.heap.size w W
theorem dgT_new (w : World) (k l kd x cc : Int) (v : Value) : DgT w (((w.alloc (.cells #[.int .i64 k, .int .i64 l, v] 37)).alloc (.cells #[.int .i64 kd, .int .i64 x, .int .i64 cc] 47)).alloc (.cells #[.int .i64 0, .int .i64 0, .slice none 0 0] 37)) k l kd x cc v (.int .i64 0) (.int .i64 0) (.slice none 0 0) := by
  have e1 : (w.alloc (.cells #[.int .i64 k, .int .i64 l, v] 37)).heap.size = w.heap.size + 1 := by simp
  have e2 : ((w.alloc (.cells #[.int .i64 k, .int .i64 l, v] 37)).alloc (.cells #[.int .i64 kd, .int .i64 x, .int .i64 cc] 47)).heap.size = w.heap.size + 2 := by simp
  have q1 := tri_new (w.alloc (.cells #[.int .i64 k, .int .i64 l, v] 37)) 47 (.int .i64 kd) (.int .i64 x) (.int .i64 cc)
  have q2 := tri_new ((w.alloc (.cells #[.int .i64 k, .int .i64 l, v] 37)).alloc (.cells #[.int .i64 kd, .int .i64 x, .int .i64 cc] 47)) 37 (.int .i64 0) (.int .i64 0) (.slice none 0 0)
  rw [e1] at q1
  rw [e2] at q2
  exact ⟨((tri_new w _ _ _ _).alloc _).alloc _, own_low (q1.alloc _) (by omega), own_low q2 (by omega), (((Below.refl _ _).alloc (Nat.le_refl _) _).alloc (by simp) _).alloc (by simp; omega) _⟩
theorem DgT.below {w W W' : World} {k l kd x cc : Int} {v y0 y1 y2 : Value} (h : DgT w W k l kd x cc v y0 y1 y2) (hb : Below W.heap.size W W') : DgT w W' k l kd x cc v y0 y1 y2 := ⟨own_below h.s hb, own_below h.o hb, own_below h.r hb, h.b.trans (hb.mono h.b.size)⟩
/-- what a callee has handed out, put into the result's box -/
theorem rdg_hand {k l kd x cc t : Int} {A A5 : Option Addr} {n c n5 c5 : Nat} {M : List Nd} {w w1 : World} {v y0 y1 y2 : Value} (I : DgT w w1 k l kd x cc v y0 y1 y2) (o : OwnNd 75 w1 0 (.slice A5 n5 c5) M) (nw : NewB (.slice A n c) (.slice A5 n5 c5) w.heap.size) :
    RDgPost k l M t (.slice A n c) w (.returned (.tuple #[.agg #[.int .i64 k, .int .i64 l, .slice A5 n5 c5], .int .i64 t])) (((w1.setCell ⟨w.heap.size + 2, 0, none⟩ (.int .i64 k)).setCell ⟨w.heap.size + 2, 1, none⟩ (.int .i64 l)).setCell ⟨w.heap.size + 2, 2, none⟩ (.slice A5 n5 c5)) := by
  have T := tri_set I.r (.int .i64 k) (.int .i64 l) (.slice A5 n5 c5)
  exact ⟨A5, n5, c5, rfl, T.2.1 _ _ _ _ _ _ (by decide) o, I.b.trans T.2.2.1, nw⟩
theorem dgDo_one {l k : Int} {L : List Nd} {x c : Int} : dgDo l k L 1 x c = pressW l k L ∧ dgTell l k L 1 x c = (pressN l k L : Int) := ⟨rfl, rfl⟩
theorem dgDo_two {l k : Int} {L : List Nd} {x c : Int} : dgDo l k L 2 x c = [] ∧ dgTell l k L 2 x c = 0 := ⟨rfl, rfl⟩
theorem dgDo_else {l k kd : Int} {L : List Nd} {x c : Int} (h1 : ¬ kd = 1) (h2 : ¬ kd = 2) : dgDo l k L kd x c = dgIns l k L x c ∧ dgTell l k L kd x c = dgE l L x c := by
  unfold dgDo dgTell
  rw [if_neg h1, if_neg h1, if_neg h2, if_neg h2]
  exact ⟨rfl, rfl⟩
set_option maxHeartbeats 6400000 in
theorem rDgDo_any (l k kd x cc : Int) (A : Option Addr) (n c : Nat) (L : List Nd) (w : World) (h : OwnNd 75 w 0 (.slice A n c) L) (v : DgV l k L) (hn : n ≤ 100)
    (A0 : -9223372036854775808 ≤ x) (A1 : x ≤ 9223372036854775807) (B0 : -9223372036854775808 ≤ cc) (B1 : cc ≤ 9223372036854775807) :
    Calls Tryz.prog 20 #[.agg #[.int .i64 k, .int .i64 l, .slice A n c], .agg #[.int .i64 kd, .int .i64 x, .int .i64 cc]] w (RDgPost k l (dgDo l k L kd x cc) (dgTell l k L kd x cc) (.slice A n c) w) := by
  have I0 := Lib.hid (dgT_new w k l kd x cc (.slice A n c))
  have HN := Lib.hid (own_below h I0.out.b)
  obtain ⟨x0, x1, x2, g0, g1, g2, hz⟩ := tri_all I0.out.s
  obtain ⟨z0, z1, z2, _, _, _, _⟩ := tri_all I0.out.o
  by_cases h1 : kd = 1
  · subst h1
    rw [dgDo_one.1, dgDo_one.2]
    have CP := Lib.hid (rDgCompress_any l k A n c L _ HN.out v.roll hn v.k1 v.k2)
    clear h v
    generalize pressW l k L = M at *
    generalize ((pressN l k L : Nat) : Int) = t at *
    go_enter Tryz.func20, Tryz.ntmps20
    go_wp2_with fail
    generalize ((w.alloc (.cells #[.int .i64 k, .int .i64 l, .slice A n c] 37)).alloc (.cells #[.int .i64 1, .int .i64 x, .int .i64 cc] 47)).alloc (.cells #[.int .i64 0, .int .i64 0, .slice none 0 0] 37) = W0 at *
    refine CP.out.mono ?_
    rintro e w1 ⟨A5, n5, c5, rfl, ho, hb, hnw⟩
    have I1 := Lib.hid (I0.out.below hb)
    have E := Lib.hid (rdg_hand (t := t) I1.out ho (hnw.mono I0.out.b.size))
    obtain ⟨y0, y1, y2, f0, f1, f2, hz2⟩ := tri_all I1.out.r
    obtain ⟨q0, q1, q2⟩ := set_three I1.out.r (.int .i64 k) (.int .i64 l) (.slice A5 n5 c5)
    clear ho hb hnw x0 x1 x2 z0 z1 z2
    go_wp2_with fail
    exact bodyPost_ret (v := .tuple #[.agg #[.int .i64 k, .int .i64 l, .slice A5 n5 c5], .int .i64 t]) (by simp [results, Tryz.results20, go_sem, q0, q1, q2]) rfl E.out
  · by_cases h2 : kd = 2
    · subst h2
      rw [dgDo_two.1, dgDo_two.2]
      have BB : Hid (Below w.heap.size w (((w.alloc (.cells #[.int .i64 k, .int .i64 l, .slice none 0 0] 37)).alloc (.cells #[.int .i64 2, .int .i64 x, .int .i64 cc] 47)).alloc (.cells #[.int .i64 k, .int .i64 l, .slice none 0 0] 37))) := (((Below.refl _ _).alloc (Nat.le_refl _) _).alloc (by simp) _).alloc (by simp; omega) _
      clear h v
      go_enter Tryz.func20, Tryz.ntmps20
      go_wp2_with fail
      exact bodyPost_ret (v := .tuple #[.agg #[.int .i64 k, .int .i64 l, .slice none 0 0], .int .i64 0]) (by simp [results, Tryz.results20, go_sem]) rfl ⟨none, 0, 0, rfl, ownNd_nil .., BB.out, .inr fun b e => by simp [Value.ownBlock] at e⟩
    · rw [(dgDo_else h1 h2).1, (dgDo_else h1 h2).2]
      have IN := Lib.hid (rDgInsert_any l k x cc A n c L _ HN.out v hn A0 A1 B0 B1)
      have b1 : (kd == 1) = false := beq_eq_false_iff_ne.2 h1
      have b2 : (kd == 2) = false := beq_eq_false_iff_ne.2 h2
      clear h v h1 h2
      generalize dgIns l k L x cc = M at *
      generalize dgE l L x cc = t at *
      go_enter Tryz.func20, Tryz.ntmps20
      go_wp2_with fail
      generalize ((w.alloc (.cells #[.int .i64 k, .int .i64 l, .slice A n c] 37)).alloc (.cells #[.int .i64 kd, .int .i64 x, .int .i64 cc] 47)).alloc (.cells #[.int .i64 0, .int .i64 0, .slice none 0 0] 37) = W0 at *
      refine IN.out.mono ?_
      rintro e w1 ⟨A5, n5, c5, rfl, ho, hb, hnw⟩
      have I1 := Lib.hid (I0.out.below hb)
      have E := Lib.hid (rdg_hand (t := t) I1.out ho (hnw.mono I0.out.b.size))
      obtain ⟨y0, y1, y2, f0, f1, f2, hz2⟩ := tri_all I1.out.r
      obtain ⟨q0, q1, q2⟩ := set_three I1.out.r (.int .i64 k) (.int .i64 l) (.slice A5 n5 c5)
      clear ho hb hnw x0 x1 x2 z0 z1 z2
      go_wp2_with fail
      exact bodyPost_ret (v := .tuple #[.agg #[.int .i64 k, .int .i64 l, .slice A5 n5 c5], .int .i64 t]) (by simp [results, Tryz.results20, go_sem, q0, q1, q2]) rfl E.out

end Go.Proofs.YtachfeclgdgbiaaGreat
