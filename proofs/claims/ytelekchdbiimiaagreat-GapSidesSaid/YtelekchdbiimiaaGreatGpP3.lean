/- The project's package gap: Apart. -/
import Derived.Test.YtelekchdbiimiaaGreatGpP2
import Derived.Test.YtelekchdbiimiaaGreatGpPT
import Derived.Test.YtelekchdbiimiaaGreatRound
namespace Go.Proofs.YtelekchdbiimiaaGreat
set_option linter.unusedVariables false
set_option maxRecDepth 100000
open Go.RowKit Go.Shelf
attribute [local go_sem] Oper.semAt_some
/-- three boxes of one cell each -/
theorem gp_three (w : World) (T1 T2 T3 : TypeId) (x y z : Value) : Below w.heap.size w (((w.alloc (.cells #[x] T1)).alloc (.cells #[y] T2)).alloc (.cells #[z] T3))
    ∧ (((w.alloc (.cells #[x] T1)).alloc (.cells #[y] T2)).alloc (.cells #[z] T3)).ownsRow w.heap.size T1 1 (.slice (some ⟨w.heap.size, 0, none⟩) 1 1) 1 [x]
    ∧ (((w.alloc (.cells #[x] T1)).alloc (.cells #[y] T2)).alloc (.cells #[z] T3)).ownsRow w.heap.size T2 1 (.slice (some ⟨w.heap.size + 1, 0, none⟩) 1 1) 1 [y]
    ∧ (((w.alloc (.cells #[x] T1)).alloc (.cells #[y] T2)).alloc (.cells #[z] T3)).ownsRow w.heap.size T3 1 (.slice (some ⟨w.heap.size + 1 + 1, 0, none⟩) 1 1) 1 [z]
    ∧ (((w.alloc (.cells #[x] T1)).alloc (.cells #[y] T2)).alloc (.cells #[z] T3)).heap.size = w.heap.size + 3 := by
  have e0 : (w.alloc (.cells #[x] T1)).heap.size = w.heap.size + 1 := by simp
  have e1 : ((w.alloc (.cells #[x] T1)).alloc (.cells #[y] T2)).heap.size = w.heap.size + 2 := by simp
  have b1 := box1 (w.alloc (.cells #[x] T1)) T2 y
  have b2 := box1 ((w.alloc (.cells #[x] T1)).alloc (.cells #[y] T2)) T3 z
  rw [e0] at b1
  rw [e1] at b2
  exact ⟨(((Below.refl _ _).alloc (Nat.le_refl _) _).alloc (by simp) _).alloc (by simp; omega) _, ((box1 w T1 x).alloc _).alloc _, own_low (b1.alloc _) (by omega), own_low b2 (by omega), by simp⟩
theorem gp_two (w : World) (T1 T2 : TypeId) (x y : Value) : Below w.heap.size w ((w.alloc (.cells #[x] T1)).alloc (.cells #[y] T2)) ∧ ((w.alloc (.cells #[x] T1)).alloc (.cells #[y] T2)).ownsRow w.heap.size T1 1 (.slice (some ⟨w.heap.size, 0, none⟩) 1 1) 1 [x]
    ∧ ((w.alloc (.cells #[x] T1)).alloc (.cells #[y] T2)).ownsRow w.heap.size T2 1 (.slice (some ⟨w.heap.size + 1, 0, none⟩) 1 1) 1 [y] ∧ ((w.alloc (.cells #[x] T1)).alloc (.cells #[y] T2)).heap.size = w.heap.size + 2 := by
  have e : (w.alloc (.cells #[x] T1)).heap.size = w.heap.size + 1 := by simp
  have b := box1 (w.alloc (.cells #[x] T1)) T2 y
  rw [e] at b
  exact ⟨((Below.refl _ _).alloc (Nat.le_refl _) _).alloc (by simp) _, (box1 w T1 x).alloc _, own_low b (by omega), by simp⟩
theorem gp_own {a b : Nat} (h : a ≠ b) : ∀ g, (Value.slice (some ⟨a, 0, none⟩) 1 1).ownBlock = some g → ¬ g = b := fun g e q => by
  simp [Value.ownBlock] at e; exact h (e.trans q)
/-- .. stored anew -/
theorem gp_set3 {T1 T2 T3 : TypeId} {w : World} {B p q r : Nat} {x y z : Value} (r1 : w.ownsRow B T1 1 (.slice (some ⟨p, 0, none⟩) 1 1) 1 [x]) (r2 : w.ownsRow B T2 1 (.slice (some ⟨q, 0, none⟩) 1 1) 1 [y]) (r3 : w.ownsRow B T3 1 (.slice (some ⟨r, 0, none⟩) 1 1) 1 [z]) (n1 : p ≠ q) (n2 : p ≠ r) (n3 : q ≠ r) (u v t : Value) :
    (((w.setCell ⟨p, 0, none⟩ u).setCell ⟨q, 0, none⟩ v).setCell ⟨r, 0, none⟩ t).ownsRow B T1 1 (.slice (some ⟨p, 0, none⟩) 1 1) 1 [u]
    ∧ (((w.setCell ⟨p, 0, none⟩ u).setCell ⟨q, 0, none⟩ v).setCell ⟨r, 0, none⟩ t).ownsRow B T2 1 (.slice (some ⟨q, 0, none⟩) 1 1) 1 [v]
    ∧ (((w.setCell ⟨p, 0, none⟩ u).setCell ⟨q, 0, none⟩ v).setCell ⟨r, 0, none⟩ t).ownsRow B T3 1 (.slice (some ⟨r, 0, none⟩) 1 1) 1 [t]
    ∧ Below B w (((w.setCell ⟨p, 0, none⟩ u).setCell ⟨q, 0, none⟩ v).setCell ⟨r, 0, none⟩ t) := by
  have k1 := Kp.setCell w ⟨p, 0, none⟩ u
  have k2 := Kp.setCell (w.setCell ⟨p, 0, none⟩ u) ⟨q, 0, none⟩ v
  have k3 := Kp.setCell ((w.setCell ⟨p, 0, none⟩ u).setCell ⟨q, 0, none⟩ v) ⟨r, 0, none⟩ t
  exact ⟨own_kp (own_kp (r1.stored 0 u).1 k2 (gp_own n1)) k3 (gp_own n2), own_kp ((own_kp r2 k1 (gp_own (Ne.symm n1))).stored 0 v).1 k3 (gp_own n3), ((own_kp (own_kp r3 k1 (gp_own (Ne.symm n2))) k2 (gp_own (Ne.symm n3))).stored 0 t).1,
    (((Below.refl _ _).setCell (p := ⟨p, 0, none⟩) (r1.lt p rfl).1 _).setCell (p := ⟨q, 0, none⟩) (r2.lt q rfl).1 _).setCell (p := ⟨r, 0, none⟩) (r3.lt r rfl).1 _⟩
theorem gp_pre {pr : List Nat} {x n : Nat} (h : pr ++ [x] <+: List.range n) : pr = List.range x ∧ x < n := by
  have e := List.prefix_iff_eq_take.1 h
  have hl := h.length_le
  rw [List.length_append, List.length_range] at hl
  have hl : pr.length + 1 ≤ n := hl
  rw [List.length_append, List.take_range, show min (pr.length + [x].length) n = pr.length + 1 by simp; omega, List.range_succ] at e
  obtain ⟨e1, e2⟩ := List.append_inj e (by simp)
  have e3 : x = pr.length := by simpa using e2
  subst e3
  exact ⟨e1, by omega⟩
theorem gp_take {C : List Int} {x : Nat} (h : x < C.length) : C.take x ++ [gpEl C x] <+: C ∧ ∀ y ∈ C.take x, ∃ i, i < x ∧ gpEl C i = y := by
  have e : gpEl C x = C[x] := by unfold gpEl; rw [List.getD_eq_getElem?_getD, List.getElem?_eq_getElem h, Option.getD_some]
  refine ⟨?_, fun y hy => ?_⟩
  · rw [e, ← List.take_succ_eq_append_getElem h]
    exact List.take_prefix _ _
  · obtain ⟨i, hi, ei⟩ := List.mem_iff_getElem.1 hy
    rw [List.length_take] at hi
    rw [List.getElem_take] at ei
    refine ⟨i, by omega, ?_⟩
    unfold gpEl
    rw [List.getD_eq_getElem?_getD, List.getElem?_eq_getElem (by omega), Option.getD_some, ei]
theorem gp_three_cells {T1 T2 T3 : TypeId} {w : World} {B p q r : Nat} {x y z : Value} (r1 : w.ownsRow B T1 1 (.slice (some ⟨p, 0, none⟩) 1 1) 1 [x]) (r2 : w.ownsRow B T2 1 (.slice (some ⟨q, 0, none⟩) 1 1) 1 [y]) (r3 : w.ownsRow B T3 1 (.slice (some ⟨r, 0, none⟩) 1 1) 1 [z]) :
    w.cell? ⟨p, 0, none⟩ = some x ∧ w.cell? ⟨q, 0, none⟩ = some y ∧ w.cell? ⟨r, 0, none⟩ = some z ∧ w.frozen? ⟨p, 0, none⟩ = false ∧ w.frozen? ⟨q, 0, none⟩ = false ∧ w.frozen? ⟨r, 0, none⟩ = false ∧ p < w.heap.size ∧ q < w.heap.size ∧ r < w.heap.size :=
  ⟨r1.cellAt 0 (by omega), r2.cellAt 0 (by omega), r3.cellAt 0 (by omega), r1.frozenAt 0, r2.frozenAt 0, r3.frozenAt 0, (r1.lt _ rfl).2, (r2.lt _ rfl).2, (r3.lt _ rfl).2⟩
set_option maxHeartbeats 6400000 in
theorem gpApart_in {B1 q1 p1 g1 h1 B2 q2 p2 g2 h2 : Nat} {kd1 l k1 kd2 k2 : Int} {n1 n2 : Nat} {L M : List Nd} (w : World) (d1 : DgA w B1 q1 p1 g1 h1 kd1 l k1 n1 L) (hn1 : n1 ≤ 400) (d2 : DgA w B2 q2 p2 g2 h2 kd2 l k2 n2 M) (hn2 : n2 ≤ 400) (hg : gpE l l L M = 0) :
    CallsIn Fence.wide 5 Tryz.prog 12 #[.pointer (some ⟨q1, 0, none⟩), .pointer (some ⟨q2, 0, none⟩)] w fun e w' => e = .returned (.tuple #[.int .i64 (apF (sdN l L M) (gpP l L M)).1, .int .i64 (apF (sdN l L M) (gpP l L M)).2, .int .i64 0]) ∧ Below w.heap.size w w' := by
  have RF := Lib.hid (fun v (hb : Below w.heap.size w v) => gpRefused_any v (d1.below hb) hn1 (d2.below hb) hn2)
  rw [hg] at RF
  obtain ⟨_, s1, s2⟩ := gpE_yes hg
  have rL := d1.v.roll
  have rM := d2.v.roll
  have hL : 0 < L.length := List.length_pos_iff.2 (fun e => s1 (by rw [e]; rfl))
  have hM : 0 < M.length := List.length_pos_iff.2 (fun e => s2 (by rw [e]; rfl))
  have OF1 := Lib.hid (fun v (hb : Below w.heap.size w v) => rnkOf_any v (d1.below hb) hn1)
  have OF2 := Lib.hid (fun v (hb : Below w.heap.size w v) => rnkOf_any v (d2.below hb) hn2)
  have D1 := Lib.hid d1
  have D2 := Lib.hid d2
  have CB := Lib.hid (fun (x : Nat) => (show 0 ≤ gpEl (gpC l L M) x ∧ gpEl (gpC l L M) x < 281474976710656 by
    unfold gpEl
    rcases Nat.lt_or_ge x (gpC l L M).length with q | q
    · exact gpC_bd rL rM (by rw [List.getD_eq_getElem?_getD, List.getElem?_eq_getElem q]; exact List.getElem_mem q)
    · rw [List.getD_eq_getElem?_getD, List.getElem?_eq_none q]; simp))
  have AN := Lib.hid (ap_none rL rM)
  have AF := Lib.hid (fun (pre : List Int) (x : Int) => ap_first (x := x) (P := []) (pre := pre) rL rM)
  have SO := Lib.hid (fun v x => gpSideOf_any v (gp_all (x := x) rL) (gp_all (x := x) rM))
  simp only [sh_sd] at SO
  have CS := Lib.hid (fun n ba bb W ca cb za zb (hb : Below w.heap.size w W) (hN : ∀ W' W2 k, Below W.heap.size W W' → Below W'.heap.size W' W2 → W'.heap.size ≤ k → (∃ o : Obj, W2.heap[k]? = some o ∧ o.isCells = true) → FrF (fun _ => False) W2 k) => gpChanges_stops n ba bb (q1 := q1) (q2 := q2) hn1 hn2 hL hM (FrF fun _ => False) (frF _) W ca cb za zb (d1.below hb) (d2.below hb) hN)
  clear d1 d2 hg s1 s2
  generalize (apF (sdN l L M) (gpP l L M)).1 = rx at *
  generalize (apF (sdN l L M) (gpP l L M)).2 = rs at *
  generalize gpC l L M = C at *
  obtain ⟨hb0, X0, Y0, Z0, sz0⟩ := gp_three w 3 3 35 (.int .i64 0) (.int .i64 0) (.int .i64 0)
  have B0 := Lib.hid hb0
  have HX := Lib.hid X0
  have HY := Lib.hid Y0
  have HZ := Lib.hid Z0
  clear hb0 X0 Y0 Z0
  refine callsIn_of_wp_marks Tryz.func12 rfl trivial ?_ rfl
  simp only [Tryz.ntmps12, List.size_toArray, List.length_cons, List.length_nil, Nat.reduceAdd, Nat.reduceSub, Array.replicate_succ, Array.replicate_zero, List.push_toArray, List.append_toArray, List.nil_append, List.cons_append]
  gi_wp2
  generalize ((w.alloc (.cells #[.int .i64 0] 3)).alloc (.cells #[.int .i64 0] 3)).alloc (.cells #[.int .i64 0] 35) = W1 at *
  refine ⟨trivial, (callsIn_wide.2 (RF.out _ B0.out)).mono ?_⟩
  rintro e w1 ⟨rfl, hb1⟩
  have S1 := Lib.hid (B0.out.trans (hb1.mono B0.out.size))
  have X1 := Lib.hid (own_below HX.out hb1)
  have Y1 := Lib.hid (own_below HY.out hb1)
  have Z1 := Lib.hid (own_below HZ.out hb1)
  clear hb1 HX HY HZ
  gi_wp2
  refine ⟨trivial, (callsIn_wide.2 (OF1.out _ S1.out)).mono ?_⟩
  rintro e w2 ⟨⟨t1, rfl, ht1⟩, hb2⟩
  have S2 := Lib.hid (S1.out.trans (hb2.mono S1.out.size))
  have X2 := Lib.hid (own_below X1.out hb2)
  have Y2 := Lib.hid (own_below Y1.out hb2)
  have Z2 := Lib.hid (own_below Z1.out hb2)
  have T1 := Lib.hid ht1
  clear hb2 ht1 X1 Y1 Z1
  gi_wp2
  refine ⟨trivial, (callsIn_wide.2 (OF2.out _ S2.out)).mono ?_⟩
  rintro e w3 ⟨⟨t2, rfl, ht2⟩, hb3⟩
  have S3 := Lib.hid (S2.out.trans (hb3.mono S2.out.size))
  have X3 := Lib.hid (own_below X2.out hb3)
  have Y3 := Lib.hid (own_below Y2.out hb3)
  have Z3 := Lib.hid (own_below Z2.out hb3)
  have T3 := Lib.hid (rnkTB_below T1.out hb3)
  have U3 := Lib.hid ht2
  clear hb3 ht2 X2 Y2 Z2 T1 OF1 OF2 RF
  obtain ⟨hb4, ra, rb, sz4⟩ := gp_two w3 85 85 (.pointer (some ⟨t1, 0, none⟩)) (.pointer (some ⟨t2, 0, none⟩))
  have H4 := Lib.hid hb4
  have RA := Lib.hid ra
  have RB := Lib.hid rb
  have S4 := Lib.hid (S3.out.trans (hb4.mono S3.out.size))
  have X4 := Lib.hid (own_below X3.out hb4)
  have Y4 := Lib.hid (own_below Y3.out hb4)
  have Z4 := Lib.hid (own_below Z3.out hb4)
  clear hb4 ra rb
  gi_wp2
  generalize (w3.alloc (.cells #[.pointer (some ⟨t1, 0, none⟩)] 85)).alloc (.cells #[.pointer (some ⟨t2, 0, none⟩)] 85) = W4 at *
  refine ⟨trivial, (callsIn_wide.2 (gpChanges_any _ _ _)).mono ?_⟩
  rintro e w5 ⟨rfl, rfl⟩
  obtain ⟨hb5, rc, rd, sz5⟩ := gp_two W4 27 27 (.pointer (some ⟨q1, 0, none⟩)) (.pointer (some ⟨q2, 0, none⟩))
  have ca5 := rc.cellAt 0 (by omega)
  have za5 := (rc.lt _ rfl).2
  have cb5 := rd.cellAt 0 (by omega)
  have zb5 := (rd.lt _ rfl).2
  have H5 := Lib.hid (H4.out.trans (hb5.mono H4.out.size))
  have S5 := Lib.hid (S4.out.trans (hb5.mono S4.out.size))
  have X5 := Lib.hid (own_below X4.out hb5)
  have Y5 := Lib.hid (own_below Y4.out hb5)
  have Z5 := Lib.hid (own_below Z4.out hb5)
  have RA5 := Lib.hid (own_below RA.out hb5)
  have RB5 := Lib.hid (own_below RB.out hb5)
  clear hb5 rc rd X4 Y4 Z4 RA RB sz4 sz5 sz0
  gi_wp2
  generalize (W4.alloc (.cells #[.pointer (some ⟨q1, 0, none⟩)] 27)).alloc (.cells #[.pointer (some ⟨q2, 0, none⟩)] 27) = W0 at *
  refine wpIn_rangeFunc_ownF rfl (by decide) (gf := 63) (lb := #[.pointer (some ⟨W4.heap.size, 0, none⟩), .pointer (some ⟨W4.heap.size + 1, 0, none⟩)]) rfl trivial (enters_of Tryz.func63 (by kernel_rfl) rfl)
    (CS.out 4 W4.heap.size (W4.heap.size + 1) W0 ca5 cb5 za5 zb5 S5.out (frF_new (F := fun _ => False) (B := W0.heap.size) (fun k q => q.elim) (Nat.le_refl _))) kpF_t (fun W l' o o' _ hl ho _ => kpF_b (frF _) W l' o o' hl ho) (Below.refl _ _) (fun _ => rfl)
    (fun pre W => ((∀ i ∈ pre, sdN l L M (gpEl C i) = 0) ∧ W.ownsRow w3.heap.size 85 1 (.slice (some ⟨w3.heap.size, 0, none⟩) 1 1) 1 [.pointer (some ⟨t1, 0, none⟩)] ∧ W.ownsRow w3.heap.size 85 1 (.slice (some ⟨w3.heap.size + 1, 0, none⟩) 1 1) 1 [.pointer (some ⟨t2, 0, none⟩)]) ∧ Below w3.heap.size w3 W)
    (fun cd pre W => (cd = .ret ∧ ∃ pr x, pre = pr ++ [x] ∧ (∀ i ∈ pr, sdN l L M (gpEl C i) = 0) ∧ sdN l L M (gpEl C x) ≠ 0 ∧ W.ownsRow w.heap.size 3 1 (.slice (some ⟨w.heap.size, 0, none⟩) 1 1) 1 [.int .i64 (gpEl C x)] ∧ W.ownsRow w.heap.size 3 1 (.slice (some ⟨w.heap.size + 1, 0, none⟩) 1 1) 1 [.int .i64 (sdN l L M (gpEl C x))] ∧ W.ownsRow w.heap.size 35 1 (.slice (some ⟨w.heap.size + 1 + 1, 0, none⟩) 1 1) 1 [.int .i64 0]) ∧ Below w.heap.size w W)
    (OwnFrom.and (Own.from (fun s A C row ⟨h, r1, r2⟩ hg hr => ⟨h, row_grown r1 hg hr, row_grown r2 hg hr⟩) _) (ownFrom_below (Nat.le_refl _) H5.out.size))
    (fun cd => OwnFrom.and (Own.from (fun s A C row ⟨h, pr, x, e, h1, h2, r1, r2, r3⟩ hg hr => ⟨h, pr, x, e, h1, h2, row_grown r1 hg hr, row_grown r2 hg hr, row_grown r3 hg hr⟩) _) (ownFrom_below (Nat.le_refl _) S5.out.size))
    ⟨⟨fun i h => by simp at h, RA5.out, RB5.out⟩, H5.out⟩
    ?a1 ?assign ?body ?done ?stop
  case assign =>
    intro l' x W K hK
    gi_wp2
    exact hK
  case body =>
    rintro l' pre x W ⟨⟨hz, ra, rb⟩, hB⟩ hpl
    have HZ := Lib.hid hz
    have RA := Lib.hid ra
    have RB := Lib.hid rb
    have HB := Lib.hid hB
    have c0 : W.cell? ⟨w3.heap.size, 0, none⟩ = some (.pointer (some ⟨t1, 0, none⟩)) := ra.cellAt 0 (by omega)
    have c1 : W.cell? ⟨w3.heap.size + 1, 0, none⟩ = some (.pointer (some ⟨t2, 0, none⟩)) := rb.cellAt 0 (by omega)
    have z0 := (ra.lt _ rfl).2
    have z1 := (rb.lt _ rfl).2
    have hw0 : Below W.heap.size W W.drew := below_drew W
    have LA := Lib.hid (fun v1 (hv : Below W.heap.size W v1) => gpShareAt_any (gpEl C x) v1 (rnkTB_below T3.out (hB.trans (hv.mono hB.size))))
    have LB := Lib.hid (fun v1 (hv : Below W.heap.size W v1) => gpShareAt_any (gpEl C x) v1 (rnkTB_below U3.out (hB.trans (hv.mono hB.size))))
    have SX := Lib.hid (fun v => SO.out v (gpEl C x))
    -- BODY
    have XW := Lib.hid (own_below X3.out hB)
    have YW := Lib.hid (own_below Y3.out hB)
    have ZW := Lib.hid (own_below Z3.out hB)
    have cb := CB.out x
    clear hz ra rb hB
    by_cases hs : sdN l L M (gpEl C x) = 0
    · rw [hs] at SX
      gi_wp2
      refine rnd_region (S := fun w' => w'.cell? ⟨w3.heap.size, 0, none⟩ = some (.pointer (some ⟨t1, 0, none⟩)) ∧ w'.cell? ⟨w3.heap.size + 1, 0, none⟩ = some (.pointer (some ⟨t2, 0, none⟩))) (by kernel_rfl) (by kernel_rfl) ⟨c0, c1⟩ (fun hHeld => ?_)
      refine wpAnyH_take (i := 0) (oi := { dst := some 26, op := _, type := _, pos := _, after := _, guard := _ }) (v := ?va0_1) rfl (by kernel_rfl) (by kernel_rfl) (by kernel_rfl) (fun _ _ _ h => h) (Or.inl ⟨by rfl, ?hya0_1⟩) (by assumption) ?resta0_1
      case hya0_1 => (intro w hSw; obtain ⟨hs1, hs2⟩ := hSw; (try dsimp only at *); go_simp <;> with_reducible rfl)
      try simp only [Act.put, List.setIfInBounds_toArray, List.set_cons_zero, List.set_cons_succ]
      refine wpAnyH_take (i := 1) (oi := { dst := some 27, op := _, type := _, pos := _, after := _, guard := _ }) (v := ?va1_2) rfl (by kernel_rfl) (by kernel_rfl) (by kernel_rfl) (fun _ _ _ h => h) (Or.inl ⟨by rfl, ?hya1_2⟩) (by assumption) ?resta1_2
      case hya1_2 => (intro w hSw; obtain ⟨hs1, hs2⟩ := hSw; (try dsimp only at *); go_simp <;> with_reducible rfl)
      try simp only [Act.put, List.setIfInBounds_toArray, List.set_cons_zero, List.set_cons_succ]
      refine wpAnyH_take (i := 3) (oi := { dst := some 29, op := _, type := _, pos := _, after := _, guard := _ }) (v := ?va3_3) rfl (by kernel_rfl) (by kernel_rfl) (by kernel_rfl) (fun _ _ _ h => h) (Or.inl ⟨by rfl, ?hya3_3⟩) (by assumption) ?resta3_3
      case hya3_3 => (intro w hSw; obtain ⟨hs1, hs2⟩ := hSw; (try dsimp only at *); go_simp <;> with_reducible rfl)
      try simp only [Act.put, List.setIfInBounds_toArray, List.set_cons_zero, List.set_cons_succ]
      refine wpAnyH_take (i := 4) (oi := { dst := some 30, op := _, type := _, pos := _, after := _, guard := _ }) (v := ?va4_4) rfl (by kernel_rfl) (by kernel_rfl) (by kernel_rfl) (fun _ _ _ h => h) (Or.inl ⟨by rfl, ?hya4_4⟩) (by assumption) ?resta4_4
      case hya4_4 => (intro w hSw; obtain ⟨hs1, hs2⟩ := hSw; (try dsimp only at *); go_simp <;> with_reducible rfl)
      try simp only [Act.put, List.setIfInBounds_toArray, List.set_cons_zero, List.set_cons_succ]
      refine wpAnyH_ready (rs := [2]) (by kernel_rfl) (by simp) ?_
      refine AllReadyH.cons (o := { dst := some 28, op := _, type := _, pos := _, after := _, guard := _ }) rfl (fun K hK => ?_) ?_
      rotate_left
      · exact AllReadyH.nil
      go_simp
      ((with_reducible refine (LA.out _ hw0).mono ?_); rintro e v1 ⟨rfl, hb1⟩)
      go_wp2_with fail
      have hw1 := hw0.trans (hb1.mono hw0.size)
      refine hK.out _ _ (by (try dsimp only); exact gpHeld2 ⟨c0, c1⟩ hw1 z0 z1) (fun hHeld => ?_)
      clear hK K
      try simp only [Act.put, List.setIfInBounds_toArray, List.set_cons_zero, List.set_cons_succ]
      refine wpAnyH_ready (rs := [5]) (by kernel_rfl) (by simp) ?_
      refine AllReadyH.cons (o := { dst := some 31, op := _, type := _, pos := _, after := _, guard := _ }) rfl (fun K hK => ?_) ?_
      rotate_left
      · exact AllReadyH.nil
      go_simp
      ((with_reducible refine (LB.out _ hw1).mono ?_); rintro e v2 ⟨rfl, hb2⟩)
      go_wp2_with fail
      have hw2 := hw1.trans (hb2.mono hw1.size)
      refine hK.out _ _ (by (try dsimp only); exact gpHeld2 ⟨c0, c1⟩ hw2 z0 z1) (fun hHeld => ?_)
      clear hK K
      try simp only [Act.put, List.setIfInBounds_toArray, List.set_cons_zero, List.set_cons_succ]
      refine wpAnyH_ready (rs := [6]) (by kernel_rfl) (by simp) ?_
      refine AllReadyH.cons (o := { dst := some 32, op := _, type := _, pos := _, after := _, guard := _ }) rfl (fun K hK => ?_) ?_
      rotate_left
      · exact AllReadyH.nil
      go_simp
      ((with_reducible refine (SX.out _).mono ?_); rintro e v3 ⟨rfl, hb3⟩)
      go_wp2_with fail
      have hw3 := hw2.trans (hb3.mono hw2.size)
      refine hK.out _ _ (by (try dsimp only); exact gpHeld2 ⟨c0, c1⟩ hw3 z0 z1) (fun hHeld => ?_)
      clear hK K
      try simp only [Act.put, List.setIfInBounds_toArray, List.set_cons_zero, List.set_cons_succ]
      refine wpAnyH_ready (rs := [7]) (by kernel_rfl) (by simp) ?_
      refine AllReadyH.cons (o := { dst := some 11, op := _, type := _, pos := _, after := _, guard := _ }) rfl (fun K hK => ?_) ?_
      rotate_left
      · exact AllReadyH.nil
      go_simp
      refine hK.out _ _ (by (try dsimp only); exact gpHeld2 ⟨c0, c1⟩ hw3 z0 z1) (fun hHeld => ?_)
      clear hK K
      try simp only [Act.put, List.setIfInBounds_toArray, List.set_cons_zero, List.set_cons_succ]
      refine wpAnyH_done (by kernel_rfl) ?_ _
      refine onlyN_normal ?_
      have H3 := Lib.hid hw3
      clear hb1 hb2 hb3 hw0 hw1 hw2 hw3 LA LB SX
      gi_wp2
      refine ⟨frF_others (F := fun _ => False) (Kp.of H3.out) (fun k _ q => q.elim), frF_kp (Kp.of H3.out), ⟨fun i hi => ?_, own_below RA.out H3.out, own_below RB.out H3.out⟩, HB.out.trans (H3.out.mono HB.out.size)⟩
      rcases List.mem_append.1 hi with hi | hi
      · exact HZ.out i hi
      · rw [List.mem_singleton.1 hi]; exact hs
    · gi_wp2
      refine rnd_region (S := fun w' => w'.cell? ⟨w3.heap.size, 0, none⟩ = some (.pointer (some ⟨t1, 0, none⟩)) ∧ w'.cell? ⟨w3.heap.size + 1, 0, none⟩ = some (.pointer (some ⟨t2, 0, none⟩))) (by kernel_rfl) (by kernel_rfl) ⟨c0, c1⟩ (fun hHeld => ?_)
      refine wpAnyH_take (i := 0) (oi := { dst := some 26, op := _, type := _, pos := _, after := _, guard := _ }) (v := ?vb0_1) rfl (by kernel_rfl) (by kernel_rfl) (by kernel_rfl) (fun _ _ _ h => h) (Or.inl ⟨by rfl, ?hyb0_1⟩) (by assumption) ?restb0_1
      case hyb0_1 => (intro w hSw; obtain ⟨hs1, hs2⟩ := hSw; (try dsimp only at *); go_simp <;> with_reducible rfl)
      try simp only [Act.put, List.setIfInBounds_toArray, List.set_cons_zero, List.set_cons_succ]
      refine wpAnyH_take (i := 1) (oi := { dst := some 27, op := _, type := _, pos := _, after := _, guard := _ }) (v := ?vb1_2) rfl (by kernel_rfl) (by kernel_rfl) (by kernel_rfl) (fun _ _ _ h => h) (Or.inl ⟨by rfl, ?hyb1_2⟩) (by assumption) ?restb1_2
      case hyb1_2 => (intro w hSw; obtain ⟨hs1, hs2⟩ := hSw; (try dsimp only at *); go_simp <;> with_reducible rfl)
      try simp only [Act.put, List.setIfInBounds_toArray, List.set_cons_zero, List.set_cons_succ]
      refine wpAnyH_take (i := 3) (oi := { dst := some 29, op := _, type := _, pos := _, after := _, guard := _ }) (v := ?vb3_3) rfl (by kernel_rfl) (by kernel_rfl) (by kernel_rfl) (fun _ _ _ h => h) (Or.inl ⟨by rfl, ?hyb3_3⟩) (by assumption) ?restb3_3
      case hyb3_3 => (intro w hSw; obtain ⟨hs1, hs2⟩ := hSw; (try dsimp only at *); go_simp <;> with_reducible rfl)
      try simp only [Act.put, List.setIfInBounds_toArray, List.set_cons_zero, List.set_cons_succ]
      refine wpAnyH_take (i := 4) (oi := { dst := some 30, op := _, type := _, pos := _, after := _, guard := _ }) (v := ?vb4_4) rfl (by kernel_rfl) (by kernel_rfl) (by kernel_rfl) (fun _ _ _ h => h) (Or.inl ⟨by rfl, ?hyb4_4⟩) (by assumption) ?restb4_4
      case hyb4_4 => (intro w hSw; obtain ⟨hs1, hs2⟩ := hSw; (try dsimp only at *); go_simp <;> with_reducible rfl)
      try simp only [Act.put, List.setIfInBounds_toArray, List.set_cons_zero, List.set_cons_succ]
      refine wpAnyH_ready (rs := [2]) (by kernel_rfl) (by simp) ?_
      refine AllReadyH.cons (o := { dst := some 28, op := _, type := _, pos := _, after := _, guard := _ }) rfl (fun K hK => ?_) ?_
      rotate_left
      · exact AllReadyH.nil
      go_simp
      ((with_reducible refine (LA.out _ hw0).mono ?_); rintro e v1 ⟨rfl, hb1⟩)
      go_wp2_with fail
      have hw1 := hw0.trans (hb1.mono hw0.size)
      refine hK.out _ _ (by (try dsimp only); exact gpHeld2 ⟨c0, c1⟩ hw1 z0 z1) (fun hHeld => ?_)
      clear hK K
      try simp only [Act.put, List.setIfInBounds_toArray, List.set_cons_zero, List.set_cons_succ]
      refine wpAnyH_ready (rs := [5]) (by kernel_rfl) (by simp) ?_
      refine AllReadyH.cons (o := { dst := some 31, op := _, type := _, pos := _, after := _, guard := _ }) rfl (fun K hK => ?_) ?_
      rotate_left
      · exact AllReadyH.nil
      go_simp
      ((with_reducible refine (LB.out _ hw1).mono ?_); rintro e v2 ⟨rfl, hb2⟩)
      go_wp2_with fail
      have hw2 := hw1.trans (hb2.mono hw1.size)
      refine hK.out _ _ (by (try dsimp only); exact gpHeld2 ⟨c0, c1⟩ hw2 z0 z1) (fun hHeld => ?_)
      clear hK K
      try simp only [Act.put, List.setIfInBounds_toArray, List.set_cons_zero, List.set_cons_succ]
      refine wpAnyH_ready (rs := [6]) (by kernel_rfl) (by simp) ?_
      refine AllReadyH.cons (o := { dst := some 32, op := _, type := _, pos := _, after := _, guard := _ }) rfl (fun K hK => ?_) ?_
      rotate_left
      · exact AllReadyH.nil
      go_simp
      ((with_reducible refine (SX.out _).mono ?_); rintro e v3 ⟨rfl, hb3⟩)
      go_wp2_with fail
      have hw3 := hw2.trans (hb3.mono hw2.size)
      refine hK.out _ _ (by (try dsimp only); exact gpHeld2 ⟨c0, c1⟩ hw3 z0 z1) (fun hHeld => ?_)
      clear hK K
      try simp only [Act.put, List.setIfInBounds_toArray, List.set_cons_zero, List.set_cons_succ]
      refine wpAnyH_ready (rs := [7]) (by kernel_rfl) (by simp) ?_
      refine AllReadyH.cons (o := { dst := some 11, op := _, type := _, pos := _, after := _, guard := _ }) rfl (fun K hK => ?_) ?_
      rotate_left
      · exact AllReadyH.nil
      go_simp
      refine hK.out _ _ (by (try dsimp only); exact gpHeld2 ⟨c0, c1⟩ hw3 z0 z1) (fun hHeld => ?_)
      clear hK K
      try simp only [Act.put, List.setIfInBounds_toArray, List.set_cons_zero, List.set_cons_succ]
      refine wpAnyH_done (by kernel_rfl) ?_ _
      refine onlyN_normal ?_
      have H3 := Lib.hid hw3
      have XV := Lib.hid (own_below XW.out hw3)
      have YV := Lib.hid (own_below YW.out hw3)
      have ZV := Lib.hid (own_below ZW.out hw3)
      obtain ⟨e0, e1, e2, f0, f1, f2, y0, y1, y2⟩ := gp_three_cells XV.out YV.out ZV.out
      obtain ⟨o0, o1, o2, ob⟩ := gp_set3 XV.out YV.out ZV.out (by omega) (by omega) (by omega) (.int .i64 (gpEl C x)) (.int .i64 (sdN l L M (gpEl C x))) (.int .i64 0)
      have O0 := Lib.hid o0
      have O1 := Lib.hid o1
      have O2 := Lib.hid o2
      have OB := Lib.hid (((S3.out.trans (HB.out.mono S3.out.size)).trans (H3.out.mono (S3.out.trans (HB.out.mono S3.out.size)).size)).trans ob)
      have KO := Lib.hid ((((frF_others (F := fun _ => False) (Kp.of H3.out) (fun k _ q => q.elim)).trans (KeepsOthers.setCell v3 ⟨w.heap.size, 0, none⟩ (.int .i64 (gpEl C x)))).trans (KeepsOthers.setCell _ ⟨w.heap.size + 1, 0, none⟩ (.int .i64 (sdN l L M (gpEl C x))))).trans (KeepsOthers.setCell _ ⟨w.heap.size + 1 + 1, 0, none⟩ (.int .i64 0)))
      clear hb1 hb2 hb3 hw0 hw1 hw2 hw3 LA LB SX o0 o1 o2 ob XV YV ZV XW YW ZW
      gi_wp2
      exact ⟨KO.out, ⟨rfl, pre, x, rfl, HZ.out, hs, O0.out, O1.out, O2.out⟩, OB.out⟩
  case done =>
    rintro D' ys W hD hys ⟨⟨hz, ra, rb⟩, hB⟩ hK
    subst hys
    obtain ⟨rfl, rfl⟩ := AN.out (fun y hy => by
      obtain ⟨i, hi, e⟩ := List.mem_iff_getElem.1 hy
      have q := hz i (List.mem_range.2 hi)
      unfold gpEl at q
      rwa [List.getD_eq_getElem?_getD, List.getElem?_eq_getElem hi, Option.getD_some, e] at q)
    have XW := Lib.hid (own_below X3.out hB)
    have YW := Lib.hid (own_below Y3.out hB)
    have ZW := Lib.hid (own_below Z3.out hB)
    obtain ⟨e0, e1, e2, f0, f1, f2, y0, y1, y2⟩ := gp_three_cells XW.out YW.out ZW.out
    obtain ⟨o0, o1, o2, ob⟩ := gp_set3 XW.out YW.out ZW.out (by omega) (by omega) (by omega) (.int .i64 0) (.int .i64 0) (.int .i64 0)
    have O0 := Lib.hid o0
    have O1 := Lib.hid o1
    have O2 := Lib.hid o2
    have OB := Lib.hid ((S3.out.trans (hB.mono S3.out.size)).trans ob)
    have HD := Lib.hid hD
    have hK' := (((KeepsOthers.setCell W ⟨w.heap.size, 0, none⟩ (.int .i64 0)).trans (KeepsOthers.setCell _ ⟨w.heap.size + 1, 0, none⟩ (.int .i64 0))).trans (KeepsOthers.setCell _ ⟨w.heap.size + 1 + 1, 0, none⟩ (.int .i64 0))).same D' _ hK rfl
    have HK := Lib.hid hK'
    clear hz ra rb hB hD o0 o1 o2 ob hK' XW YW ZW
    gi_wp2
    have w0 := (row_grown O0.out (grownBy_putObj' _ D' (.deferred none)) (fun r e => by cases e; exact ⟨_, HK.out, rfl⟩)).cellAt 0 (by omega)
    have w1 := (row_grown O1.out (grownBy_putObj' _ D' (.deferred none)) (fun r e => by cases e; exact ⟨_, HK.out, rfl⟩)).cellAt 0 (by omega)
    have w2 := (row_grown O2.out (grownBy_putObj' _ D' (.deferred none)) (fun r e => by cases e; exact ⟨_, HK.out, rfl⟩)).cellAt 0 (by omega)
    refine ⟨by simp, .inl ⟨_, _, rfl, run_takeDeferred HK.out, ?_⟩⟩
    exact ⟨.tuple #[.int .i64 0, .int .i64 0, .int .i64 0], by simp [results, Tryz.f12, go_sem, w0, w1, w2], rfl, OB.out.trans (belowK_b (w := W0) S5.out.size _ D' _ _ HD.out HK.out rfl rfl)⟩
  case stop =>
    rintro D' c pre W hD hpre ⟨⟨rfl, pr, x, rfl, h1, h2, ra, rb, rc⟩, hB⟩ hK
    obtain ⟨rfl, hx⟩ := gp_pre hpre
    obtain ⟨p1, p2⟩ := gp_take (C := C) hx
    obtain ⟨rfl, rfl⟩ := AF.out (C.take x) (gpEl C x) p1 (fun y hy => by
      obtain ⟨i, hi, e⟩ := p2 y hy
      rw [← e]; exact h1 i (List.mem_range.2 hi)) h2
    have w0 := (row_grown ra (grownBy_putObj' _ D' (.deferred none)) (fun r e => by cases e; exact ⟨_, hK, rfl⟩)).cellAt 0 (by omega)
    have w1 := (row_grown rb (grownBy_putObj' _ D' (.deferred none)) (fun r e => by cases e; exact ⟨_, hK, rfl⟩)).cellAt 0 (by omega)
    have w2 := (row_grown rc (grownBy_putObj' _ D' (.deferred none)) (fun r e => by cases e; exact ⟨_, hK, rfl⟩)).cellAt 0 (by omega)
    have OB := hB.trans (belowK_b (w := W0) S5.out.size W D' _ (.deferred none) hD hK rfl rfl)
    gi_wp2
    refine ⟨by simp, .inl ⟨_, _, rfl, run_takeDeferred hK, ?_⟩⟩
    exact ⟨.tuple #[.int .i64 (gpEl C x), .int .i64 (sdN l L M (gpEl C x)), .int .i64 0], by simp [results, Tryz.f12, go_sem, w0, w1, w2], rfl, OB⟩
theorem gpApart_no {p q : Option Addr} {er : Int} (hne : ¬ er = 0) (w : World) (RF : ∀ v, Below w.heap.size w v → Calls Tryz.prog 25 #[.pointer p, .pointer q] v fun e w' => e = .returned (.int .i64 er) ∧ Below v.heap.size v w') :
    Calls Tryz.prog 12 #[.pointer p, .pointer q] w fun e w' => e = .returned (.tuple #[.int .i64 0, .int .i64 0, .int .i64 er]) ∧ Below w.heap.size w w' := by
  have hq : (er == 0) = false := beq_eq_false_iff_ne.2 hne
  have RR := Lib.hid RF
  clear RF
  obtain ⟨hb0, X0, Y0, Z0, sz0⟩ := gp_three w 3 3 35 (.int .i64 0) (.int .i64 0) (.int .i64 0)
  have B0 := Lib.hid hb0
  have HX := Lib.hid X0
  have HY := Lib.hid Y0
  have HZ := Lib.hid Z0
  clear hb0 X0 Y0 Z0
  refine (callsIn_wide (n := 5)).1 (callsIn_of_wp_marks Tryz.func12 rfl trivial ?_ rfl)
  simp only [Tryz.ntmps12, List.size_toArray, List.length_cons, List.length_nil, Nat.reduceAdd, Nat.reduceSub, Array.replicate_succ, Array.replicate_zero, List.push_toArray, List.append_toArray, List.nil_append, List.cons_append]
  gi_wp2
  generalize ((w.alloc (.cells #[.int .i64 0] 3)).alloc (.cells #[.int .i64 0] 3)).alloc (.cells #[.int .i64 0] 35) = W1 at *
  refine ⟨trivial, (callsIn_wide.2 (RR.out _ B0.out)).mono ?_⟩
  rintro e w1 ⟨rfl, hb1⟩
  have S1 := B0.out.trans (hb1.mono B0.out.size)
  have X1 := own_below HX.out hb1
  have Y1 := own_below HY.out hb1
  have Z1 := own_below HZ.out hb1
  obtain ⟨e0, e1, e2, f0, f1, f2, y0, y1, y2⟩ := gp_three_cells X1 Y1 Z1
  obtain ⟨o0, o1, o2, ob⟩ := gp_set3 X1 Y1 Z1 (by omega) (by omega) (by omega) (.int .i64 0) (.int .i64 0) (.int .i64 er)
  have w0 := o0.cellAt 0 (by omega)
  have w1 := o1.cellAt 0 (by omega)
  have w2 := o2.cellAt 0 (by omega)
  have OB := Lib.hid (S1.trans ob)
  clear hb1 S1 X1 Y1 Z1 HX HY HZ o0 o1 o2 ob B0
  gi_wp2
  exact ⟨.tuple #[.int .i64 0, .int .i64 0, .int .i64 er], by simp [results, Tryz.f12, go_sem, w0, w1, w2], rfl, OB.out⟩
theorem gpApart_any {B1 q1 p1 g1 h1 B2 q2 p2 g2 h2 : Nat} {kd1 l1 k1 kd2 l2 k2 : Int} {n1 n2 : Nat} {L M : List Nd} (w : World) (d1 : DgA w B1 q1 p1 g1 h1 kd1 l1 k1 n1 L) (hn1 : n1 ≤ 400) (d2 : DgA w B2 q2 p2 g2 h2 kd2 l2 k2 n2 M) (hn2 : n2 ≤ 400) :
    Calls Tryz.prog 12 #[.pointer (some ⟨q1, 0, none⟩), .pointer (some ⟨q2, 0, none⟩)] w fun e w' => e = .returned (.tuple #[.int .i64 (apX l1 l2 L M), .int .i64 (apZ l1 l2 L M), .int .i64 (gpE l1 l2 L M)]) ∧ Below w.heap.size w w' := by
  by_cases hg : gpE l1 l2 L M = 0
  · obtain ⟨rfl, _, _⟩ := gpE_yes hg
    have a := callsIn_wide.1 (gpApart_in w d1 hn1 d2 hn2 hg)
    have e1 : apX l1 l1 L M = (apF (sdN l1 L M) (gpP l1 L M)).1 := if_pos hg
    have e2 : apZ l1 l1 L M = (apF (sdN l1 L M) (gpP l1 L M)).2 := if_pos hg
    rw [e1, e2, hg]
    exact a
  · have e1 : apX l1 l2 L M = 0 := if_neg hg
    have e2 : apZ l1 l2 L M = 0 := if_neg hg
    rw [e1, e2]
    exact gpApart_no hg w fun v hb => gpRefused_any v (d1.below hb) hn1 (d2.below hb) hn2
theorem gpAp : GpAp := ⟨fun w => gpApart_no (er := 1) (by omega) w fun v hb => gpRefused_nn v, fun w d hn => gpApart_no (er := 1) (by omega) w fun v hb => gpRefused_nd _ v, fun w d1 h1 d2 h2 => gpApart_any w d1 h1 d2 h2⟩
end Go.Proofs.YtelekchdbiimiaaGreat
