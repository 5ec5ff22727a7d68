/- The project's package reach: closures that tell how a node lies, and what is weighed by them. -/
import Derived.Test.YtnhagdlpidgkcaaGreatDgQ
import Derived.Test.YtnhagdlpidgkcaaGreatReK
import Derived.Test.YtnhagdlpidgkcaaGreatBgQ
import Derived.Test.YtnhagdlpidgkcaaGreatRkT
import Derived.Test.YtnhagdlpidgkcaaGreatPoQ
import Derived.Test.YtnhagdlpidgkcaaGreatMmy
import Derived.Test.YtnhagdlpidgkcaaGreatRoQ
import Derived.Deep.RegionWith
import Derived.Deep.Cut
import Derived.Deep.DeepCutAuto
import Derived.BigQuiet
namespace Go.Proofs.YtnhagdlpidgkcaaGreat
set_option linter.unusedVariables false
set_option maxRecDepth 100000
open Go.RowKit
/-- the result's box, and one with two sums -/
structure ReSm (T : TypeId) (W w : World) (br bo : Nat) (x y : Int) : Prop where
  r : w.ownsRow W.heap.size T 2 (.slice (some ⟨br, 0, none⟩) 1 1) 1 [.int .i64 0, .int .i64 0]
  o : w.ownsRow W.heap.size T 2 (.slice (some ⟨bo, 0, none⟩) 1 1) 1 [.int .i64 x, .int .i64 y]
  nr : br ≠ bo
  hb : Below W.heap.size W w
section
variable {T : TypeId} {W w w' : World} {br bo : Nat} {x y : Int}
theorem ReSm.below (h : ReSm T W w br bo x y) (q : Below w.heap.size w w') : ReSm T W w' br bo x y := ⟨own_below h.r q, own_below h.o q, h.nr, h.hb.trans (q.mono h.hb.size)⟩
theorem ReSm.set0 (h : ReSm T W w br bo x y) (u : Int) : ReSm T W (w.setCell ⟨bo, 0, none⟩ (.int .i64 u)) br bo u y :=
  ⟨own_kp h.r (Kp.setCell w ⟨bo, 0, none⟩ (.int .i64 u)) fun g e q => by simp [Value.ownBlock] at e; exact h.nr (e.trans q), (h.o.stored 0 (.int .i64 u)).1, h.nr, h.hb.setCell (p := ⟨bo, 0, none⟩) (h.o.lt bo rfl).1 _⟩
theorem ReSm.set1 (h : ReSm T W w br bo x y) (u : Int) : ReSm T W (w.setCell ⟨bo, 1, none⟩ (.int .i64 u)) br bo x u :=
  ⟨own_kp h.r (Kp.setCell w ⟨bo, 1, none⟩ (.int .i64 u)) fun g e q => by simp [Value.ownBlock] at e; exact h.nr (e.trans q), (h.o.stored 1 (.int .i64 u)).1, h.nr, h.hb.setCell (p := ⟨bo, 1, none⟩) (h.o.lt bo rfl).1 _⟩
theorem ReSm.cells (h : ReSm T W w br bo x y) : w.cell? ⟨bo, 0, none⟩ = some (.int .i64 x) ∧ w.cell? ⟨bo, 1, none⟩ = some (.int .i64 y) ∧ w.frozen? ⟨bo, 0, none⟩ = false ∧ w.frozen? ⟨bo, 1, none⟩ = false ∧ bo < w.heap.size :=
  ⟨h.o.cellAt 0 (by omega), h.o.cellAt 1 (by omega), h.o.frozenAt 0, h.o.frozenAt 1, (h.o.lt bo rfl).2⟩
theorem ReSm.rcells (h : ReSm T W w br bo x y) :
    w.cell? ⟨br, 0, none⟩ = some (.int .i64 0) ∧ w.cell? ⟨br, 1, none⟩ = some (.int .i64 0) ∧ w.frozen? ⟨br, 0, none⟩ = false ∧ w.frozen? ⟨br, 1, none⟩ = false ∧ br < w.heap.size ∧ ∀ u v, Below W.heap.size W ((w.setCell ⟨br, 0, none⟩ u).setCell ⟨br, 1, none⟩ v) :=
  ⟨h.r.cellAt 0 (by omega), h.r.cellAt 1 (by omega), h.r.frozenAt 0, h.r.frozenAt 1, (h.r.lt br rfl).2, fun u v => (h.hb.setCell (p := ⟨br, 0, none⟩) (h.r.lt br rfl).1 u).setCell (p := ⟨br, 1, none⟩) (h.r.lt br rfl).1 v⟩
theorem ReSm.new (T : TypeId) (W : World) : ReSm T W ((W.alloc (.cells #[.int .i64 0, .int .i64 0] T)).alloc (.cells #[.int .i64 0, .int .i64 0] T)) W.heap.size (W.heap.size + 1) 0 0 := by
  have e : (W.alloc (.cells #[.int .i64 0, .int .i64 0] T)).heap.size = W.heap.size + 1 := by simp
  have b := box2 (W.alloc (.cells #[.int .i64 0, .int .i64 0] T)) T (.int .i64 0) (.int .i64 0)
  rw [e] at b
  exact ⟨(box2 W T (.int .i64 0) (.int .i64 0)).alloc (.cells #[.int .i64 0, .int .i64 0] T), own_low b (by omega), by omega, ((Below.refl W.heap.size W).alloc (Nat.le_refl _) _).alloc (by simp) _⟩
/-- a row that lies behind the boxes is kept by a store into them -/
theorem ReSm.row {E : TypeId} {B : Nat} {v : Value} {L : List Nd} (h : ReSm T W w br bo x y) (o : OwnNd E w B v L) (hB : bo < B) (i : Nat) (u : Value) : OwnNd E (w.setCell ⟨bo, i, none⟩ u) B v L :=
  own_kp o (Kp.setCell w ⟨bo, i, none⟩ u) fun g e q => by have := (World.ownsRow.lt o g e).1; have : g = bo := q; omega
end
theorem re_sum {P : Int → Bool} {l : Int} {L : List Nd} (h : RollC l L) {j : Nat} (hj : j < L.length) : wtF P (L.take (j + 1)) = (if P (L.getD j nz).1 = true then wtF P (L.take j) + (L.getD j nz).2 else wtF P (L.take j)) ∧ -9223372036854775808 ≤ wtF P (L.take j) + (L.getD j nz).2 ∧ wtF P (L.take j) + (L.getD j nz).2 ≤ 9223372036854775807 := by
  have a := wtF_parts (P := P) h j
  have m := nd_mem hj
  have p := good_nonneg (roll_good h)
  have c := sumC_mem p m
  have t : sumC L ≤ 72057594037927935 := h.2.2.2.2
  have z := p _ m
  have s := wtF_take P hj
  refine ⟨?_, by omega, by omega⟩
  rw [s]
  split <;> omega
/-- a closure that tells of a node's values whether all of them, and whether one of them, is asked for -/
structure ReTell (W : World) (F : Nat) (caps : Array Value) (l : Int) (L : List Nd) (PA PO : Int → Bool) : Prop where
  eg : ∀ args w, (callFunc F args).run Tryz.prog w = .ok (.enter F args) w
  call : ∀ j, j < L.length → ∀ w, Below W.heap.size W w → Calls Tryz.prog F (#[.int .i64 (loN l (L.getD j nz).1), .int .i64 (hiN l (L.getD j nz).1)] ++ caps) w fun e w' => e = .returned (.tuple #[.bool (PA (L.getD j nz).1), .bool (PO (L.getD j nz).1)]) ∧ Below w.heap.size w w'
set_option maxHeartbeats 3200000 in
theorem reWeigh_any {B q p g h F : Nat} {caps : Array Value} {kd l k : Int} {n : Nat} {L : List Nd} {PA PO : Int → Bool} (w : World) (d : DgA w B q p g h kd l k n L) (hn : n ≤ 1000) (M : ReTell w F caps l L PA PO) :
    Calls Tryz.prog 77 #[.pointer (some ⟨q, 0, none⟩), .func (.func F) #[] caps] w fun e w' => e = .returned (.agg #[.int .i64 (wtF PA L), .int .i64 (wtF PO L)]) ∧ Below w.heap.size w w' := by
  have u := d.po.uni
  have N0 := Lib.hid (ReSm.new 50 w)
  have hz : ((w.alloc (.cells #[.int .i64 0, .int .i64 0] 50)).alloc (.cells #[.int .i64 0, .int .i64 0] 50)).heap.size = w.heap.size + 2 := by simp
  have CF := Lib.hid (fun v (hb : Below w.heap.size w v) => dgConf_any v (d.below hb).box)
  have ND := Lib.hid (fun v (hb : Below w.heap.size w v) => dgNodes_any v (d.below hb).box (d.below hb).po hn)
  have LN := Lib.hid (show L.length ≤ 1000 by have := d.po.len; omega)
  have NB := Lib.hid (nbds_roll d.v.roll)
  have SA := Lib.hid (fun (j : Nat) hj => re_sum (P := PA) d.v.roll (j := j) hj)
  have SO := Lib.hid (fun (j : Nat) hj => re_sum (P := PO) d.v.roll (j := j) hj)
  have FD : ∀ w, (Instr.field 23 (.agg #[.int .i64 l, .int .i64 k, .int .i64 kd]) 0).run Tryz.prog w = .ok (.int .i64 l) w := fun _ => by kernel_rfl
  have eg := M.eg
  have CL := Lib.hid M.call
  clear d M
  go_enter Tryz.func77, Tryz.ntmps77
  go_upto_region 2 with fail
  have z2 := hz
  generalize hW0 : ((w.alloc (.cells #[.int .i64 0, .int .i64 0] 50)).alloc (.cells #[.int .i64 0, .int .i64 0] 50)) = W0 at *
  clear hW0 hz
  go_wp2_with fail
  refine (CF.out _ N0.out.hb).mono ?_
  rintro e w1 ⟨rfl, hb1⟩
  have S1 := Lib.hid (N0.out.below hb1)
  have Z1 : Hid (w.heap.size + 2 ≤ w1.heap.size) := by show _ ≤ _; have := hb1.size; omega
  clear hb1 CF N0 z2
  go_wp2_with fail
  refine (ND.out _ S1.out.hb).mono ?_
  rintro e w2 ⟨A1, n1, c1, rfl, ho1, hb2⟩
  have HL := Lib.hid (nodes_cells (ownNd_nodes ho1)).1
  have n1b : n1 ≤ 1000 := by have := HL.out; have := LN.out; omega
  have O1 := Lib.hid ho1
  have S2 := Lib.hid (S1.out.below hb2)
  clear ho1 hb2 ND
  go_wp2_with fail
  go_loopw [20] (fun i wr => ∃ j : Nat, j ≤ n1 ∧ i = .int .i64 j ∧ OwnNd 87 wr w1.heap.size (.slice A1 n1 c1) L ∧ ReSm 50 w wr w.heap.size (w.heap.size + 1) (wtF PA (L.take j)) (wtF PO (L.take j))) (fun i _ => n1 - (intOf i).toNat)
  case atStart => exact ⟨0, by omega, rfl, O1.out, S2.out⟩
  case round =>
    obtain ⟨j, hj, rfl, ho, hI⟩ := hrel
    have OO := Lib.hid ho
    have II := Lib.hid hI
    clear ho hI O1 S2 S1
    by_cases hlt : j < n1
    · have hjl : j < L.length := by have := HL.out; omega
      rcases ownNd_form OO.out with ⟨_, z⟩ | ⟨g2, cap, hv, _, hgw, _, _, hin⟩
      · rw [z] at hjl; simp at hjl
      · injection hv with hv1 hv2 hv3
        subst hv1
        obtain ⟨e0, e1⟩ := hin.2 j hjl
        simp only [Nat.zero_add] at e0 e1
        have nb := nbds_at NB.out hjl
        have sA := Lib.hid (SA.out j hjl).1
        have sO := Lib.hid (SO.out j hjl).1
        have bA := (SA.out j hjl).2
        have bO := (SO.out j hjl).2
        have CM := Lib.hid (CL.out j hjl)
        have OA := Lib.hid (World.ownsRow.alloc OO.out (.cells #[.int .i64 (L.getD j nz).1, .int .i64 (L.getD j nz).2] 87))
        have IA := Lib.hid (II.out.below (below_one wr (.cells #[.int .i64 (L.getD j nz).1, .int .i64 (L.getD j nz).2] 87)))
        generalize (L.getD j nz).1 = id at *
        generalize (L.getD j nz).2 = ct at *
        have k0' : (0 : Int) ≤ (j : Int) := Int.natCast_nonneg _
        have k1' : (j : Int) < (n1 : Int) := by omega
        have EN := Lib.hid (fun w => ends_any l id w (by omega) (by omega) nb.1.1 nb.1.2)
        have cn : (wr.alloc (.cells #[.int .i64 id, .int .i64 ct] 87)).cell? ⟨wr.heap.size, 1, none⟩ = some (.int .i64 ct) := by simp
        have ln : wr.heap.size < (wr.alloc (.cells #[.int .i64 id, .int .i64 ct] 87)).heap.size := by simp
        have CN := Lib.hid cn
        have LL := Lib.hid ln
        have zr := II.out.hb.size
        have zb := II.out.cells.2.2.2.2
        clear hv2 hv3 hin cn ln
        generalize hx : wtF PA (L.take j) = x at *
        generalize hy : wtF PO (L.take j) = y at *
        generalize hx2 : wtF PA (L.take (j + 1)) = x2 at *
        generalize hy2 : wtF PO (L.take (j + 1)) = y2 at *
        have HX := Lib.hid hx2
        have HY := Lib.hid hy2
        clear hx hy hx2 hy2
        have w1 : IntKind.i64.wrap (x + ct) = x + ct := wrap_lit rfl bA.1 bA.2
        have w2 : IntKind.i64.wrap (y + ct) = y + ct := wrap_lit rfl bO.1 bO.2
        generalize hPA : PA id = pa at *
        generalize hPO : PO id = po at *
        clear hPA hPO
        go_wp2_with (go_at_call 64; refine (EN.out _).mono ?_; rintro e w3 ⟨rfl, rfl⟩)
        refine (CM.out _ IA.out.hb).mono ?_
        rintro e w4 ⟨rfl, hb4⟩
        have O4 := Lib.hid (own_below OA.out hb4)
        have I4 := Lib.hid (IA.out.below hb4)
        have cn : w4.cell? ⟨wr.heap.size, 1, none⟩ = some (.int .i64 ct) := (hb4.cell (p := ⟨wr.heap.size, 1, none⟩) LL.out).trans CN.out
        have ln : wr.heap.size < w4.heap.size := Nat.lt_of_lt_of_le LL.out hb4.size
        obtain ⟨c0, c1, f0, f1, lb⟩ := I4.out.cells
        have zz := Z1.out
        clear hb4 CM EN e0 e1 IA OA CN LL
        cases pa <;> cases po
        · have ex : Hid (x2 = x) := by have := sA.out; simp at this; exact this
          have ey : Hid (y2 = y) := by have := sO.out; simp at this; exact this
          clear sA sO
          go_wp2_with fail
          go_roundw
          case rel => exact ⟨j + 1, by omega, by go_num, O4.out, by rw [HX.out, HY.out, ex.out, ey.out]; exact I4.out⟩
          case measure => simp [intOf]; omega
        · have ex : Hid (x2 = x) := by have := sA.out; simp at this; exact this
          have ey : Hid (y2 = y + ct) := by have := sO.out; simp at this; exact this
          clear sA sO
          go_wp2_with fail
          go_roundw
          case rel => exact ⟨j + 1, by omega, by go_num, (I4.out.row O4.out (by omega) 1 _), by rw [HX.out, HY.out, ex.out, ey.out]; exact (I4.out.set1 _)⟩
          case measure => simp [intOf]; omega
        · have ex : Hid (x2 = x + ct) := by have := sA.out; simp at this; exact this
          have ey : Hid (y2 = y) := by have := sO.out; simp at this; exact this
          clear sA sO
          go_wp2_with fail
          go_roundw
          case rel => exact ⟨j + 1, by omega, by go_num, (I4.out.row O4.out (by omega) 0 _), by rw [HX.out, HY.out, ex.out, ey.out]; exact (I4.out.set0 _)⟩
          case measure => simp [intOf]; omega
        · have ex : Hid (x2 = x + ct) := by have := sA.out; simp at this; exact this
          have ey : Hid (y2 = y + ct) := by have := sO.out; simp at this; exact this
          clear sA sO
          go_wp2_with fail
          go_roundw
          case rel => exact ⟨j + 1, by omega, by go_num, ((I4.out.set0 _).row (I4.out.row O4.out (by omega) 0 _) (by omega) 1 _), by rw [HX.out, HY.out, ex.out, ey.out]; exact ((I4.out.set0 _).set1 _)⟩
          case measure => simp [intOf]; omega
    · obtain rfl : j = n1 := by omega
      have e : L.take j = L := List.take_of_length_le (by have := HL.out; omega)
      rw [e] at II
      obtain ⟨c0, c1, f0, f1, lb⟩ := II.out.cells
      obtain ⟨r0, r1, r2, r3, r4, r5⟩ := II.out.rcells
      obtain ⟨q0, q1⟩ := set_two r0 r1
      clear e
      go_wp2_with fail
      exact bodyPost_ret (v := .agg #[.int .i64 (wtF PA L), .int .i64 (wtF PO L)]) (by simp [results, Tryz.results77, go_sem, q0, q1]) rfl ⟨rfl, r5 _ _⟩
set_option maxHeartbeats 1600000 in
theorem reBtw1_any {Na Nb : Nat} (a b lo hi : Int) (w : World) (ca : w.cell? ⟨Na, 0, none⟩ = some (.int .i64 a)) (cb : w.cell? ⟨Nb, 0, none⟩ = some (.int .i64 b)) :
    Calls Tryz.prog 78 #[.int .i64 lo, .int .i64 hi, .pointer (some ⟨Na, 0, none⟩), .pointer (some ⟨Nb, 0, none⟩)] w fun e w' => e = .returned (.tuple #[.bool (decide (a ≤ lo ∧ hi ≤ b)), .bool (decide (lo ≤ b ∧ a ≤ hi))]) ∧ Below w.heap.size w w' := by
  have e1 : decide (a ≤ lo ∧ hi ≤ b) = (decide (a ≤ lo) && decide (hi ≤ b)) := Bool.decide_and ..
  have e2 : decide (lo ≤ b ∧ a ≤ hi) = (decide (a ≤ hi) && decide (lo ≤ b)) := (Bool.decide_and ..).trans (Bool.and_comm ..)
  rw [e1, e2]
  clear e1 e2
  by_cases h1 : a ≤ lo <;> by_cases h2 : a ≤ hi
  · have d1 : decide (a ≤ lo) = true := decide_eq_true h1
    have d2 : decide (a ≤ hi) = true := decide_eq_true h2
    rw [d1, d2, Bool.true_and, Bool.true_and]
    go_enter Tryz.func78, Tryz.ntmps78
    go_wp2_with fail
    go_quiet (fail)
    go_wp2_with fail
    go_ret2
    exact ⟨rfl, drewN_below (Below.refl _ _) _⟩
  · have d1 : decide (a ≤ lo) = true := decide_eq_true h1
    have d2 : decide (a ≤ hi) = false := decide_eq_false h2
    rw [d1, d2, Bool.true_and, Bool.false_and]
    go_enter Tryz.func78, Tryz.ntmps78
    go_wp2_with fail
    go_quiet (fail)
    go_wp2_with fail
    go_ret2
    exact ⟨rfl, drewN_below (Below.refl _ _) _⟩
  · have d1 : decide (a ≤ lo) = false := decide_eq_false h1
    have d2 : decide (a ≤ hi) = true := decide_eq_true h2
    rw [d1, d2, Bool.true_and, Bool.false_and]
    go_enter Tryz.func78, Tryz.ntmps78
    go_wp2_with fail
    go_quiet (fail)
    go_wp2_with fail
    go_ret2
    exact ⟨rfl, drewN_below (Below.refl _ _) _⟩
  · have d1 : decide (a ≤ lo) = false := decide_eq_false h1
    have d2 : decide (a ≤ hi) = false := decide_eq_false h2
    rw [d1, d2, Bool.false_and, Bool.false_and]
    go_enter Tryz.func78, Tryz.ntmps78
    go_wp2_with fail
    go_quiet (fail)
    go_wp2_with fail
    go_ret2
    exact ⟨rfl, drewN_below (Below.refl _ _) _⟩
end Go.Proofs.YtnhagdlpidgkcaaGreat
