/- Texts laid together: ReRef, ReRef2, ReRef4, ReRef3, ReRef5, ReRef6, ReRef7. -/
import Derived.Test.YtmfdpaahklndnaaGreatReK
import Derived.Test.YtmfdpaahklndnaaGreatDgR
import Derived.Test.YtmfdpaahklndnaaGreatTiQ
import Derived.Test.YtmfdpaahklndnaaGreatRfQ
import Derived.Test.YtmfdpaahklndnaaGreatRoQ
import Derived.Deep.Cut
import Derived.BigQuiet
import Derived.StillTailTactics
import Derived.Test.YtmfdpaahklndnaaGreatMmy
import Derived.Deep.RegionHeld3
namespace Go.Proofs.YtmfdpaahklndnaaGreat
set_option linter.unusedVariables false
set_option maxRecDepth 100000
open Go.RowKit
/-- the digest's box, the result's, and one with two sums -/
structure ReBx (TD TB : TypeId) (W w : World) (bd br bo : Nat) (k l : Int) (A : Option Addr) (n c : Nat) (x y : Int) : Prop where
  d : w.ownsRow W.heap.size TD 3 (.slice (some ⟨bd, 0, none⟩) 1 1) 1 [.int .i64 k, .int .i64 l, .slice A n c]
  r : w.ownsRow W.heap.size TB 2 (.slice (some ⟨br, 0, none⟩) 1 1) 1 [.int .i64 0, .int .i64 0]
  o : w.ownsRow W.heap.size TB 2 (.slice (some ⟨bo, 0, none⟩) 1 1) 1 [.int .i64 x, .int .i64 y]
  nd : bd ≠ bo
  nr : br ≠ bo
  hb : Below W.heap.size W w
variable {TD TB : TypeId} {W w w' : World} {bd br bo : Nat} {k l : Int} {A : Option Addr} {n c : Nat} {x y : Int}
theorem ReBx.below (h : ReBx TD TB W w bd br bo k l A n c x y) (q : Below w.heap.size w w') : ReBx TD TB W w' bd br bo k l A n c x y := ⟨own_below h.d q, own_below h.r q, own_below h.o q, h.nd, h.nr, h.hb.trans (q.mono h.hb.size)⟩
theorem ReBx.set0 (h : ReBx TD TB W w bd br bo k l A n c x y) (u : Int) : ReBx TD TB W (w.setCell ⟨bo, 0, none⟩ (.int .i64 u)) bd br bo k l A n c u y :=
  ⟨own_kp h.d (Kp.setCell w ⟨bo, 0, none⟩ (.int .i64 u)) fun g e q => by simp [Value.ownBlock] at e; exact h.nd (e.trans q),
   own_kp h.r (Kp.setCell w ⟨bo, 0, none⟩ (.int .i64 u)) fun g e q => by simp [Value.ownBlock] at e; exact h.nr (e.trans q), (h.o.stored 0 (.int .i64 u)).1, h.nd, h.nr, h.hb.setCell (p := ⟨bo, 0, none⟩) (h.o.lt bo rfl).1 _⟩
theorem ReBx.set1 (h : ReBx TD TB W w bd br bo k l A n c x y) (u : Int) : ReBx TD TB W (w.setCell ⟨bo, 1, none⟩ (.int .i64 u)) bd br bo k l A n c x u :=
  ⟨own_kp h.d (Kp.setCell w ⟨bo, 1, none⟩ (.int .i64 u)) fun g e q => by simp [Value.ownBlock] at e; exact h.nd (e.trans q),
   own_kp h.r (Kp.setCell w ⟨bo, 1, none⟩ (.int .i64 u)) fun g e q => by simp [Value.ownBlock] at e; exact h.nr (e.trans q), (h.o.stored 1 (.int .i64 u)).1, h.nd, h.nr, h.hb.setCell (p := ⟨bo, 1, none⟩) (h.o.lt bo rfl).1 _⟩
theorem ReBx.cells (h : ReBx TD TB W w bd br bo k l A n c x y) :
    w.cell? ⟨bd, 0, none⟩ = some (.int .i64 k) ∧ w.cell? ⟨bd, 1, none⟩ = some (.int .i64 l) ∧ w.cell? ⟨bd, 2, none⟩ = some (.slice A n c) ∧ w.cell? ⟨bo, 0, none⟩ = some (.int .i64 x) ∧ w.cell? ⟨bo, 1, none⟩ = some (.int .i64 y) ∧ w.frozen? ⟨bo, 0, none⟩ = false ∧ w.frozen? ⟨bo, 1, none⟩ = false ∧ bd < w.heap.size ∧ bo < w.heap.size :=
  ⟨h.d.cellAt 0 (by omega), h.d.cellAt 1 (by omega), h.d.cellAt 2 (by omega), h.o.cellAt 0 (by omega), h.o.cellAt 1 (by omega), h.o.frozenAt 0, h.o.frozenAt 1, (h.d.lt bd rfl).2, (h.o.lt bo rfl).2⟩
theorem ReBx.rcells (h : ReBx TD TB W w bd br bo k l A n c x y) :
    w.cell? ⟨br, 0, none⟩ = some (.int .i64 0) ∧ w.cell? ⟨br, 1, none⟩ = some (.int .i64 0) ∧ w.frozen? ⟨br, 0, none⟩ = false ∧ w.frozen? ⟨br, 1, none⟩ = false ∧ br < w.heap.size ∧ ∀ u v, Below W.heap.size W ((w.setCell ⟨br, 0, none⟩ u).setCell ⟨br, 1, none⟩ v) :=
  ⟨h.r.cellAt 0 (by omega), h.r.cellAt 1 (by omega), h.r.frozenAt 0, h.r.frozenAt 1, (h.r.lt br rfl).2, fun u v => (h.hb.setCell (p := ⟨br, 0, none⟩) (h.r.lt br rfl).1 u).setCell (p := ⟨br, 1, none⟩) (h.r.lt br rfl).1 v⟩
theorem ReBx.dn (h : ReBx TD TB W w bd br bo k l A n c x y) (q : Nat) : ReBx TD TB W (w.drewN q) bd br bo k l A n c x y := h.below ⟨rfl, rfl, rfl, Nat.le_refl _, fun _ _ => rfl⟩
theorem ReBx.new (TD TB : TypeId) (W : World) (k l : Int) (A : Option Addr) (n c : Nat) :
    ReBx TD TB W (((W.alloc (.cells #[.int .i64 k, .int .i64 l, .slice A n c] TD)).alloc (.cells #[.int .i64 0, .int .i64 0] TB)).alloc (.cells #[.int .i64 0, .int .i64 0] TB)) W.heap.size (W.heap.size + 1) (W.heap.size + 1 + 1) k l A n c 0 0 := by
  have e1 : (W.alloc (.cells #[.int .i64 k, .int .i64 l, .slice A n c] TD)).heap.size = W.heap.size + 1 := by simp
  have e2 : ((W.alloc (.cells #[.int .i64 k, .int .i64 l, .slice A n c] TD)).alloc (.cells #[.int .i64 0, .int .i64 0] TB)).heap.size = W.heap.size + 1 + 1 := by simp
  have a := ((tri_nw W TD (.int .i64 k) (.int .i64 l) (.slice A n c)).alloc (.cells #[.int .i64 0, .int .i64 0] TB)).alloc (.cells #[.int .i64 0, .int .i64 0] TB)
  have b := (box2 (W.alloc (.cells #[.int .i64 k, .int .i64 l, .slice A n c] TD)) TB (.int .i64 0) (.int .i64 0)).alloc (.cells #[.int .i64 0, .int .i64 0] TB)
  have d := box2 ((W.alloc (.cells #[.int .i64 k, .int .i64 l, .slice A n c] TD)).alloc (.cells #[.int .i64 0, .int .i64 0] TB)) TB (.int .i64 0) (.int .i64 0)
  rw [e1] at b
  rw [e2] at d
  exact ⟨a, own_low b (by omega), own_low d (by omega), by omega, by omega, ((((Below.refl W.heap.size W).alloc (Nat.le_refl _) _).alloc (by simp) _).alloc (by simp; omega) _)⟩
end Go.Proofs.YtmfdpaahklndnaaGreat
namespace Go.Proofs.YtmfdpaahklndnaaGreat
set_option linter.unusedVariables false
set_option maxRecDepth 100000
open Go.RowKit
set_option maxHeartbeats 6400000 in
theorem rReBetween_yes {l : Int} (k a b : Int) (A : Option Addr) (n c : Nat) (L : List Nd) (w : World) (h : NodesAt w (.slice A n c) L) (hr : RollC l L) (hn : n ≤ 1000) (A0 : -9223372036854775808 ≤ a) (A1 : a ≤ 9223372036854775807) (B0 : -9223372036854775808 ≤ b) (B1 : b ≤ 9223372036854775807) (hab : a ≤ b) :
    Calls Tryz.prog 11 #[.agg #[.int .i64 k, .int .i64 l, .slice A n c], .int .i64 a, .int .i64 b] w fun e w' => e = .returned (.tuple #[.agg #[.int .i64 (btwL l L a b), .int .i64 (btwH l L a b)], .int .i64 0]) ∧ Below w.heap.size w w' := by
  unfold btwL btwH
  have u : 1 ≤ l ∧ l ≤ 48 := of_decide_eq_true hr.1
  have N0 := Lib.hid (ReBx.new 38 29 w k l A n c)
  have HL := Lib.hid (nodes_cells h).1
  have HA := Lib.hid (nodes_cells h).2.2.2
  have NB := Lib.hid (nbds_roll hr)
  have TL := Lib.hid (fun (m : Nat) hm => wtF_take (inP l a b) (L := L) (k := m) hm)
  have TH := Lib.hid (fun (m : Nat) hm => wtF_take (meP l a b) (L := L) (k := m) hm)
  have BL := Lib.hid (fun (m : Nat) => wtF_parts (P := inP l a b) hr m)
  have BH := Lib.hid (fun (m : Nat) => wtF_parts (P := meP l a b) hr m)
  clear h hr
  go_enter Tryz.func11, Tryz.ntmps11
  go_wp2_with fail
  generalize (((w.alloc (.cells #[.int .i64 k, .int .i64 l, .slice A n c] 38)).alloc (.cells #[.int .i64 0, .int .i64 0] 29)).alloc (.cells #[.int .i64 0, .int .i64 0] 29)) = W0 at *
  go_loopw [9] (fun i wr => ∃ m : Nat, m ≤ n ∧ i = .int .i64 m ∧ ReBx 38 29 w wr w.heap.size (w.heap.size + 1) (w.heap.size + 1 + 1) k l A n c (wtF (inP l a b) (L.take m)) (wtF (meP l a b) (L.take m))) (fun i _ => n - (intOf i).toNat)
  case atStart => exact ⟨0, by omega, rfl, N0.out⟩
  case round =>
    obtain ⟨m, hm, rfl, hbx⟩ := hrel
    have BX := Lib.hid hbx
    clear hbx N0
    by_cases hlt : m < n
    · have hk2 : m < L.length := by have := HL.out; omega
      obtain ⟨b9, o9, rfl, hin⟩ := HA.out (by omega)
      obtain ⟨e0, e1⟩ := (hin.below BX.out.hb hin.1).2 m hk2
      have hbw : b9 < wr.heap.size := Nat.lt_of_lt_of_le hin.1 BX.out.hb.size
      have HZ := Lib.hid hin.1
      have hx := nbds_at NB.out hk2
      have SL := Lib.hid (TL.out m hk2)
      have SH := Lib.hid (TH.out m hk2)
      have l1 := BL.out m
      have l2 := BL.out (m + 1)
      have h1 := BH.out m
      have h2 := BH.out (m + 1)
      clear hin
      generalize (L.getD m nz).1 = id at *
      generalize (L.getD m nz).2 = ct at *
      have EN := Lib.hid (fun w => rends_any l id w (by omega) (by omega) hx.1.1 hx.1.2)
      generalize wtF (inP l a b) (L.take m) = x1 at *
      generalize wtF (meP l a b) (L.take m) = y1 at *
      generalize hx2 : wtF (inP l a b) (L.take (m + 1)) = x2 at *
      generalize hy2 : wtF (meP l a b) (L.take (m + 1)) = y2 at *
      have HX2 := Lib.hid hx2
      have HY2 := Lib.hid hy2
      clear hx2 hy2
      unfold inP at SL
      unfold meP at SH
      generalize loN l id = lo at *
      generalize hiN l id = hi at *
      have xl : (x2 = x1 + ct ∧ a ≤ lo ∧ hi ≤ b) ∨ (x1 = x2 ∧ ¬ a ≤ lo) ∨ (x1 = x2 ∧ a ≤ lo ∧ ¬ hi ≤ b) := by
        have := SL.out
        simp only [decide_eq_true_eq] at this
        split at this <;> omega
      have yl : (y2 = y1 + ct ∧ lo ≤ b ∧ a ≤ hi) ∨ (y1 = y2 ∧ ¬ lo ≤ b) ∨ (y1 = y2 ∧ lo ≤ b ∧ ¬ a ≤ hi) := by
        have := SH.out
        simp only [decide_eq_true_eq] at this
        split at this <;> omega
      have XL := Lib.hid xl
      have YL := Lib.hid yl
      clear SL SH xl yl TL TH BL BH
      have k0 : (0 : Int) ≤ (m : Int) := Int.natCast_nonneg _
      have k1 : (m : Int) < (n : Int) := by omega
      obtain ⟨c0, c1, c2, c3, c4, _, _, z0, z1⟩ := BX.out.cells
      go_wp2_with fail
      go_quiet ((go_at_call 30; exact Calls.quiet_of_same ((EN.out _).mono fun _ _ ⟨a, b⟩ => ⟨a, b.symm⟩)))
      generalize hwq : World.drewN wr _ = wq
      have BX2 : Hid (ReBx 38 29 w wq w.heap.size (w.heap.size + 1) (w.heap.size + 1 + 1) k l (some ⟨b9, o9, none⟩) n c x1 y1) := by rw [← hwq]; exact BX.out.dn _
      have E2 : Hid (b9 < w.heap.size ∧ wq.cell? ⟨b9, o9 + m * 2 + 1, none⟩ = some (.int .i64 ct)) := by rw [← hwq]; exact ⟨HZ.out, e1⟩
      clear hwq c0 c1 c2 c3 c4 z0 z1 e0 e1 hbw BX EN
      obtain ⟨rfl, p1, p2⟩ | ⟨rfl, p1⟩ | ⟨rfl, p1, p2⟩ := XL.out <;> obtain ⟨rfl, q1, q2⟩ | ⟨rfl, q1⟩ | ⟨rfl, q1, q2⟩ := YL.out
      · clear XL YL
        have w1 : IntKind.i64.wrap (x1 + ct) = x1 + ct := wrap_lit rfl (by omega) (by omega)
        have w2 : IntKind.i64.wrap (y1 + ct) = y1 + ct := wrap_lit rfl (by omega) (by omega)
        obtain ⟨c0, c1, c2, c3, c4, c5, c6, z0, z1⟩ := BX2.out.cells
        have e1 := E2.out.2
        have hb9 := E2.out.1
        have hb8 : b9 < wq.heap.size := Nat.lt_of_lt_of_le hb9 BX2.out.hb.size
        go_wp2_with fail
        go_still_tail 10, (by kernel_rfl)
        change wpList _ _ _ _ _ (World.drew wq)
        go_wp2_with fail
        generalize hws : World.drew (World.setCell wq _ _) = ws
        have BX3 : Hid (ReBx 38 29 w ws w.heap.size (w.heap.size + 1) (w.heap.size + 1 + 1) k l (some ⟨b9, o9, none⟩) n c (x1 + ct) y1) := by rw [← hws]; exact (BX2.out.set0 _).dn 1
        have E3 : Hid (b9 < w.heap.size ∧ ws.cell? ⟨b9, o9 + m * 2 + 1, none⟩ = some (.int .i64 ct)) := by
          refine ⟨hb9, ?_⟩
          rw [← hws]
          exact (((Below.refl (w.heap.size + 1 + 1) wq).setCell (p := ⟨w.heap.size + 1 + 1, 0, none⟩) (Nat.le_refl _) (.int .i64 (x1 + ct))).cell (p := ⟨b9, o9 + m * 2 + 1, none⟩) (by show b9 < _; omega)).trans e1
        clear hws c0 c1 c2 c3 c4 c5 c6 z0 z1 e1 hb9 hb8 BX2 E2
        obtain ⟨c0, c1, c2, c3, c4, c5, c6, z0, z1⟩ := BX3.out.cells
        have e1 := E3.out.2
        have hb9 := E3.out.1
        have hb8 : b9 < ws.heap.size := Nat.lt_of_lt_of_le hb9 BX3.out.hb.size
        go_wp2_with fail
        go_still_tail 10, (by kernel_rfl)
        change wpList _ _ _ _ _ (World.drew ws)
        go_wp2_with fail
        go_roundw
        case rel => exact ⟨m + 1, by omega, by go_num, by rw [HX2.out, HY2.out]; exact (BX3.out.set1 _).dn 1⟩
        case measure => simp [intOf]; omega
      · clear XL YL
        have w1 : IntKind.i64.wrap (x1 + ct) = x1 + ct := wrap_lit rfl (by omega) (by omega)
        obtain ⟨c0, c1, c2, c3, c4, c5, c6, z0, z1⟩ := BX2.out.cells
        have e1 := E2.out.2
        have hb9 := E2.out.1
        have hb8 : b9 < wq.heap.size := Nat.lt_of_lt_of_le hb9 BX2.out.hb.size
        go_wp2_with fail
        go_still_tail 10, (by kernel_rfl)
        change wpList _ _ _ _ _ (World.drew wq)
        go_wp2_with fail
        generalize hws : World.drew (World.setCell wq _ _) = ws
        have BX3 : Hid (ReBx 38 29 w ws w.heap.size (w.heap.size + 1) (w.heap.size + 1 + 1) k l (some ⟨b9, o9, none⟩) n c (x1 + ct) y1) := by rw [← hws]; exact (BX2.out.set0 _).dn 1
        have E3 : Hid (b9 < w.heap.size ∧ ws.cell? ⟨b9, o9 + m * 2 + 1, none⟩ = some (.int .i64 ct)) := by
          refine ⟨hb9, ?_⟩
          rw [← hws]
          exact (((Below.refl (w.heap.size + 1 + 1) wq).setCell (p := ⟨w.heap.size + 1 + 1, 0, none⟩) (Nat.le_refl _) (.int .i64 (x1 + ct))).cell (p := ⟨b9, o9 + m * 2 + 1, none⟩) (by show b9 < _; omega)).trans e1
        clear hws c0 c1 c2 c3 c4 c5 c6 z0 z1 e1 hb9 hb8 BX2 E2
        go_roundw
        case rel => exact ⟨m + 1, by omega, by go_num, by rw [HX2.out, HY2.out]; exact BX3.out⟩
        case measure => simp [intOf]; omega
      · clear XL YL
        have w1 : IntKind.i64.wrap (x1 + ct) = x1 + ct := wrap_lit rfl (by omega) (by omega)
        obtain ⟨c0, c1, c2, c3, c4, c5, c6, z0, z1⟩ := BX2.out.cells
        have e1 := E2.out.2
        have hb9 := E2.out.1
        have hb8 : b9 < wq.heap.size := Nat.lt_of_lt_of_le hb9 BX2.out.hb.size
        go_wp2_with fail
        go_still_tail 10, (by kernel_rfl)
        change wpList _ _ _ _ _ (World.drew wq)
        go_wp2_with fail
        generalize hws : World.drew (World.setCell wq _ _) = ws
        have BX3 : Hid (ReBx 38 29 w ws w.heap.size (w.heap.size + 1) (w.heap.size + 1 + 1) k l (some ⟨b9, o9, none⟩) n c (x1 + ct) y1) := by rw [← hws]; exact (BX2.out.set0 _).dn 1
        have E3 : Hid (b9 < w.heap.size ∧ ws.cell? ⟨b9, o9 + m * 2 + 1, none⟩ = some (.int .i64 ct)) := by
          refine ⟨hb9, ?_⟩
          rw [← hws]
          exact (((Below.refl (w.heap.size + 1 + 1) wq).setCell (p := ⟨w.heap.size + 1 + 1, 0, none⟩) (Nat.le_refl _) (.int .i64 (x1 + ct))).cell (p := ⟨b9, o9 + m * 2 + 1, none⟩) (by show b9 < _; omega)).trans e1
        clear hws c0 c1 c2 c3 c4 c5 c6 z0 z1 e1 hb9 hb8 BX2 E2
        go_roundw
        case rel => exact ⟨m + 1, by omega, by go_num, by rw [HX2.out, HY2.out]; exact BX3.out⟩
        case measure => simp [intOf]; omega
      · clear XL YL
        have w2 : IntKind.i64.wrap (y1 + ct) = y1 + ct := wrap_lit rfl (by omega) (by omega)
        obtain ⟨c0, c1, c2, c3, c4, c5, c6, z0, z1⟩ := BX2.out.cells
        have e1 := E2.out.2
        have hb9 := E2.out.1
        have hb8 : b9 < wq.heap.size := Nat.lt_of_lt_of_le hb9 BX2.out.hb.size
        go_wp2_with fail
        go_still_tail 10, (by kernel_rfl)
        change wpList _ _ _ _ _ (World.drew wq)
        go_wp2_with fail
        go_roundw
        case rel => exact ⟨m + 1, by omega, by go_num, by rw [HX2.out, HY2.out]; exact (BX2.out.set1 _).dn 1⟩
        case measure => simp [intOf]; omega
      · exfalso; clear BX2; omega
      · clear XL YL
        go_wp2_with fail
        go_roundw
        case rel => exact ⟨m + 1, by omega, by go_num, by rw [HX2.out, HY2.out]; exact BX2.out⟩
        case measure => simp [intOf]; omega
      · clear XL YL
        have w2 : IntKind.i64.wrap (y1 + ct) = y1 + ct := wrap_lit rfl (by omega) (by omega)
        obtain ⟨c0, c1, c2, c3, c4, c5, c6, z0, z1⟩ := BX2.out.cells
        have e1 := E2.out.2
        have hb9 := E2.out.1
        have hb8 : b9 < wq.heap.size := Nat.lt_of_lt_of_le hb9 BX2.out.hb.size
        go_wp2_with fail
        go_still_tail 10, (by kernel_rfl)
        change wpList _ _ _ _ _ (World.drew wq)
        go_wp2_with fail
        go_roundw
        case rel => exact ⟨m + 1, by omega, by go_num, by rw [HX2.out, HY2.out]; exact (BX2.out.set1 _).dn 1⟩
        case measure => simp [intOf]; omega
      · clear XL YL
        go_wp2_with fail
        go_roundw
        case rel => exact ⟨m + 1, by omega, by go_num, by rw [HX2.out, HY2.out]; exact BX2.out⟩
        case measure => simp [intOf]; omega
      · exfalso; clear BX2; omega
    · obtain rfl : m = n := by omega
      have e : L.take m = L := List.take_of_length_le (by have := HL.out; omega)
      rw [e] at BX
      obtain ⟨c0, c1, c2, c3, c4, _, _, z0, z1⟩ := BX.out.cells
      obtain ⟨r0, r1, r2, r3, r4, r5⟩ := BX.out.rcells
      obtain ⟨q0, q1⟩ := set_two r0 r1
      go_wp2_with fail
      exact bodyPost_ret (v := .tuple #[.agg #[.int .i64 (wtF (inP l a b) L), .int .i64 (wtF (meP l a b) L)], .int .i64 0]) (by simp [results, Tryz.results11, go_sem, q0, q1]) rfl ⟨rfl, r5 _ _⟩
set_option maxHeartbeats 1600000 in
theorem rReBetween_any {l : Int} (k a b : Int) (A : Option Addr) (n c : Nat) (L : List Nd) (w : World) (h : NodesAt w (.slice A n c) L) (hr : RollC l L) (hn : n ≤ 1000) (A0 : -9223372036854775808 ≤ a) (A1 : a ≤ 9223372036854775807) (B0 : -9223372036854775808 ≤ b) (B1 : b ≤ 9223372036854775807) :
    Calls Tryz.prog 11 #[.agg #[.int .i64 k, .int .i64 l, .slice A n c], .int .i64 a, .int .i64 b] w fun e w' => e = .returned (.tuple #[.agg #[.int .i64 (beL l L a b), .int .i64 (beH l L a b)], .int .i64 (beE a b)]) ∧ Below w.heap.size w w' := by
  by_cases hab : b < a
  · obtain ⟨e1, e2, e3⟩ := be_no (l := l) (L := L) hab
    rw [e1, e2, e3]
    have N0 := Lib.hid (ReBx.new 38 29 w k l A n c)
    clear h hr
    go_enter Tryz.func11, Tryz.ntmps11
    go_wp2_with fail
    generalize (((w.alloc (.cells #[.int .i64 k, .int .i64 l, .slice A n c] 38)).alloc (.cells #[.int .i64 0, .int .i64 0] 29)).alloc (.cells #[.int .i64 0, .int .i64 0] 29)) = W0 at *
    obtain ⟨r0, r1, r2, r3, r4, r5⟩ := N0.out.rcells
    exact bodyPost_ret (v := .tuple #[.agg #[.int .i64 0, .int .i64 0], .int .i64 2]) (by simp [results, Tryz.results11, go_sem, r0, r1]) rfl ⟨rfl, N0.out.hb⟩
  · obtain ⟨e1, e2, e3⟩ := be_yes (l := l) (L := L) (a := a) (b := b) (by omega)
    rw [e1, e2, e3]
    exact rReBetween_yes k a b A n c L w h hr hn A0 A1 B0 B1 (by omega)
end Go.Proofs.YtmfdpaahklndnaaGreat
namespace Go.Proofs.YtmfdpaahklndnaaGreat
set_option linter.unusedVariables false
set_option maxRecDepth 100000
open Go.RowKit
set_option maxHeartbeats 6400000 in
theorem rReShare_any {l : Int} (k a b d : Int) (A : Option Addr) (n c : Nat) (L : List Nd) (w : World) (h : NodesAt w (.slice A n c) L) (hr : RollC l L) (hn : n ≤ 1000) (A0 : -9223372036854775808 ≤ a) (A1 : a ≤ 9223372036854775807) (B0 : -9223372036854775808 ≤ b) (B1 : b ≤ 9223372036854775807) (D0 : -9223372036854775808 ≤ d) (D1 : d ≤ 9223372036854775807) :
    Calls Tryz.prog 12 #[.agg #[.int .i64 k, .int .i64 l, .slice A n c], .int .i64 a, .int .i64 b, .int .i64 d] w fun e w' => e = .returned (.tuple #[.agg #[.int .i64 (ssL l L a b d), .int .i64 (ssH l L a b d)], .int .i64 (ssE L a b d)]) ∧ Below w.heap.size w w' := by
  have e1 : (w.alloc (.cells #[.int .i64 k, .int .i64 l, .slice A n c] 38)).heap.size = w.heap.size + 1 := by simp
  have X0 := Lib.hid ((tri_nw w 38 (.int .i64 k) (.int .i64 l) (.slice A n c)).alloc (.cells #[.int .i64 0, .int .i64 0] 29))
  have Y0 : Hid (((w.alloc (.cells #[.int .i64 k, .int .i64 l, .slice A n c] 38)).alloc (.cells #[.int .i64 0, .int .i64 0] 29)).ownsRow w.heap.size 29 2 (.slice (some ⟨w.heap.size + 1, 0, none⟩) 1 1) 1 [.int .i64 0, .int .i64 0]) := by
    have z := box2 (w.alloc (.cells #[.int .i64 k, .int .i64 l, .slice A n c] 38)) 29 (.int .i64 0) (.int .i64 0)
    rw [e1] at z
    exact own_low z (Nat.le_succ _)
  have HB0 : Hid (Below w.heap.size w ((w.alloc (.cells #[.int .i64 k, .int .i64 l, .slice A n c] 38)).alloc (.cells #[.int .i64 0, .int .i64 0] 29))) := ((Below.refl _ _).alloc (Nat.le_refl _) _).alloc (by simp) _
  have WT := Lib.hid (fun v (hb : Below w.heap.size w v) => rDgWeight_any l k A n c L v (h.below hb) hr hn)
  have BT := Lib.hid (fun v (hb : Below w.heap.size w v) => rReBetween_any (l := l) k a b A n c L v (h.below hb) hr hn A0 A1 B0 B1)
  have bb := btw_bd hr a b
  have nn := good_nonneg (roll_good hr)
  have s0 : 0 ≤ sumC L := Int.le_trans (sum_le nn 0).1 (sum_le nn 0).2
  have s1 : sumC L ≤ 72057594037927935 := hr.2.2.2.2
  have P1 := Lib.hid (fun v => rfPart_any (btwL l L a b) d (sumC L) v (by omega) (by omega) D0 D1 (by omega) (by omega))
  have P2 := Lib.hid (fun v => rfPartUp_any (btwH l L a b) d (sumC L) v (by omega) (by omega) D0 D1 (by omega) (by omega))
  have SE : Hid (ssE L a b d = if sumC L = 0 then 7 else if d < 1 ∨ b < a then 2 else 0) := rfl
  have SL : Hid (ssL l L a b d = if ssE L a b d = 0 then partN (btwL l L a b) d (sumC L) else 0) := rfl
  have SH : Hid (ssH l L a b d = if ssE L a b d = 0 then partUpN (btwH l L a b) d (sumC L) else 0) := rfl
  have BY := Lib.hid (fun (z : a ≤ b) => be_yes (l := l) (L := L) z)
  clear h hr nn e1 bb
  generalize ssL l L a b d = N1 at *
  generalize ssH l L a b d = N2 at *
  generalize ssE L a b d = E at *
  generalize partN (btwL l L a b) d (sumC L) = r1 at *
  generalize partUpN (btwH l L a b) d (sumC L) = r2 at *
  generalize partB (btwL l L a b) d (sumC L) = rb1 at *
  generalize partUpB (btwH l L a b) d (sumC L) = rb2 at *
  generalize beL l L a b = y1 at *
  generalize beH l L a b = y2 at *
  generalize beE a b = ye at *
  generalize btwL l L a b = x1 at *
  generalize btwH l L a b = x2 at *
  generalize sumC L = s at *
  obtain ⟨x0, x3, x4, _, _, _, hz⟩ := tri_all X0.out
  by_cases z : s = 0
  · have hE : E = 7 := by rw [SE.out, if_pos z]
    have hN : N1 = 0 := by rw [SL.out, if_neg (by omega)]
    have hN2 : N2 = 0 := by rw [SH.out, if_neg (by omega)]
    subst hE hN hN2
    have z1 : (s == 0) = true := beq_iff_eq.2 z
    clear z SE SL SH P1 P2 BT BY
    go_enter Tryz.func12, Tryz.ntmps12
    go_wp2_with fail
    generalize (w.alloc (.cells #[.int .i64 k, .int .i64 l, .slice A n c] 38)).alloc (.cells #[.int .i64 0, .int .i64 0] 29) = W at *
    refine (WT.out _ HB0.out).mono ?_
    rintro e w1 ⟨rfl, hb1⟩
    have Y1 := Lib.hid (own_below Y0.out hb1)
    have V1 := Lib.hid (HB0.out.trans (hb1.mono HB0.out.size))
    obtain ⟨y0, y3, y4, y5, y6⟩ := box_cells Y1.out
    obtain ⟨q0, q1⟩ := set_two y0 y3
    clear x0 x3 x4 hz hb1
    go_wp2_with fail
    exact bodyPost_ret (v := .tuple #[.agg #[.int .i64 0, .int .i64 0], .int .i64 7]) (by simp [results, Tryz.results12, go_sem, q0, q1]) rfl ⟨rfl, (V1.out.setCell (p := ⟨w.heap.size + 1, 0, none⟩) (Nat.le_succ _) _).setCell (p := ⟨w.heap.size + 1, 1, none⟩) (Nat.le_succ _) _⟩
  have z1 : (s == 0) = false := by simpa using z
  by_cases zd : d < 1
  · have hE : E = 2 := by rw [SE.out, if_neg z, if_pos (.inl zd)]
    have hN : N1 = 0 := by rw [SL.out, if_neg (by omega)]
    have hN2 : N2 = 0 := by rw [SH.out, if_neg (by omega)]
    subst hE hN hN2
    clear z SE SL SH P1 P2 BT BY
    go_enter Tryz.func12, Tryz.ntmps12
    go_wp2_with fail
    generalize (w.alloc (.cells #[.int .i64 k, .int .i64 l, .slice A n c] 38)).alloc (.cells #[.int .i64 0, .int .i64 0] 29) = W at *
    refine (WT.out _ HB0.out).mono ?_
    rintro e w1 ⟨rfl, hb1⟩
    have Y1 := Lib.hid (own_below Y0.out hb1)
    have V1 := Lib.hid (HB0.out.trans (hb1.mono HB0.out.size))
    obtain ⟨y0, y3, y4, y5, y6⟩ := box_cells Y1.out
    obtain ⟨q0, q1⟩ := set_two y0 y3
    clear x0 x3 x4 hz hb1
    go_wp2_with fail
    exact bodyPost_ret (v := .tuple #[.agg #[.int .i64 0, .int .i64 0], .int .i64 2]) (by simp [results, Tryz.results12, go_sem, q0, q1]) rfl ⟨rfl, (V1.out.setCell (p := ⟨w.heap.size + 1, 0, none⟩) (Nat.le_succ _) _).setCell (p := ⟨w.heap.size + 1, 1, none⟩) (Nat.le_succ _) _⟩
  by_cases zb : b < a
  · have hE : E = 2 := by rw [SE.out, if_neg z, if_pos (.inr zb)]
    have hN : N1 = 0 := by rw [SL.out, if_neg (by omega)]
    have hN2 : N2 = 0 := by rw [SH.out, if_neg (by omega)]
    subst hE hN hN2
    clear z SE SL SH P1 P2 BT BY
    go_enter Tryz.func12, Tryz.ntmps12
    go_wp2_with fail
    generalize (w.alloc (.cells #[.int .i64 k, .int .i64 l, .slice A n c] 38)).alloc (.cells #[.int .i64 0, .int .i64 0] 29) = W at *
    refine (WT.out _ HB0.out).mono ?_
    rintro e w1 ⟨rfl, hb1⟩
    have Y1 := Lib.hid (own_below Y0.out hb1)
    have V1 := Lib.hid (HB0.out.trans (hb1.mono HB0.out.size))
    obtain ⟨y0, y3, y4, y5, y6⟩ := box_cells Y1.out
    obtain ⟨q0, q1⟩ := set_two y0 y3
    clear x0 x3 x4 hz hb1
    go_wp2_with fail
    exact bodyPost_ret (v := .tuple #[.agg #[.int .i64 0, .int .i64 0], .int .i64 2]) (by simp [results, Tryz.results12, go_sem, q0, q1]) rfl ⟨rfl, (V1.out.setCell (p := ⟨w.heap.size + 1, 0, none⟩) (Nat.le_succ _) _).setCell (p := ⟨w.heap.size + 1, 1, none⟩) (Nat.le_succ _) _⟩
  · have hE : E = 0 := by rw [SE.out, if_neg z, if_neg (by omega)]
    have hN : N1 = r1 := by rw [SL.out, if_pos hE]
    have hN2 : N2 = r2 := by rw [SH.out, if_pos hE]
    obtain ⟨b1, b2, b3⟩ := BY.out (by omega)
    subst hE hN hN2 b1 b2 b3
    clear z SE SL SH BY
    go_enter Tryz.func12, Tryz.ntmps12
    go_wp2_with fail
    generalize (w.alloc (.cells #[.int .i64 k, .int .i64 l, .slice A n c] 38)).alloc (.cells #[.int .i64 0, .int .i64 0] 29) = W at *
    refine (WT.out _ HB0.out).mono ?_
    rintro e w1 ⟨rfl, hb1⟩
    have X1 := Lib.hid (own_below X0.out hb1)
    have Y1 := Lib.hid (own_below Y0.out hb1)
    have V1 := Lib.hid (HB0.out.trans (hb1.mono HB0.out.size))
    clear hb1 x0 x3 x4 hz
    obtain ⟨x0, x3, x4, _, _, _, hz⟩ := tri_all X1.out
    go_wp2_with fail
    refine (BT.out _ V1.out).mono ?_
    rintro e w2 ⟨rfl, hb2⟩
    have hv2 := hb2.alloc hb2.size (.cells #[.int .i64 y1, .int .i64 y2] 29)
    have X2 := Lib.hid (own_below X1.out hv2)
    have Y2 := Lib.hid (own_below Y1.out hv2)
    have T2 := Lib.hid (box2 w2 29 (.int .i64 y1) (.int .i64 y2))
    have V2 := Lib.hid (V1.out.trans (hv2.mono V1.out.size))
    clear hb2 hv2 x0 x3 x4 hz X1 Y1 V1
    go_upto_region 6 with fail
    generalize hg2 : w2.heap.size = g2 at *
    generalize w2.alloc (.cells #[.int .i64 y1, .int .i64 y2] 29) = W2 at *
    clear hg2
    obtain ⟨x0, x3, x4, _, _, _, hz⟩ := tri_all X2.out
    obtain ⟨t0, t1, _, _, tz⟩ := box_cells T2.out
    have KD : Hid (w.heap.size < W2.heap.size) := hz
    have KG : Hid (g2 < W2.heap.size) := tz
    have WTC := Lib.hid (fun v (hb : Below W2.heap.size W2 v) => WT.out v (V2.out.trans (hb.mono V2.out.size)))
    go_region_held3 (fun w' => w'.cell? ⟨w.heap.size, 0, none⟩ = some (.int .i64 k) ∧ w'.cell? ⟨w.heap.size, 1, none⟩ = some (.int .i64 l) ∧ w'.cell? ⟨w.heap.size, 2, none⟩ = some (.slice A n c) ∧ w'.cell? ⟨g2, 0, none⟩ = some (.int .i64 y1) ∧ Below W2.heap.size W2 w')
      (first | assumption | (exact held4 (by assumption) (by assumption) KD.out KD.out KD.out KG.out) | (exact held4N (by assumption) _) | (exact ⟨x0, x3, x4, t0, below_drew _⟩))
      (first
        | (go_at_call 31; refine (WTC.out _ (held4B (p := ⟨w.heap.size, 0, none⟩) (q := ⟨w.heap.size, 1, none⟩) (r := ⟨w.heap.size, 2, none⟩) (s := ⟨g2, 0, none⟩) (x := .int .i64 k) (y := .int .i64 l) (z := .slice A n c) (u := .int .i64 y1) (by assumption))).mono ?_; rintro e w6 ⟨rfl, hb6⟩)
        | (go_at_call 32; refine (P1.out _).mono ?_; rintro e w6 ⟨rfl, hb6⟩))
    rename_i hH0
    have hB0 := hH0.2.2.2.2
    have X3 := Lib.hid (own_below X2.out hB0)
    have Y3 := Lib.hid (own_below Y2.out hB0)
    have T3 := Lib.hid (own_below T2.out hB0)
    have V3 := Lib.hid (V2.out.trans (hB0.mono V2.out.size))
    clear x0 x3 x4 hz t0 t1 tz KD KG WTC hH0 hB0 X2 Y2 T2 V2 P1
    go_upto_region 7 with fail
    obtain ⟨x0, x3, x4, _, _, _, hz⟩ := tri_all X3.out
    obtain ⟨t0, t1, _, _, tz⟩ := box_cells T3.out
    have KD : Hid (w.heap.size < w6.heap.size) := hz
    have KG : Hid (g2 < w6.heap.size) := tz
    have WTC := Lib.hid (fun v (hb : Below w6.heap.size w6 v) => WT.out v (V3.out.trans (hb.mono V3.out.size)))
    go_region_held3 (fun w' => w'.cell? ⟨w.heap.size, 0, none⟩ = some (.int .i64 k) ∧ w'.cell? ⟨w.heap.size, 1, none⟩ = some (.int .i64 l) ∧ w'.cell? ⟨w.heap.size, 2, none⟩ = some (.slice A n c) ∧ w'.cell? ⟨g2, 1, none⟩ = some (.int .i64 y2) ∧ Below w6.heap.size w6 w')
      (first | assumption | (exact held4 (by assumption) (by assumption) KD.out KD.out KD.out KG.out) | (exact held4N (by assumption) _) | (exact ⟨x0, x3, x4, t1, below_drew _⟩))
      (first
        | (go_at_call 31; refine (WTC.out _ (held4B (p := ⟨w.heap.size, 0, none⟩) (q := ⟨w.heap.size, 1, none⟩) (r := ⟨w.heap.size, 2, none⟩) (s := ⟨g2, 1, none⟩) (x := .int .i64 k) (y := .int .i64 l) (z := .slice A n c) (u := .int .i64 y2) (by assumption))).mono ?_; rintro e w7 ⟨rfl, hb7⟩)
        | (go_at_call 33; refine (P2.out _).mono ?_; rintro e w7 ⟨rfl, hb7⟩))
    rename_i hH1
    have hB1 := hH1.2.2.2.2
    have Y4 := Lib.hid (own_below Y3.out hB1)
    have V4 := Lib.hid (V3.out.trans (hB1.mono V3.out.size))
    clear x0 x3 x4 hz t0 t1 tz KD KG WTC hH1 hB1 X3 Y3 T3 V3 P2
    obtain ⟨y0, y3, y4, y5, y6⟩ := box_cells Y4.out
    obtain ⟨q0, q1⟩ := set_two y0 y3
    go_wp2_with fail
    exact bodyPost_ret (v := .tuple #[.agg #[.int .i64 N1, .int .i64 N2], .int .i64 0]) (by simp [results, Tryz.results12, go_sem, q0, q1]) rfl ⟨rfl, (V4.out.setCell (p := ⟨w.heap.size + 1, 0, none⟩) (Nat.le_succ _) _).setCell (p := ⟨w.heap.size + 1, 1, none⟩) (Nat.le_succ _) _⟩
end Go.Proofs.YtmfdpaahklndnaaGreat
namespace Go.Proofs.YtmfdpaahklndnaaGreat
set_option linter.unusedVariables false
set_option maxRecDepth 100000
open Go.RowKit
theorem heldN_take (l lo hi : Int) {J : List Int} {k : Nat} (h : k < J.length) : heldN l lo hi (J.take (k + 1)) = heldN l lo hi (J.take k) + ovN l lo hi (J.getD k 0) := by
  rw [take_at h, heldN_app]; simp [heldN]
theorem re_good_take {l : Int} {J : List Int} (h : TiGood l J) (k : Nat) : TiGood l (J.take k) := ⟨fun t ht => h.1 t (List.mem_of_mem_take ht), h.2.sublist (List.take_sublist k J)⟩
set_option maxHeartbeats 25600000 in
theorem rReHeld_any {l : Int} (lo hi : Int) (A : Option Addr) (n c : Nat) (T : List Int) (w : World) (h : IntsAt w (.slice A n c) T) (hb : Bds T) (hn : n ≤ 9000) (L0 : -9223372036854775808 ≤ l) (L1 : l ≤ 9223372036854775807) (ha : IsAll l T) (h0 : 0 ≤ lo) (h1 : lo ≤ hi) (h2 : hi ≤ 281474976710655) :
    Calls Tryz.prog 37 #[.int .i64 l, .slice A n c, .int .i64 lo, .int .i64 hi] w fun e w' => e = .returned (.int .i64 (hcN l lo hi T)) ∧ Below w.heap.size w w' := by
  have JO := Lib.hid (r5join_any l A n c T w h hb hn L0 L1)
  have HA := Lib.hid ha
  have u := all_uni ha
  have hTL := Lib.hid (ints_cells h).1
  clear h hb ha
  go_enter Tryz.func37, Tryz.ntmps37
  go_wp2_with fail
  refine JO.out.mono ?_
  rintro e w1 (⟨_, A1, c1, K, rfl, hi1, hg1, he1, hl1, hb1⟩ | ⟨hno, _⟩)
  case inr =>
    exact absurd hno (by
      rcases HA.out with ⟨a, b⟩
      rintro (z | ⟨t, ht, z⟩)
      · rw [a] at z; cases z
      · rw [b t ht] at z; cases z)
  have BD := Lib.hid (fun k => heldN_bd (lo := lo) (hi := hi) h1 (re_good_take hg1 k))
  have HEQ := Lib.hid (heldN_hc (lo := lo) (hi := hi) h1 hg1 he1)
  have B1 := Lib.hid hb1
  have HL := Lib.hid (ints_cells hi1).1
  have HC := Lib.hid (ints_cells hi1).2
  have KB : Hid (Bds K) := bds_nodes hg1.1
  have NB := Lib.hid (fun k (hk : k < K.length) => node_bd (hg1.1 _ (getD_mem hk)))
  have LN : K.length ≤ 900000 := by have := hTL.out; omega
  generalize hk9 : K.length = K9 at *
  have HK9 := Lib.hid hk9
  clear hk9 hi1 hg1 he1 hl1 hb1 JO
  go_wp2_with fail
  go_loopw [11, 12] (fun x i wr => ∃ m : Nat, m ≤ K9 ∧ x = .int .i64 (heldN l lo hi (K.take m)) ∧ i = .int .i64 m ∧ Below w1.heap.size w1 wr) (fun _ i _ => K9 - (intOf i).toNat)
  case atStart => exact ⟨0, by omega, rfl, rfl, Below.refl _ _⟩
  case round =>
    obtain ⟨m, hm, rfl, rfl, hbr⟩ := hrel
    have BW := Lib.hid hbr
    by_cases hlt : m < K9
    · have hk2 : m < K.length := by have := HK9.out; omega
      obtain ⟨b, o, rfl, hbz, hcc⟩ := HC.out (by omega)
      have e0 : wr.cell? ⟨b, o + m, none⟩ = some (.int .i64 (K.getD m 0)) := (BW.out.cell (p := ⟨b, o + m, none⟩) hbz).trans (hcc m (by omega))
      have hbw : b < wr.heap.size := Nat.lt_of_lt_of_le hbz BW.out.size
      have kb := KB.out (K.getD m 0) (getD_mem hk2)
      have nb := NB.out m hlt
      have ST := Lib.hid (heldN_take l lo hi hk2)
      have b1 := BD.out m
      have b2 := BD.out (m + 1)
      clear hcc hbz hbr
      generalize K.getD m 0 = t at *
      have EN := Lib.hid (fun w => rends_any l t w (by omega) (by omega) kb.1 kb.2)
      unfold ovN at ST
      generalize loN l t = p at *
      generalize hiN l t = q at *
      generalize heldN l lo hi (K.take m) = s1 at *
      generalize hs2 : heldN l lo hi (K.take (m + 1)) = s2 at *
      have HS := Lib.hid hs2
      clear hs2
      have k0 : (0 : Int) ≤ (m : Int) := Int.natCast_nonneg _
      have k1 : (m : Int) < (K9 : Int) := by omega
      rcases (show p < lo ∨ ¬ p < lo by omega) with g1 | g1 <;> rcases (show hi < q ∨ ¬ hi < q by omega) with g2 | g2
      · have e : Hid (s2 = s1 + (hi - lo + 1)) := by show _ = _; rw [ST.out]; split <;> omega
        have hw : IntKind.i64.wrap (s1 + hi) = s1 + hi := wrap_lit rfl (by omega) (by omega)
        have hw2 : IntKind.i64.wrap (s1 + hi - lo) = s1 + hi - lo := wrap_lit rfl (by omega) (by omega)
        have hw3 : IntKind.i64.wrap (s1 + hi - lo + 1) = s1 + hi - lo + 1 := wrap_lit rfl (by omega) (by omega)
        clear ST
        go_wp2_with (go_at_call 30; refine (EN.out _).mono ?_; rintro e w6 ⟨rfl, rfl⟩)
        go_roundw
        case rel => exact ⟨m + 1, by omega, by rw [HS.out, e.out]; congr 1; omega, by go_num, BW.out⟩
        case measure => simp [intOf]; omega
      · by_cases g3 : lo ≤ q
        · have e : Hid (s2 = s1 + (q - lo + 1)) := by show _ = _; rw [ST.out]; split <;> omega
          have hw : IntKind.i64.wrap (s1 + q) = s1 + q := wrap_lit rfl (by omega) (by omega)
          have hw2 : IntKind.i64.wrap (s1 + q - lo) = s1 + q - lo := wrap_lit rfl (by omega) (by omega)
          have hw3 : IntKind.i64.wrap (s1 + q - lo + 1) = s1 + q - lo + 1 := wrap_lit rfl (by omega) (by omega)
          clear ST
          go_wp2_with (go_at_call 30; refine (EN.out _).mono ?_; rintro e w6 ⟨rfl, rfl⟩)
          go_roundw
          case rel => exact ⟨m + 1, by omega, by rw [HS.out, e.out]; congr 1; omega, by go_num, BW.out⟩
          case measure => simp [intOf]; omega
        · have e : Hid (s2 = s1) := by show _ = _; rw [ST.out]; split <;> omega
          clear ST
          go_wp2_with (go_at_call 30; refine (EN.out _).mono ?_; rintro e w6 ⟨rfl, rfl⟩)
          go_roundw
          case rel => exact ⟨m + 1, by omega, by rw [HS.out, e.out], by go_num, BW.out⟩
          case measure => simp [intOf]; omega
      · by_cases g3 : p ≤ hi
        · have e : Hid (s2 = s1 + (hi - p + 1)) := by show _ = _; rw [ST.out]; split <;> omega
          have hw : IntKind.i64.wrap (s1 + hi) = s1 + hi := wrap_lit rfl (by omega) (by omega)
          have hw2 : IntKind.i64.wrap (s1 + hi - p) = s1 + hi - p := wrap_lit rfl (by omega) (by omega)
          have hw3 : IntKind.i64.wrap (s1 + hi - p + 1) = s1 + hi - p + 1 := wrap_lit rfl (by omega) (by omega)
          clear ST
          go_wp2_with (go_at_call 30; refine (EN.out _).mono ?_; rintro e w6 ⟨rfl, rfl⟩)
          go_roundw
          case rel => exact ⟨m + 1, by omega, by rw [HS.out, e.out]; congr 1; omega, by go_num, BW.out⟩
          case measure => simp [intOf]; omega
        · have e : Hid (s2 = s1) := by show _ = _; rw [ST.out]; split <;> omega
          clear ST
          go_wp2_with (go_at_call 30; refine (EN.out _).mono ?_; rintro e w6 ⟨rfl, rfl⟩)
          go_roundw
          case rel => exact ⟨m + 1, by omega, by rw [HS.out, e.out], by go_num, BW.out⟩
          case measure => simp [intOf]; omega
      · have e : Hid (s2 = s1 + (q - p + 1)) := by show _ = _; rw [ST.out]; split <;> omega
        have hw : IntKind.i64.wrap (s1 + q) = s1 + q := wrap_lit rfl (by omega) (by omega)
        have hw2 : IntKind.i64.wrap (s1 + q - p) = s1 + q - p := wrap_lit rfl (by omega) (by omega)
        have hw3 : IntKind.i64.wrap (s1 + q - p + 1) = s1 + q - p + 1 := wrap_lit rfl (by omega) (by omega)
        clear ST
        go_wp2_with (go_at_call 30; refine (EN.out _).mono ?_; rintro e w6 ⟨rfl, rfl⟩)
        go_roundw
        case rel => exact ⟨m + 1, by omega, by rw [HS.out, e.out]; congr 1; omega, by go_num, BW.out⟩
        case measure => simp [intOf]; omega
    · obtain rfl : m = K9 := by omega
      have e : K.take m = K := List.take_of_length_le (by have := HK9.out; omega)
      rw [e]
      go_wp2_with fail
      go_ret
      exact ⟨congrArg (fun z => Ending.returned (.int .i64 z)) HEQ.out, B1.out.trans (BW.out.mono B1.out.size)⟩
end Go.Proofs.YtmfdpaahklndnaaGreat
namespace Go.Proofs.YtmfdpaahklndnaaGreat
set_option linter.unusedVariables false
set_option maxRecDepth 100000
open Go.RowKit
theorem re_right (l t : Int) : rightB l t = endB l t := by unfold rightB endB onB; by_cases h : RightC l t <;> simp [h]
/-- whose all (some) values nodes hold, as they are written down -/
def onP (l : Int) (J : List Int) : Int → Bool := fun n => decide (hcN l (loN l n) (hiN l n) J = hiN l n - loN l n + 1)
def onQ (l : Int) (J : List Int) : Int → Bool := fun n => decide (0 < hcN l (loN l n) (hiN l n) J)
def ofP (l : Int) (J : List Int) : Int → Bool := fun n => decide (hcN l (loN l n) (hiN l n) J = 0)
def ofQ (l : Int) (J : List Int) : Int → Bool := fun n => decide (hcN l (loN l n) (hiN l n) J < hiN l n - loN l n + 1)
set_option maxHeartbeats 12800000 in
theorem rReOn_on {l : Int} (k : Int) (A : Option Addr) (n c : Nat) (L : List Nd) (A2 : Option Addr) (n2 d2 : Nat) (U : List Int) (w : World) (h : NodesAt w (.slice A n c) L) (hr : RollC l L) (hn : n ≤ 1000) (hi2 : IntsAt w (.slice A2 n2 d2) U) (hbd : Bds U) (hn2 : n2 ≤ 9000) (hall : IsAll l U)
    (HE : ∀ (lo hi : Int) (v : World), Below w.heap.size w v → 0 ≤ lo → lo ≤ hi → hi ≤ 281474976710655 → Calls Tryz.prog 37 #[.int .i64 l, .slice A2 n2 d2, .int .i64 lo, .int .i64 hi] v fun e w' => e = .returned (.int .i64 (hcN l lo hi U)) ∧ Below v.heap.size v w') :
    Calls Tryz.prog 15 #[.agg #[.int .i64 k, .int .i64 l, .slice A n c], .slice A2 n2 d2, .bool false] w fun e w' => e = .returned (.tuple #[.agg #[.int .i64 (onL l U L), .int .i64 (onH l U L)], .int .i64 0]) ∧ Below w.heap.size w w' := by
  change Calls _ _ _ _ fun e w' => e = .returned (.tuple #[.agg #[.int .i64 (wtF (onP l U) L), .int .i64 (wtF (onQ l U) L)], .int .i64 0]) ∧ Below w.heap.size w w'
  have u : 1 ≤ l ∧ l ≤ 48 := of_decide_eq_true hr.1
  have N0 := Lib.hid (ReBx.new 38 29 w k l A n c)
  have HL := Lib.hid (nodes_cells h).1
  have HA := Lib.hid (nodes_cells h).2.2.2
  have NB := Lib.hid (nbds_roll hr)
  have NE := Lib.hid (fun (m : Nat) (hm : m < L.length) => node_ends hr (nd_mem hm))
  have TL := Lib.hid (fun (m : Nat) hm => wtF_take (onP l U) (L := L) (k := m) hm)
  have TH := Lib.hid (fun (m : Nat) hm => wtF_take (onQ l U) (L := L) (k := m) hm)
  have BL := Lib.hid (fun (m : Nat) => wtF_parts (P := onP l U) hr m)
  have BH := Lib.hid (fun (m : Nat) => wtF_parts (P := onQ l U) hr m)
  have HD := Lib.hid (fun lo hi (q : lo ≤ hi) => hcN_bd (l := l) (lo := lo) (hi := hi) (J := U) q)
  have HEE := Lib.hid HE
  have UL := Lib.hid (ints_cells hi2).1
  have UC := Lib.hid (ints_cells hi2).2
  have UB := Lib.hid hbd
  have UA := Lib.hid (fun (m : Nat) (hm : m < U.length) => (re_right l _).trans (hall.2 _ (getD_mem hm)))
  clear h hr hi2 hbd hall HE
  go_enter Tryz.func15, Tryz.ntmps15
  go_wp2_with fail
  generalize (((w.alloc (.cells #[.int .i64 k, .int .i64 l, .slice A n c] 38)).alloc (.cells #[.int .i64 0, .int .i64 0] 29)).alloc (.cells #[.int .i64 0, .int .i64 0] 29)) = W0 at *
  obtain ⟨c0, c1, c2, c3, c4, _, _, z0, z1⟩ := N0.out.cells
  go_wp2_with fail
  clear c0 c1 c2 c3 c4 z0 z1
  go_loopw [10] (fun i wr => ∃ m : Nat, m ≤ n2 ∧ i = .int .i64 m ∧ W0 = wr) (fun i _ => n2 - (intOf i).toNat)
  case atStart => exact ⟨0, by omega, rfl, rfl⟩
  case round =>
    obtain ⟨m, hm, rfl, rfl⟩ := hrel
    by_cases hlt : m < n2
    · have hk2 : m < U.length := by have := UL.out; omega
      obtain ⟨b7, o7, rfl, hbz, hcc⟩ := UC.out (by omega)
      have e0 : W0.cell? ⟨b7, o7 + m, none⟩ = some (.int .i64 (U.getD m 0)) := (N0.out.hb.cell (p := ⟨b7, o7 + m, none⟩) hbz).trans (hcc m (by omega))
      have hbw : b7 < W0.heap.size := Nat.lt_of_lt_of_le hbz N0.out.hb.size
      have kb := UB.out (U.getD m 0) (getD_mem hk2)
      have ub := UA.out m hk2
      clear hcc hbz
      generalize U.getD m 0 = t at *
      have RT := Lib.hid (fun w => rright_any l t w (by omega) (by omega) kb.1 kb.2)
      rw [ub] at RT
      have k0 : (0 : Int) ≤ (m : Int) := Int.natCast_nonneg _
      have k1 : (m : Int) < (n2 : Int) := by omega
      clear ub
      go_wp2_with (go_at_call 36; refine (RT.out _).mono ?_; rintro e w6 ⟨rfl, rfl⟩)
      go_roundw
      case rel => exact ⟨m + 1, by omega, by go_num, trivial⟩
      case measure => simp [intOf]; omega
    · obtain rfl : m = n2 := by omega
      go_wp2_with fail
      have HW0 := Lib.hid N0.out
      clear N0
      go_loopw [11] (fun i wr => ∃ m : Nat, m ≤ n ∧ i = .int .i64 m ∧ ReBx 38 29 w wr w.heap.size (w.heap.size + 1) (w.heap.size + 1 + 1) k l A n c (wtF (onP l U) (L.take m)) (wtF (onQ l U) (L.take m))) (fun i _ => n - (intOf i).toNat)
      case atStart => exact ⟨0, by omega, rfl, HW0.out⟩
      case round =>
        obtain ⟨m, hm, rfl, hbx⟩ := hrel
        have BX := Lib.hid hbx
        clear hbx HW0
        by_cases hlt : m < n
        · have hk2 : m < L.length := by have := HL.out; omega
          obtain ⟨b9, o9, rfl, hin⟩ := HA.out (by omega)
          obtain ⟨e0, e1⟩ := (hin.below BX.out.hb hin.1).2 m hk2
          have hbw : b9 < wr.heap.size := Nat.lt_of_lt_of_le hin.1 BX.out.hb.size
          have HZ := Lib.hid hin.1
          have hx := nbds_at NB.out hk2
          have ne := NE.out m hk2
          have b48 : (2 : Int) ^ l.toNat ≤ 281474976710656 := two_le l.toNat 48 (by omega)
          have SL := Lib.hid (TL.out m hk2)
          have SH := Lib.hid (TH.out m hk2)
          have l1 := BL.out m
          have l2 := BL.out (m + 1)
          have h1 := BH.out m
          have h2 := BH.out (m + 1)
          clear hin
          generalize (L.getD m nz).1 = id at *
          generalize (L.getD m nz).2 = ct at *
          have EN := Lib.hid (fun w => rends_any l id w (by omega) (by omega) hx.1.1 hx.1.2)
          generalize wtF (onP l U) (L.take m) = x1 at *
          generalize wtF (onQ l U) (L.take m) = y1 at *
          generalize hx2 : wtF (onP l U) (L.take (m + 1)) = x2 at *
          generalize hy2 : wtF (onQ l U) (L.take (m + 1)) = y2 at *
          have HX2 := Lib.hid hx2
          have HY2 := Lib.hid hy2
          clear hx2 hy2
          unfold onP at SL
          unfold onQ at SH
          have hbd := HD.out (loN l id) (hiN l id) (by omega)
          have hcall := fun v hv => HEE.out (loN l id) (hiN l id) v hv (by omega) (by omega) (by omega)
          generalize loN l id = lo at *
          generalize hiN l id = hi at *
          generalize hcN l lo hi U = h0 at *
          have HC2 := Lib.hid hcall
          clear hcall
          have xl : (x2 = x1 + ct ∧ h0 = hi - lo + 1) ∨ (x1 = x2 ∧ ¬ h0 = hi - lo + 1) := by
            have := SL.out
            simp only [decide_eq_true_eq] at this
            split at this <;> omega
          have yl : (y2 = y1 + ct ∧ 0 < h0) ∨ (y1 = y2 ∧ ¬ 0 < h0) := by
            have := SH.out
            simp only [decide_eq_true_eq] at this
            split at this <;> omega
          have XL := Lib.hid xl
          have YL := Lib.hid yl
          clear SL SH xl yl TL TH BL BH
          have k0 : (0 : Int) ≤ (m : Int) := Int.natCast_nonneg _
          have k1 : (m : Int) < (n : Int) := by omega
          have w3 : IntKind.i64.wrap (hi - lo) = hi - lo := wrap_lit rfl (by omega) (by omega)
          have w4 : IntKind.i64.wrap (hi - lo + 1) = hi - lo + 1 := wrap_lit rfl (by omega) (by omega)
          obtain ⟨c0, c1, c2, c3, c4, _, _, z0, z1⟩ := BX.out.cells
          go_wp2_with fail
          refine (EN.out _).mono ?_
          rintro e w6 ⟨rfl, rfl⟩
          have BX2 := BX
          have E2 : Hid (b9 < w.heap.size ∧ wr.cell? ⟨b9, o9 + m * 2 + 1, none⟩ = some (.int .i64 ct)) := ⟨HZ.out, e1⟩
          clear c0 c1 c2 c3 c4 z0 z1 e0 e1 hbw BX EN
          go_wp2_with fail
          refine (HC2.out _ BX2.out.hb).mono ?_
          rintro e w5 ⟨rfl, hb5⟩
          have BX5 := Lib.hid (BX2.out.below hb5)
          have E5 : Hid (b9 < w.heap.size ∧ w5.cell? ⟨b9, o9 + m * 2 + 1, none⟩ = some (.int .i64 ct)) := ⟨E2.out.1, (hb5.cell (p := ⟨b9, o9 + m * 2 + 1, none⟩) (Nat.lt_of_lt_of_le E2.out.1 BX2.out.hb.size)).trans E2.out.2⟩
          clear BX2 E2 hb5 HC2
          obtain ⟨rfl, p1⟩ | ⟨rfl, p1⟩ := XL.out <;> obtain ⟨rfl, q1⟩ | ⟨rfl, q1⟩ := YL.out
          · clear XL YL
            have t1 : (h0 == hi - lo + 1) = true := beq_iff_eq.2 (by omega)
            have t2 : 0 < h0 := by omega
            have w1 : IntKind.i64.wrap (x1 + ct) = x1 + ct := wrap_lit rfl (by omega) (by omega)
            have w2 : IntKind.i64.wrap (y1 + ct) = y1 + ct := wrap_lit rfl (by omega) (by omega)
            obtain ⟨c0, c1, c2, c3, c4, c5, c6, z0, z1⟩ := BX5.out.cells
            have e1 := E5.out.2
            have hb9 := E5.out.1
            have hb8 : b9 < w5.heap.size := Nat.lt_of_lt_of_le hb9 BX5.out.hb.size
            go_wp2_with fail
            go_still_tail 10, (by kernel_rfl)
            change wpList _ _ _ _ _ (World.drew w5)
            go_wp2_with fail
            generalize hws : World.drew (World.setCell w5 _ _) = ws
            have BX3 : Hid (ReBx 38 29 w ws w.heap.size (w.heap.size + 1) (w.heap.size + 1 + 1) k l (some ⟨b9, o9, none⟩) n c (x1 + ct) y1) := by rw [← hws]; exact (BX5.out.set0 _).dn 1
            have E3 : Hid (b9 < w.heap.size ∧ ws.cell? ⟨b9, o9 + m * 2 + 1, none⟩ = some (.int .i64 ct)) := by
              refine ⟨hb9, ?_⟩
              rw [← hws]
              exact (((Below.refl (w.heap.size + 1 + 1) w5).setCell (p := ⟨w.heap.size + 1 + 1, 0, none⟩) (Nat.le_refl _) (.int .i64 (x1 + ct))).cell (p := ⟨b9, o9 + m * 2 + 1, none⟩) (by show b9 < _; omega)).trans e1
            clear hws c0 c1 c2 c3 c4 c5 c6 z0 z1 e1 hb9 hb8 BX5 E5
            obtain ⟨c0, c1, c2, c3, c4, c5, c6, z0, z1⟩ := BX3.out.cells
            have e1 := E3.out.2
            have hb9 := E3.out.1
            have hb8 : b9 < ws.heap.size := Nat.lt_of_lt_of_le hb9 BX3.out.hb.size
            go_wp2_with fail
            go_still_tail 10, (by kernel_rfl)
            change wpList _ _ _ _ _ (World.drew ws)
            go_wp2_with fail
            go_roundw
            case rel => exact ⟨m + 1, by omega, by go_num, by rw [HX2.out, HY2.out]; exact (BX3.out.set1 _).dn 1⟩
            case measure => simp [intOf]; omega
          · exfalso; clear BX5 E5; omega
          · clear XL YL
            have t1 : (h0 == hi - lo + 1) = false := beq_eq_false_iff_ne.2 (by omega)
            have t2 : 0 < h0 := by omega
            have w2 : IntKind.i64.wrap (y1 + ct) = y1 + ct := wrap_lit rfl (by omega) (by omega)
            obtain ⟨c0, c1, c2, c3, c4, c5, c6, z0, z1⟩ := BX5.out.cells
            have e1 := E5.out.2
            have hb9 := E5.out.1
            have hb8 : b9 < w5.heap.size := Nat.lt_of_lt_of_le hb9 BX5.out.hb.size
            go_wp2_with fail
            go_still_tail 10, (by kernel_rfl)
            change wpList _ _ _ _ _ (World.drew w5)
            go_wp2_with fail
            go_roundw
            case rel => exact ⟨m + 1, by omega, by go_num, by rw [HX2.out, HY2.out]; exact (BX5.out.set1 _).dn 1⟩
            case measure => simp [intOf]; omega
          · clear XL YL
            have t1 : (h0 == hi - lo + 1) = false := beq_eq_false_iff_ne.2 (by omega)
            have t2 : ¬ 0 < h0 := by omega
            go_wp2_with fail
            go_roundw
            case rel => exact ⟨m + 1, by omega, by go_num, by rw [HX2.out, HY2.out]; exact BX5.out⟩
            case measure => simp [intOf]; omega
        · obtain rfl : m = n := by omega
          have e : L.take m = L := List.take_of_length_le (by have := HL.out; omega)
          rw [e] at BX
          obtain ⟨c0, c1, c2, c3, c4, _, _, z0, z1⟩ := BX.out.cells
          obtain ⟨r0, r1, r2, r3, r4, r5⟩ := BX.out.rcells
          obtain ⟨q0, q1⟩ := set_two r0 r1
          go_wp2_with fail
          exact bodyPost_ret (v := .tuple #[.agg #[.int .i64 (wtF (onP l U) L), .int .i64 (wtF (onQ l U) L)], .int .i64 0]) (by simp [results, Tryz.results15, go_sem, q0, q1]) rfl ⟨rfl, r5 _ _⟩
end Go.Proofs.YtmfdpaahklndnaaGreat
namespace Go.Proofs.YtmfdpaahklndnaaGreat
set_option linter.unusedVariables false
set_option maxRecDepth 100000
open Go.RowKit
set_option maxHeartbeats 12800000 in
theorem rReOn_off {l : Int} (k : Int) (A : Option Addr) (n c : Nat) (L : List Nd) (A2 : Option Addr) (n2 d2 : Nat) (U : List Int) (w : World) (h : NodesAt w (.slice A n c) L) (hr : RollC l L) (hn : n ≤ 1000) (hi2 : IntsAt w (.slice A2 n2 d2) U) (hbd : Bds U) (hn2 : n2 ≤ 9000) (hall : IsAll l U)
    (HE : ∀ (lo hi : Int) (v : World), Below w.heap.size w v → 0 ≤ lo → lo ≤ hi → hi ≤ 281474976710655 → Calls Tryz.prog 37 #[.int .i64 l, .slice A2 n2 d2, .int .i64 lo, .int .i64 hi] v fun e w' => e = .returned (.int .i64 (hcN l lo hi U)) ∧ Below v.heap.size v w') :
    Calls Tryz.prog 15 #[.agg #[.int .i64 k, .int .i64 l, .slice A n c], .slice A2 n2 d2, .bool true] w fun e w' => e = .returned (.tuple #[.agg #[.int .i64 (ofL l U L), .int .i64 (ofH l U L)], .int .i64 0]) ∧ Below w.heap.size w w' := by
  change Calls _ _ _ _ fun e w' => e = .returned (.tuple #[.agg #[.int .i64 (wtF (ofP l U) L), .int .i64 (wtF (ofQ l U) L)], .int .i64 0]) ∧ Below w.heap.size w w'
  have u : 1 ≤ l ∧ l ≤ 48 := of_decide_eq_true hr.1
  have N0 := Lib.hid (ReBx.new 38 29 w k l A n c)
  have HL := Lib.hid (nodes_cells h).1
  have HA := Lib.hid (nodes_cells h).2.2.2
  have NB := Lib.hid (nbds_roll hr)
  have NE := Lib.hid (fun (m : Nat) (hm : m < L.length) => node_ends hr (nd_mem hm))
  have TL := Lib.hid (fun (m : Nat) hm => wtF_take (ofP l U) (L := L) (k := m) hm)
  have TH := Lib.hid (fun (m : Nat) hm => wtF_take (ofQ l U) (L := L) (k := m) hm)
  have BL := Lib.hid (fun (m : Nat) => wtF_parts (P := ofP l U) hr m)
  have BH := Lib.hid (fun (m : Nat) => wtF_parts (P := ofQ l U) hr m)
  have HD := Lib.hid (fun lo hi (q : lo ≤ hi) => hcN_bd (l := l) (lo := lo) (hi := hi) (J := U) q)
  have HEE := Lib.hid HE
  have UL := Lib.hid (ints_cells hi2).1
  have UC := Lib.hid (ints_cells hi2).2
  have UB := Lib.hid hbd
  have UA := Lib.hid (fun (m : Nat) (hm : m < U.length) => (re_right l _).trans (hall.2 _ (getD_mem hm)))
  clear h hr hi2 hbd hall HE
  go_enter Tryz.func15, Tryz.ntmps15
  go_wp2_with fail
  generalize (((w.alloc (.cells #[.int .i64 k, .int .i64 l, .slice A n c] 38)).alloc (.cells #[.int .i64 0, .int .i64 0] 29)).alloc (.cells #[.int .i64 0, .int .i64 0] 29)) = W0 at *
  obtain ⟨c0, c1, c2, c3, c4, _, _, z0, z1⟩ := N0.out.cells
  go_wp2_with fail
  clear c0 c1 c2 c3 c4 z0 z1
  go_loopw [10] (fun i wr => ∃ m : Nat, m ≤ n2 ∧ i = .int .i64 m ∧ W0 = wr) (fun i _ => n2 - (intOf i).toNat)
  case atStart => exact ⟨0, by omega, rfl, rfl⟩
  case round =>
    obtain ⟨m, hm, rfl, rfl⟩ := hrel
    by_cases hlt : m < n2
    · have hk2 : m < U.length := by have := UL.out; omega
      obtain ⟨b7, o7, rfl, hbz, hcc⟩ := UC.out (by omega)
      have e0 : W0.cell? ⟨b7, o7 + m, none⟩ = some (.int .i64 (U.getD m 0)) := (N0.out.hb.cell (p := ⟨b7, o7 + m, none⟩) hbz).trans (hcc m (by omega))
      have hbw : b7 < W0.heap.size := Nat.lt_of_lt_of_le hbz N0.out.hb.size
      have kb := UB.out (U.getD m 0) (getD_mem hk2)
      have ub := UA.out m hk2
      clear hcc hbz
      generalize U.getD m 0 = t at *
      have RT := Lib.hid (fun w => rright_any l t w (by omega) (by omega) kb.1 kb.2)
      rw [ub] at RT
      have k0 : (0 : Int) ≤ (m : Int) := Int.natCast_nonneg _
      have k1 : (m : Int) < (n2 : Int) := by omega
      clear ub
      go_wp2_with (go_at_call 36; refine (RT.out _).mono ?_; rintro e w6 ⟨rfl, rfl⟩)
      go_roundw
      case rel => exact ⟨m + 1, by omega, by go_num, trivial⟩
      case measure => simp [intOf]; omega
    · obtain rfl : m = n2 := by omega
      go_wp2_with fail
      have HW0 := Lib.hid N0.out
      clear N0
      go_loopw [11] (fun i wr => ∃ m : Nat, m ≤ n ∧ i = .int .i64 m ∧ ReBx 38 29 w wr w.heap.size (w.heap.size + 1) (w.heap.size + 1 + 1) k l A n c (wtF (ofP l U) (L.take m)) (wtF (ofQ l U) (L.take m))) (fun i _ => n - (intOf i).toNat)
      case atStart => exact ⟨0, by omega, rfl, HW0.out⟩
      case round =>
        obtain ⟨m, hm, rfl, hbx⟩ := hrel
        have BX := Lib.hid hbx
        clear hbx HW0
        by_cases hlt : m < n
        · have hk2 : m < L.length := by have := HL.out; omega
          obtain ⟨b9, o9, rfl, hin⟩ := HA.out (by omega)
          obtain ⟨e0, e1⟩ := (hin.below BX.out.hb hin.1).2 m hk2
          have hbw : b9 < wr.heap.size := Nat.lt_of_lt_of_le hin.1 BX.out.hb.size
          have HZ := Lib.hid hin.1
          have hx := nbds_at NB.out hk2
          have ne := NE.out m hk2
          have b48 : (2 : Int) ^ l.toNat ≤ 281474976710656 := two_le l.toNat 48 (by omega)
          have SL := Lib.hid (TL.out m hk2)
          have SH := Lib.hid (TH.out m hk2)
          have l1 := BL.out m
          have l2 := BL.out (m + 1)
          have h1 := BH.out m
          have h2 := BH.out (m + 1)
          clear hin
          generalize (L.getD m nz).1 = id at *
          generalize (L.getD m nz).2 = ct at *
          have EN := Lib.hid (fun w => rends_any l id w (by omega) (by omega) hx.1.1 hx.1.2)
          generalize wtF (ofP l U) (L.take m) = x1 at *
          generalize wtF (ofQ l U) (L.take m) = y1 at *
          generalize hx2 : wtF (ofP l U) (L.take (m + 1)) = x2 at *
          generalize hy2 : wtF (ofQ l U) (L.take (m + 1)) = y2 at *
          have HX2 := Lib.hid hx2
          have HY2 := Lib.hid hy2
          clear hx2 hy2
          unfold ofP at SL
          unfold ofQ at SH
          have hbd := HD.out (loN l id) (hiN l id) (by omega)
          have hcall := fun v hv => HEE.out (loN l id) (hiN l id) v hv (by omega) (by omega) (by omega)
          generalize loN l id = lo at *
          generalize hiN l id = hi at *
          generalize hcN l lo hi U = h0 at *
          have HC2 := Lib.hid hcall
          clear hcall
          have xl : (x2 = x1 + ct ∧ h0 = 0) ∨ (x1 = x2 ∧ ¬ h0 = 0) := by
            have := SL.out
            simp only [decide_eq_true_eq] at this
            split at this <;> omega
          have yl : (y2 = y1 + ct ∧ h0 < hi - lo + 1) ∨ (y1 = y2 ∧ ¬ h0 < hi - lo + 1) := by
            have := SH.out
            simp only [decide_eq_true_eq] at this
            split at this <;> omega
          have XL := Lib.hid xl
          have YL := Lib.hid yl
          clear SL SH xl yl TL TH BL BH
          have k0 : (0 : Int) ≤ (m : Int) := Int.natCast_nonneg _
          have k1 : (m : Int) < (n : Int) := by omega
          have w3 : IntKind.i64.wrap (hi - lo) = hi - lo := wrap_lit rfl (by omega) (by omega)
          have w4 : IntKind.i64.wrap (hi - lo + 1) = hi - lo + 1 := wrap_lit rfl (by omega) (by omega)
          obtain ⟨c0, c1, c2, c3, c4, _, _, z0, z1⟩ := BX.out.cells
          go_wp2_with fail
          refine (EN.out _).mono ?_
          rintro e w6 ⟨rfl, rfl⟩
          have BX2 := BX
          have E2 : Hid (b9 < w.heap.size ∧ wr.cell? ⟨b9, o9 + m * 2 + 1, none⟩ = some (.int .i64 ct)) := ⟨HZ.out, e1⟩
          clear c0 c1 c2 c3 c4 z0 z1 e0 e1 hbw BX EN
          go_wp2_with fail
          refine (HC2.out _ BX2.out.hb).mono ?_
          rintro e w5 ⟨rfl, hb5⟩
          have BX5 := Lib.hid (BX2.out.below hb5)
          have E5 : Hid (b9 < w.heap.size ∧ w5.cell? ⟨b9, o9 + m * 2 + 1, none⟩ = some (.int .i64 ct)) := ⟨E2.out.1, (hb5.cell (p := ⟨b9, o9 + m * 2 + 1, none⟩) (Nat.lt_of_lt_of_le E2.out.1 BX2.out.hb.size)).trans E2.out.2⟩
          clear BX2 E2 hb5 HC2
          obtain ⟨rfl, p1⟩ | ⟨rfl, p1⟩ := XL.out <;> obtain ⟨rfl, q1⟩ | ⟨rfl, q1⟩ := YL.out
          · clear XL YL
            have w5q : IntKind.i64.wrap (hi - lo + 1 - h0) = hi - lo + 1 - h0 := wrap_lit rfl (by omega) (by omega)
            have t1 : (hi - lo + 1 - h0 == hi - lo + 1) = true := beq_iff_eq.2 (by omega)
            have t2 : 0 < hi - lo + 1 - h0 := by omega
            have w1 : IntKind.i64.wrap (x1 + ct) = x1 + ct := wrap_lit rfl (by omega) (by omega)
            have w2 : IntKind.i64.wrap (y1 + ct) = y1 + ct := wrap_lit rfl (by omega) (by omega)
            obtain ⟨c0, c1, c2, c3, c4, c5, c6, z0, z1⟩ := BX5.out.cells
            have e1 := E5.out.2
            have hb9 := E5.out.1
            have hb8 : b9 < w5.heap.size := Nat.lt_of_lt_of_le hb9 BX5.out.hb.size
            go_wp2_with fail
            go_still_tail 10, (by kernel_rfl)
            change wpList _ _ _ _ _ (World.drew w5)
            go_wp2_with fail
            generalize hws : World.drew (World.setCell w5 _ _) = ws
            have BX3 : Hid (ReBx 38 29 w ws w.heap.size (w.heap.size + 1) (w.heap.size + 1 + 1) k l (some ⟨b9, o9, none⟩) n c (x1 + ct) y1) := by rw [← hws]; exact (BX5.out.set0 _).dn 1
            have E3 : Hid (b9 < w.heap.size ∧ ws.cell? ⟨b9, o9 + m * 2 + 1, none⟩ = some (.int .i64 ct)) := by
              refine ⟨hb9, ?_⟩
              rw [← hws]
              exact (((Below.refl (w.heap.size + 1 + 1) w5).setCell (p := ⟨w.heap.size + 1 + 1, 0, none⟩) (Nat.le_refl _) (.int .i64 (x1 + ct))).cell (p := ⟨b9, o9 + m * 2 + 1, none⟩) (by show b9 < _; omega)).trans e1
            clear hws c0 c1 c2 c3 c4 c5 c6 z0 z1 e1 hb9 hb8 BX5 E5
            obtain ⟨c0, c1, c2, c3, c4, c5, c6, z0, z1⟩ := BX3.out.cells
            have e1 := E3.out.2
            have hb9 := E3.out.1
            have hb8 : b9 < ws.heap.size := Nat.lt_of_lt_of_le hb9 BX3.out.hb.size
            go_wp2_with fail
            go_still_tail 10, (by kernel_rfl)
            change wpList _ _ _ _ _ (World.drew ws)
            go_wp2_with fail
            go_roundw
            case rel => exact ⟨m + 1, by omega, by go_num, by rw [HX2.out, HY2.out]; exact (BX3.out.set1 _).dn 1⟩
            case measure => simp [intOf]; omega
          · exfalso; clear BX5 E5; omega
          · clear XL YL
            have w5q : IntKind.i64.wrap (hi - lo + 1 - h0) = hi - lo + 1 - h0 := wrap_lit rfl (by omega) (by omega)
            have t1 : (hi - lo + 1 - h0 == hi - lo + 1) = false := beq_eq_false_iff_ne.2 (by omega)
            have t2 : 0 < hi - lo + 1 - h0 := by omega
            have w2 : IntKind.i64.wrap (y1 + ct) = y1 + ct := wrap_lit rfl (by omega) (by omega)
            obtain ⟨c0, c1, c2, c3, c4, c5, c6, z0, z1⟩ := BX5.out.cells
            have e1 := E5.out.2
            have hb9 := E5.out.1
            have hb8 : b9 < w5.heap.size := Nat.lt_of_lt_of_le hb9 BX5.out.hb.size
            go_wp2_with fail
            go_still_tail 10, (by kernel_rfl)
            change wpList _ _ _ _ _ (World.drew w5)
            go_wp2_with fail
            go_roundw
            case rel => exact ⟨m + 1, by omega, by go_num, by rw [HX2.out, HY2.out]; exact (BX5.out.set1 _).dn 1⟩
            case measure => simp [intOf]; omega
          · clear XL YL
            have w5q : IntKind.i64.wrap (hi - lo + 1 - h0) = hi - lo + 1 - h0 := wrap_lit rfl (by omega) (by omega)
            have t1 : (hi - lo + 1 - h0 == hi - lo + 1) = false := beq_eq_false_iff_ne.2 (by omega)
            have t2 : ¬ 0 < hi - lo + 1 - h0 := by omega
            go_wp2_with fail
            go_roundw
            case rel => exact ⟨m + 1, by omega, by go_num, by rw [HX2.out, HY2.out]; exact BX5.out⟩
            case measure => simp [intOf]; omega
        · obtain rfl : m = n := by omega
          have e : L.take m = L := List.take_of_length_le (by have := HL.out; omega)
          rw [e] at BX
          obtain ⟨c0, c1, c2, c3, c4, _, _, z0, z1⟩ := BX.out.cells
          obtain ⟨r0, r1, r2, r3, r4, r5⟩ := BX.out.rcells
          obtain ⟨q0, q1⟩ := set_two r0 r1
          go_wp2_with fail
          exact bodyPost_ret (v := .tuple #[.agg #[.int .i64 (wtF (ofP l U) L), .int .i64 (wtF (ofQ l U) L)], .int .i64 0]) (by simp [results, Tryz.results15, go_sem, q0, q1]) rfl ⟨rfl, r5 _ _⟩
end Go.Proofs.YtmfdpaahklndnaaGreat
namespace Go.Proofs.YtmfdpaahklndnaaGreat
set_option linter.unusedVariables false
set_option maxRecDepth 100000
open Go.RowKit
set_option maxHeartbeats 3200000 in
theorem rReOn_no {l : Int} (k : Int) (A : Option Addr) (n c : Nat) (L : List Nd) (A2 : Option Addr) (n2 d2 : Nat) (U : List Int) (off : Bool) (w : World) (h : NodesAt w (.slice A n c) L) (hr : RollC l L) (hn : n ≤ 1000) (hi2 : IntsAt w (.slice A2 n2 d2) U) (hbd : Bds U) (hn2 : n2 ≤ 9000) (hno : NotAll l U) :
    Calls Tryz.prog 15 #[.agg #[.int .i64 k, .int .i64 l, .slice A n c], .slice A2 n2 d2, .bool off] w fun e w' => e = .returned (.tuple #[.agg #[.int .i64 0, .int .i64 0], .int .i64 2]) ∧ Below w.heap.size w w' := by
  have u : 1 ≤ l ∧ l ≤ 48 := of_decide_eq_true hr.1
  have N0 := Lib.hid (ReBx.new 38 29 w k l A n c)
  have UL := Lib.hid (ints_cells hi2).1
  have UC := Lib.hid (ints_cells hi2).2
  have UB := Lib.hid hbd
  have NO : Hid (∃ t ∈ U, endB l t = false) := by
    rcases hno with e | e
    · have e2 : uniB l = true := hr.1
      rw [e] at e2; cases e2
    · exact e
  clear h hr hi2 hbd hno
  go_enter Tryz.func15, Tryz.ntmps15
  go_wp2_with fail
  generalize (((w.alloc (.cells #[.int .i64 k, .int .i64 l, .slice A n c] 38)).alloc (.cells #[.int .i64 0, .int .i64 0] 29)).alloc (.cells #[.int .i64 0, .int .i64 0] 29)) = W0 at *
  obtain ⟨c0, c1, c2, c3, c4, _, _, z0, z1⟩ := N0.out.cells
  obtain ⟨r0, r1, r2, r3, r4, r5⟩ := N0.out.rcells
  obtain ⟨q0, q1⟩ := set_two r0 r1
  go_wp2_with fail
  go_loopw [10] (fun i wr => ∃ m : Nat, m ≤ n2 ∧ i = .int .i64 m ∧ Hid (∀ t ∈ U.take m, endB l t = true) ∧ W0 = wr) (fun i _ => n2 - (intOf i).toNat)
  case atStart => exact ⟨0, by omega, rfl, Lib.hid (fun t ht => by simp at ht), rfl⟩
  case round =>
    obtain ⟨m, hm, rfl, HT, rfl⟩ := hrel
    by_cases hlt : m < n2
    · have hk2 : m < U.length := by have := UL.out; omega
      obtain ⟨b7, o7, rfl, hbz, hcc⟩ := UC.out (by omega)
      have e0 : W0.cell? ⟨b7, o7 + m, none⟩ = some (.int .i64 (U.getD m 0)) := (N0.out.hb.cell (p := ⟨b7, o7 + m, none⟩) hbz).trans (hcc m (by omega))
      have hbw : b7 < W0.heap.size := Nat.lt_of_lt_of_le hbz N0.out.hb.size
      have kb := UB.out (U.getD m 0) (getD_mem hk2)
      have TK := Lib.hid (take_at hk2)
      clear hcc hbz
      generalize U.getD m 0 = t at *
      have RT := Lib.hid (fun w => rright_any l t w (by omega) (by omega) kb.1 kb.2)
      rw [re_right] at RT
      have k0 : (0 : Int) ≤ (m : Int) := Int.natCast_nonneg _
      have k1 : (m : Int) < (n2 : Int) := by omega
      cases he : endB l t
      · rw [he] at RT
        go_wp2_with (go_at_call 36; refine (RT.out _).mono ?_; rintro e w6 ⟨rfl, rfl⟩)
        exact bodyPost_ret (v := .tuple #[.agg #[.int .i64 0, .int .i64 0], .int .i64 2]) (by simp [results, Tryz.results15, go_sem, q0, q1]) rfl ⟨rfl, r5 _ _⟩
      · rw [he] at RT
        have HT2 : Hid (∀ t ∈ U.take (m + 1), endB l t = true) := Lib.hid (fun x hx => by
          rw [TK.out] at hx
          rcases List.mem_append.1 hx with hx | hx
          · exact HT.out x hx
          · rw [List.mem_singleton.1 hx]; exact he)
        clear he TK
        go_wp2_with (go_at_call 36; refine (RT.out _).mono ?_; rintro e w6 ⟨rfl, rfl⟩)
        go_roundw
        case rel => exact ⟨m + 1, by omega, by go_num, HT2, trivial⟩
        case measure => simp [intOf]; omega
    · exfalso
      obtain ⟨t, ht, e⟩ := NO.out
      have q := HT.out t (by rw [List.take_of_length_le (by have := UL.out; omega)]; exact ht)
      rw [e] at q; cases q
end Go.Proofs.YtmfdpaahklndnaaGreat
