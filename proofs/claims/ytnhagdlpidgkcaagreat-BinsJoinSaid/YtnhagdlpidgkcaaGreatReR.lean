/- Texts laid together: ReRef, ReRef2, ReRef4, ReRef3, ReRef5, ReRef6, ReRef7. -/
import Derived.Test.YtnhagdlpidgkcaaGreatReK
import Derived.Test.YtnhagdlpidgkcaaGreatDgR
import Derived.Test.YtnhagdlpidgkcaaGreatTiQ
import Derived.Test.YtnhagdlpidgkcaaGreatRfQ
import Derived.Test.YtnhagdlpidgkcaaGreatRoQ
import Derived.Deep.Cut
import Derived.BigQuiet
import Derived.StillTailTactics
import Derived.Test.YtnhagdlpidgkcaaGreatMmy
import Derived.Deep.RegionHeld3
namespace Go.Proofs.YtnhagdlpidgkcaaGreat
set_option linter.unusedVariables false
set_option maxRecDepth 100000
open Go.RowKit
/-- the digest's box, the result's, and one with two sums -/
structure ReBx (TD TB : TypeId) (W w : World) (bd br bo : Nat) (k l : Int) (A : Option Addr) (n c : Nat) (x y : Int) : Prop where
  d : w.ownsRow W.heap.size TD 3 (.slice (some ⟨bd, 0, none⟩) 1 1) 1 [.int .i64 k, .int .i64 l, .slice A n c]
  r : w.ownsRow W.heap.size TB 2 (.slice (some ⟨br, 0, none⟩) 1 1) 1 [.int .i64 0, .int .i64 0]
  o : w.ownsRow W.heap.size TB 2 (.slice (some ⟨bo, 0, none⟩) 1 1) 1 [.int .i64 x, .int .i64 y]
  nd : bd ≠ bo
  nr : br ≠ bo
  hb : Below W.heap.size W w
variable {TD TB : TypeId} {W w w' : World} {bd br bo : Nat} {k l : Int} {A : Option Addr} {n c : Nat} {x y : Int}
theorem ReBx.below (h : ReBx TD TB W w bd br bo k l A n c x y) (q : Below w.heap.size w w') : ReBx TD TB W w' bd br bo k l A n c x y := ⟨own_below h.d q, own_below h.r q, own_below h.o q, h.nd, h.nr, h.hb.trans (q.mono h.hb.size)⟩
theorem ReBx.set0 (h : ReBx TD TB W w bd br bo k l A n c x y) (u : Int) : ReBx TD TB W (w.setCell ⟨bo, 0, none⟩ (.int .i64 u)) bd br bo k l A n c u y :=
  ⟨own_kp h.d (Kp.setCell w ⟨bo, 0, none⟩ (.int .i64 u)) fun g e q => by simp [Value.ownBlock] at e; exact h.nd (e.trans q),
   own_kp h.r (Kp.setCell w ⟨bo, 0, none⟩ (.int .i64 u)) fun g e q => by simp [Value.ownBlock] at e; exact h.nr (e.trans q), (h.o.stored 0 (.int .i64 u)).1, h.nd, h.nr, h.hb.setCell (p := ⟨bo, 0, none⟩) (h.o.lt bo rfl).1 _⟩
theorem ReBx.set1 (h : ReBx TD TB W w bd br bo k l A n c x y) (u : Int) : ReBx TD TB W (w.setCell ⟨bo, 1, none⟩ (.int .i64 u)) bd br bo k l A n c x u :=
  ⟨own_kp h.d (Kp.setCell w ⟨bo, 1, none⟩ (.int .i64 u)) fun g e q => by simp [Value.ownBlock] at e; exact h.nd (e.trans q),
   own_kp h.r (Kp.setCell w ⟨bo, 1, none⟩ (.int .i64 u)) fun g e q => by simp [Value.ownBlock] at e; exact h.nr (e.trans q), (h.o.stored 1 (.int .i64 u)).1, h.nd, h.nr, h.hb.setCell (p := ⟨bo, 1, none⟩) (h.o.lt bo rfl).1 _⟩
theorem ReBx.cells (h : ReBx TD TB W w bd br bo k l A n c x y) :
    w.cell? ⟨bd, 0, none⟩ = some (.int .i64 k) ∧ w.cell? ⟨bd, 1, none⟩ = some (.int .i64 l) ∧ w.cell? ⟨bd, 2, none⟩ = some (.slice A n c) ∧ w.cell? ⟨bo, 0, none⟩ = some (.int .i64 x) ∧ w.cell? ⟨bo, 1, none⟩ = some (.int .i64 y) ∧ w.frozen? ⟨bo, 0, none⟩ = false ∧ w.frozen? ⟨bo, 1, none⟩ = false ∧ bd < w.heap.size ∧ bo < w.heap.size :=
  ⟨h.d.cellAt 0 (by omega), h.d.cellAt 1 (by omega), h.d.cellAt 2 (by omega), h.o.cellAt 0 (by omega), h.o.cellAt 1 (by omega), h.o.frozenAt 0, h.o.frozenAt 1, (h.d.lt bd rfl).2, (h.o.lt bo rfl).2⟩
theorem ReBx.rcells (h : ReBx TD TB W w bd br bo k l A n c x y) :
    w.cell? ⟨br, 0, none⟩ = some (.int .i64 0) ∧ w.cell? ⟨br, 1, none⟩ = some (.int .i64 0) ∧ w.frozen? ⟨br, 0, none⟩ = false ∧ w.frozen? ⟨br, 1, none⟩ = false ∧ br < w.heap.size ∧ ∀ u v, Below W.heap.size W ((w.setCell ⟨br, 0, none⟩ u).setCell ⟨br, 1, none⟩ v) :=
  ⟨h.r.cellAt 0 (by omega), h.r.cellAt 1 (by omega), h.r.frozenAt 0, h.r.frozenAt 1, (h.r.lt br rfl).2, fun u v => (h.hb.setCell (p := ⟨br, 0, none⟩) (h.r.lt br rfl).1 u).setCell (p := ⟨br, 1, none⟩) (h.r.lt br rfl).1 v⟩
theorem ReBx.dn (h : ReBx TD TB W w bd br bo k l A n c x y) (q : Nat) : ReBx TD TB W (w.drewN q) bd br bo k l A n c x y := h.below ⟨rfl, rfl, rfl, Nat.le_refl _, fun _ _ => rfl⟩
theorem ReBx.new (TD TB : TypeId) (W : World) (k l : Int) (A : Option Addr) (n c : Nat) :
    ReBx TD TB W (((W.alloc (.cells #[.int .i64 k, .int .i64 l, .slice A n c] TD)).alloc (.cells #[.int .i64 0, .int .i64 0] TB)).alloc (.cells #[.int .i64 0, .int .i64 0] TB)) W.heap.size (W.heap.size + 1) (W.heap.size + 1 + 1) k l A n c 0 0 := by
  have e1 : (W.alloc (.cells #[.int .i64 k, .int .i64 l, .slice A n c] TD)).heap.size = W.heap.size + 1 := by simp
  have e2 : ((W.alloc (.cells #[.int .i64 k, .int .i64 l, .slice A n c] TD)).alloc (.cells #[.int .i64 0, .int .i64 0] TB)).heap.size = W.heap.size + 1 + 1 := by simp
  have a := ((tri_nw W TD (.int .i64 k) (.int .i64 l) (.slice A n c)).alloc (.cells #[.int .i64 0, .int .i64 0] TB)).alloc (.cells #[.int .i64 0, .int .i64 0] TB)
  have b := (box2 (W.alloc (.cells #[.int .i64 k, .int .i64 l, .slice A n c] TD)) TB (.int .i64 0) (.int .i64 0)).alloc (.cells #[.int .i64 0, .int .i64 0] TB)
  have d := box2 ((W.alloc (.cells #[.int .i64 k, .int .i64 l, .slice A n c] TD)).alloc (.cells #[.int .i64 0, .int .i64 0] TB)) TB (.int .i64 0) (.int .i64 0)
  rw [e1] at b
  rw [e2] at d
  exact ⟨a, own_low b (by omega), own_low d (by omega), by omega, by omega, ((((Below.refl W.heap.size W).alloc (Nat.le_refl _) _).alloc (by simp) _).alloc (by simp; omega) _)⟩
end Go.Proofs.YtnhagdlpidgkcaaGreat
namespace Go.Proofs.YtnhagdlpidgkcaaGreat
set_option linter.unusedVariables false
set_option maxRecDepth 100000
open Go.RowKit
set_option maxHeartbeats 6400000 in
theorem rReBetween_yes {l : Int} (k a b : Int) (A : Option Addr) (n c : Nat) (L : List Nd) (w : World) (h : NodesAt w (.slice A n c) L) (hr : RollC l L) (hn : n ≤ 1000) (A0 : -9223372036854775808 ≤ a) (A1 : a ≤ 9223372036854775807) (B0 : -9223372036854775808 ≤ b) (B1 : b ≤ 9223372036854775807) (hab : a ≤ b) :
    Calls Tryz.prog 42 #[.agg #[.int .i64 k, .int .i64 l, .slice A n c], .int .i64 a, .int .i64 b] w fun e w' => e = .returned (.tuple #[.agg #[.int .i64 (btwL l L a b), .int .i64 (btwH l L a b)], .int .i64 0]) ∧ Below w.heap.size w w' := by
  unfold btwL btwH
  have u : 1 ≤ l ∧ l ≤ 48 := of_decide_eq_true hr.1
  have N0 := Lib.hid (ReBx.new 35 50 w k l A n c)
  have HL := Lib.hid (nodes_cells h).1
  have HA := Lib.hid (nodes_cells h).2.2.2
  have NB := Lib.hid (nbds_roll hr)
  have TL := Lib.hid (fun (m : Nat) hm => wtF_take (inP l a b) (L := L) (k := m) hm)
  have TH := Lib.hid (fun (m : Nat) hm => wtF_take (meP l a b) (L := L) (k := m) hm)
  have BL := Lib.hid (fun (m : Nat) => wtF_parts (P := inP l a b) hr m)
  have BH := Lib.hid (fun (m : Nat) => wtF_parts (P := meP l a b) hr m)
  clear h hr
  go_enter Tryz.func42, Tryz.ntmps42
  go_wp2_with fail
  generalize (((w.alloc (.cells #[.int .i64 k, .int .i64 l, .slice A n c] 35)).alloc (.cells #[.int .i64 0, .int .i64 0] 50)).alloc (.cells #[.int .i64 0, .int .i64 0] 50)) = W0 at *
  go_loopw [9] (fun i wr => ∃ m : Nat, m ≤ n ∧ i = .int .i64 m ∧ ReBx 35 50 w wr w.heap.size (w.heap.size + 1) (w.heap.size + 1 + 1) k l A n c (wtF (inP l a b) (L.take m)) (wtF (meP l a b) (L.take m))) (fun i _ => n - (intOf i).toNat)
  case atStart => exact ⟨0, by omega, rfl, N0.out⟩
  case round =>
    obtain ⟨m, hm, rfl, hbx⟩ := hrel
    have BX := Lib.hid hbx
    clear hbx N0
    by_cases hlt : m < n
    · have hk2 : m < L.length := by have := HL.out; omega
      obtain ⟨b9, o9, rfl, hin⟩ := HA.out (by omega)
      obtain ⟨e0, e1⟩ := (hin.below BX.out.hb hin.1).2 m hk2
      have hbw : b9 < wr.heap.size := Nat.lt_of_lt_of_le hin.1 BX.out.hb.size
      have HZ := Lib.hid hin.1
      have hx := nbds_at NB.out hk2
      have SL := Lib.hid (TL.out m hk2)
      have SH := Lib.hid (TH.out m hk2)
      have l1 := BL.out m
      have l2 := BL.out (m + 1)
      have h1 := BH.out m
      have h2 := BH.out (m + 1)
      clear hin
      generalize (L.getD m nz).1 = id at *
      generalize (L.getD m nz).2 = ct at *
      have EN := Lib.hid (fun w => rends_any l id w (by omega) (by omega) hx.1.1 hx.1.2)
      generalize wtF (inP l a b) (L.take m) = x1 at *
      generalize wtF (meP l a b) (L.take m) = y1 at *
      generalize hx2 : wtF (inP l a b) (L.take (m + 1)) = x2 at *
      generalize hy2 : wtF (meP l a b) (L.take (m + 1)) = y2 at *
      have HX2 := Lib.hid hx2
      have HY2 := Lib.hid hy2
      clear hx2 hy2
      unfold inP at SL
      unfold meP at SH
      generalize loN l id = lo at *
      generalize hiN l id = hi at *
      have xl : (x2 = x1 + ct ∧ a ≤ lo ∧ hi ≤ b) ∨ (x1 = x2 ∧ ¬ a ≤ lo) ∨ (x1 = x2 ∧ a ≤ lo ∧ ¬ hi ≤ b) := by
        have := SL.out
        simp only [decide_eq_true_eq] at this
        split at this <;> omega
      have yl : (y2 = y1 + ct ∧ lo ≤ b ∧ a ≤ hi) ∨ (y1 = y2 ∧ ¬ lo ≤ b) ∨ (y1 = y2 ∧ lo ≤ b ∧ ¬ a ≤ hi) := by
        have := SH.out
        simp only [decide_eq_true_eq] at this
        split at this <;> omega
      have XL := Lib.hid xl
      have YL := Lib.hid yl
      clear SL SH xl yl TL TH BL BH
      have k0 : (0 : Int) ≤ (m : Int) := Int.natCast_nonneg _
      have k1 : (m : Int) < (n : Int) := by omega
      obtain ⟨c0, c1, c2, c3, c4, _, _, z0, z1⟩ := BX.out.cells
      go_wp2_with fail
      go_quiet ((go_at_call 79; exact Calls.quiet_of_same ((EN.out _).mono fun _ _ ⟨a, b⟩ => ⟨a, b.symm⟩)))
      generalize hwq : World.drewN wr _ = wq
      have BX2 : Hid (ReBx 35 50 w wq w.heap.size (w.heap.size + 1) (w.heap.size + 1 + 1) k l (some ⟨b9, o9, none⟩) n c x1 y1) := by rw [← hwq]; exact BX.out.dn _
      have E2 : Hid (b9 < w.heap.size ∧ wq.cell? ⟨b9, o9 + m * 2 + 1, none⟩ = some (.int .i64 ct)) := by rw [← hwq]; exact ⟨HZ.out, e1⟩
      clear hwq c0 c1 c2 c3 c4 z0 z1 e0 e1 hbw BX EN
      obtain ⟨rfl, p1, p2⟩ | ⟨rfl, p1⟩ | ⟨rfl, p1, p2⟩ := XL.out <;> obtain ⟨rfl, q1, q2⟩ | ⟨rfl, q1⟩ | ⟨rfl, q1, q2⟩ := YL.out
      · clear XL YL
        have w1 : IntKind.i64.wrap (x1 + ct) = x1 + ct := wrap_lit rfl (by omega) (by omega)
        have w2 : IntKind.i64.wrap (y1 + ct) = y1 + ct := wrap_lit rfl (by omega) (by omega)
        obtain ⟨c0, c1, c2, c3, c4, c5, c6, z0, z1⟩ := BX2.out.cells
        have e1 := E2.out.2
        have hb9 := E2.out.1
        have hb8 : b9 < wq.heap.size := Nat.lt_of_lt_of_le hb9 BX2.out.hb.size
        go_wp2_with fail
        go_still_tail 10, (by kernel_rfl)
        change wpList _ _ _ _ _ (World.drew wq)
        go_wp2_with fail
        generalize hws : World.drew (World.setCell wq _ _) = ws
        have BX3 : Hid (ReBx 35 50 w ws w.heap.size (w.heap.size + 1) (w.heap.size + 1 + 1) k l (some ⟨b9, o9, none⟩) n c (x1 + ct) y1) := by rw [← hws]; exact (BX2.out.set0 _).dn 1
        have E3 : Hid (b9 < w.heap.size ∧ ws.cell? ⟨b9, o9 + m * 2 + 1, none⟩ = some (.int .i64 ct)) := by
          refine ⟨hb9, ?_⟩
          rw [← hws]
          exact (((Below.refl (w.heap.size + 1 + 1) wq).setCell (p := ⟨w.heap.size + 1 + 1, 0, none⟩) (Nat.le_refl _) (.int .i64 (x1 + ct))).cell (p := ⟨b9, o9 + m * 2 + 1, none⟩) (by show b9 < _; omega)).trans e1
        clear hws c0 c1 c2 c3 c4 c5 c6 z0 z1 e1 hb9 hb8 BX2 E2
        obtain ⟨c0, c1, c2, c3, c4, c5, c6, z0, z1⟩ := BX3.out.cells
        have e1 := E3.out.2
        have hb9 := E3.out.1
        have hb8 : b9 < ws.heap.size := Nat.lt_of_lt_of_le hb9 BX3.out.hb.size
        go_wp2_with fail
        go_still_tail 10, (by kernel_rfl)
        change wpList _ _ _ _ _ (World.drew ws)
        go_wp2_with fail
        go_roundw
        case rel => exact ⟨m + 1, by omega, by go_num, by rw [HX2.out, HY2.out]; exact (BX3.out.set1 _).dn 1⟩
        case measure => simp [intOf]; omega
      · clear XL YL
        have w1 : IntKind.i64.wrap (x1 + ct) = x1 + ct := wrap_lit rfl (by omega) (by omega)
        obtain ⟨c0, c1, c2, c3, c4, c5, c6, z0, z1⟩ := BX2.out.cells
        have e1 := E2.out.2
        have hb9 := E2.out.1
        have hb8 : b9 < wq.heap.size := Nat.lt_of_lt_of_le hb9 BX2.out.hb.size
        go_wp2_with fail
        go_still_tail 10, (by kernel_rfl)
        change wpList _ _ _ _ _ (World.drew wq)
        go_wp2_with fail
        generalize hws : World.drew (World.setCell wq _ _) = ws
        have BX3 : Hid (ReBx 35 50 w ws w.heap.size (w.heap.size + 1) (w.heap.size + 1 + 1) k l (some ⟨b9, o9, none⟩) n c (x1 + ct) y1) := by rw [← hws]; exact (BX2.out.set0 _).dn 1
        have E3 : Hid (b9 < w.heap.size ∧ ws.cell? ⟨b9, o9 + m * 2 + 1, none⟩ = some (.int .i64 ct)) := by
          refine ⟨hb9, ?_⟩
          rw [← hws]
          exact (((Below.refl (w.heap.size + 1 + 1) wq).setCell (p := ⟨w.heap.size + 1 + 1, 0, none⟩) (Nat.le_refl _) (.int .i64 (x1 + ct))).cell (p := ⟨b9, o9 + m * 2 + 1, none⟩) (by show b9 < _; omega)).trans e1
        clear hws c0 c1 c2 c3 c4 c5 c6 z0 z1 e1 hb9 hb8 BX2 E2
        go_roundw
        case rel => exact ⟨m + 1, by omega, by go_num, by rw [HX2.out, HY2.out]; exact BX3.out⟩
        case measure => simp [intOf]; omega
      · clear XL YL
        have w1 : IntKind.i64.wrap (x1 + ct) = x1 + ct := wrap_lit rfl (by omega) (by omega)
        obtain ⟨c0, c1, c2, c3, c4, c5, c6, z0, z1⟩ := BX2.out.cells
        have e1 := E2.out.2
        have hb9 := E2.out.1
        have hb8 : b9 < wq.heap.size := Nat.lt_of_lt_of_le hb9 BX2.out.hb.size
        go_wp2_with fail
        go_still_tail 10, (by kernel_rfl)
        change wpList _ _ _ _ _ (World.drew wq)
        go_wp2_with fail
        generalize hws : World.drew (World.setCell wq _ _) = ws
        have BX3 : Hid (ReBx 35 50 w ws w.heap.size (w.heap.size + 1) (w.heap.size + 1 + 1) k l (some ⟨b9, o9, none⟩) n c (x1 + ct) y1) := by rw [← hws]; exact (BX2.out.set0 _).dn 1
        have E3 : Hid (b9 < w.heap.size ∧ ws.cell? ⟨b9, o9 + m * 2 + 1, none⟩ = some (.int .i64 ct)) := by
          refine ⟨hb9, ?_⟩
          rw [← hws]
          exact (((Below.refl (w.heap.size + 1 + 1) wq).setCell (p := ⟨w.heap.size + 1 + 1, 0, none⟩) (Nat.le_refl _) (.int .i64 (x1 + ct))).cell (p := ⟨b9, o9 + m * 2 + 1, none⟩) (by show b9 < _; omega)).trans e1
        clear hws c0 c1 c2 c3 c4 c5 c6 z0 z1 e1 hb9 hb8 BX2 E2
        go_roundw
        case rel => exact ⟨m + 1, by omega, by go_num, by rw [HX2.out, HY2.out]; exact BX3.out⟩
        case measure => simp [intOf]; omega
      · clear XL YL
        have w2 : IntKind.i64.wrap (y1 + ct) = y1 + ct := wrap_lit rfl (by omega) (by omega)
        obtain ⟨c0, c1, c2, c3, c4, c5, c6, z0, z1⟩ := BX2.out.cells
        have e1 := E2.out.2
        have hb9 := E2.out.1
        have hb8 : b9 < wq.heap.size := Nat.lt_of_lt_of_le hb9 BX2.out.hb.size
        go_wp2_with fail
        go_still_tail 10, (by kernel_rfl)
        change wpList _ _ _ _ _ (World.drew wq)
        go_wp2_with fail
        go_roundw
        case rel => exact ⟨m + 1, by omega, by go_num, by rw [HX2.out, HY2.out]; exact (BX2.out.set1 _).dn 1⟩
        case measure => simp [intOf]; omega
      · exfalso; clear BX2; omega
      · clear XL YL
        go_wp2_with fail
        go_roundw
        case rel => exact ⟨m + 1, by omega, by go_num, by rw [HX2.out, HY2.out]; exact BX2.out⟩
        case measure => simp [intOf]; omega
      · clear XL YL
        have w2 : IntKind.i64.wrap (y1 + ct) = y1 + ct := wrap_lit rfl (by omega) (by omega)
        obtain ⟨c0, c1, c2, c3, c4, c5, c6, z0, z1⟩ := BX2.out.cells
        have e1 := E2.out.2
        have hb9 := E2.out.1
        have hb8 : b9 < wq.heap.size := Nat.lt_of_lt_of_le hb9 BX2.out.hb.size
        go_wp2_with fail
        go_still_tail 10, (by kernel_rfl)
        change wpList _ _ _ _ _ (World.drew wq)
        go_wp2_with fail
        go_roundw
        case rel => exact ⟨m + 1, by omega, by go_num, by rw [HX2.out, HY2.out]; exact (BX2.out.set1 _).dn 1⟩
        case measure => simp [intOf]; omega
      · clear XL YL
        go_wp2_with fail
        go_roundw
        case rel => exact ⟨m + 1, by omega, by go_num, by rw [HX2.out, HY2.out]; exact BX2.out⟩
        case measure => simp [intOf]; omega
      · exfalso; clear BX2; omega
    · obtain rfl : m = n := by omega
      have e : L.take m = L := List.take_of_length_le (by have := HL.out; omega)
      rw [e] at BX
      obtain ⟨c0, c1, c2, c3, c4, _, _, z0, z1⟩ := BX.out.cells
      obtain ⟨r0, r1, r2, r3, r4, r5⟩ := BX.out.rcells
      obtain ⟨q0, q1⟩ := set_two r0 r1
      go_wp2_with fail
      exact bodyPost_ret (v := .tuple #[.agg #[.int .i64 (wtF (inP l a b) L), .int .i64 (wtF (meP l a b) L)], .int .i64 0]) (by simp [results, Tryz.results42, go_sem, q0, q1]) rfl ⟨rfl, r5 _ _⟩
set_option maxHeartbeats 1600000 in
theorem rReBetween_any {l : Int} (k a b : Int) (A : Option Addr) (n c : Nat) (L : List Nd) (w : World) (h : NodesAt w (.slice A n c) L) (hr : RollC l L) (hn : n ≤ 1000) (A0 : -9223372036854775808 ≤ a) (A1 : a ≤ 9223372036854775807) (B0 : -9223372036854775808 ≤ b) (B1 : b ≤ 9223372036854775807) :
    Calls Tryz.prog 42 #[.agg #[.int .i64 k, .int .i64 l, .slice A n c], .int .i64 a, .int .i64 b] w fun e w' => e = .returned (.tuple #[.agg #[.int .i64 (beL l L a b), .int .i64 (beH l L a b)], .int .i64 (beE a b)]) ∧ Below w.heap.size w w' := by
  by_cases hab : b < a
  · obtain ⟨e1, e2, e3⟩ := be_no (l := l) (L := L) hab
    rw [e1, e2, e3]
    have N0 := Lib.hid (ReBx.new 35 50 w k l A n c)
    clear h hr
    go_enter Tryz.func42, Tryz.ntmps42
    go_wp2_with fail
    generalize (((w.alloc (.cells #[.int .i64 k, .int .i64 l, .slice A n c] 35)).alloc (.cells #[.int .i64 0, .int .i64 0] 50)).alloc (.cells #[.int .i64 0, .int .i64 0] 50)) = W0 at *
    obtain ⟨r0, r1, r2, r3, r4, r5⟩ := N0.out.rcells
    exact bodyPost_ret (v := .tuple #[.agg #[.int .i64 0, .int .i64 0], .int .i64 2]) (by simp [results, Tryz.results42, go_sem, r0, r1]) rfl ⟨rfl, N0.out.hb⟩
  · obtain ⟨e1, e2, e3⟩ := be_yes (l := l) (L := L) (a := a) (b := b) (by omega)
    rw [e1, e2, e3]
    exact rReBetween_yes k a b A n c L w h hr hn A0 A1 B0 B1 (by omega)
end Go.Proofs.YtnhagdlpidgkcaaGreat
namespace Go.Proofs.YtnhagdlpidgkcaaGreat
set_option linter.unusedVariables false
set_option maxRecDepth 100000
open Go.RowKit
end Go.Proofs.YtnhagdlpidgkcaaGreat
namespace Go.Proofs.YtnhagdlpidgkcaaGreat
set_option linter.unusedVariables false
set_option maxRecDepth 100000
open Go.RowKit
end Go.Proofs.YtnhagdlpidgkcaaGreat
namespace Go.Proofs.YtnhagdlpidgkcaaGreat
set_option linter.unusedVariables false
set_option maxRecDepth 100000
open Go.RowKit
end Go.Proofs.YtnhagdlpidgkcaaGreat
namespace Go.Proofs.YtnhagdlpidgkcaaGreat
set_option linter.unusedVariables false
set_option maxRecDepth 100000
open Go.RowKit
end Go.Proofs.YtnhagdlpidgkcaaGreat
namespace Go.Proofs.YtnhagdlpidgkcaaGreat
set_option linter.unusedVariables false
set_option maxRecDepth 100000
open Go.RowKit
end Go.Proofs.YtnhagdlpidgkcaaGreat
