/- The project's package reach, whole: Between, On, Off, Share; its contracts, as the statements ask them. -/
import Derived.Test.YtmfdpaahklndnaaGreatReK
import Derived.Test.YtmfdpaahklndnaaGreatReWg
import Derived.Test.YtmfdpaahklndnaaGreatDvQ
import Derived.Test.YtmfdpaahklndnaaGreatMmy
import Derived.Test.YtmfdpaahklndnaaGreatTi6
import Derived.Test.YtmfdpaahklndnaaGreatTi7
import Derived.Deep.RegionWith
namespace Go.Proofs.YtmfdpaahklndnaaGreat
set_option linter.unusedVariables false
set_option maxRecDepth 100000
open Go.RowKit
/-- two numbers' boxes, and the result's -/
structure ReB3 (TI TB : TypeId) (W w : World) (a b : Int) : Prop where
  ba : w.ownsRow W.heap.size TI 1 (.slice (some ⟨W.heap.size, 0, none⟩) 1 1) 1 [.int .i64 a]
  bb : w.ownsRow W.heap.size TI 1 (.slice (some ⟨W.heap.size + 1, 0, none⟩) 1 1) 1 [.int .i64 b]
  r : w.ownsRow W.heap.size TB 2 (.slice (some ⟨W.heap.size + 1 + 1, 0, none⟩) 1 1) 1 [.int .i64 0, .int .i64 0]
  hb : Below W.heap.size W w
theorem ReB3.below {TI TB : TypeId} {W w w' : World} {a b : Int} (h : ReB3 TI TB W w a b) (q : Below w.heap.size w w') : ReB3 TI TB W w' a b := ⟨own_below h.ba q, own_below h.bb q, own_below h.r q, h.hb.trans (q.mono h.hb.size)⟩
theorem ReB3.cells {TI TB : TypeId} {W w : World} {a b : Int} (h : ReB3 TI TB W w a b) :
    w.cell? ⟨W.heap.size, 0, none⟩ = some (.int .i64 a) ∧ w.cell? ⟨W.heap.size + 1, 0, none⟩ = some (.int .i64 b) ∧ W.heap.size < w.heap.size ∧ W.heap.size + 1 < w.heap.size ∧ w.cell? ⟨W.heap.size + 1 + 1, 0, none⟩ = some (.int .i64 0) ∧ w.cell? ⟨W.heap.size + 1 + 1, 1, none⟩ = some (.int .i64 0) ∧ w.frozen? ⟨W.heap.size + 1 + 1, 0, none⟩ = false ∧ w.frozen? ⟨W.heap.size + 1 + 1, 1, none⟩ = false ∧ W.heap.size + 1 + 1 < w.heap.size ∧ True :=
  ⟨h.ba.cellAt 0 (by omega), h.bb.cellAt 0 (by omega), (h.ba.lt _ rfl).2, (h.bb.lt _ rfl).2, h.r.cellAt 0 (by omega), h.r.cellAt 1 (by omega), h.r.frozenAt 0, h.r.frozenAt 1, (h.r.lt _ rfl).2, trivial⟩
theorem ReB3.new (TI TB : TypeId) (W : World) (a b : Int) : ReB3 TI TB W (((W.alloc (.cells #[.int .i64 a] TI)).alloc (.cells #[.int .i64 b] TI)).alloc (.cells #[.int .i64 0, .int .i64 0] TB)) a b := by
  have e1 : (W.alloc (.cells #[.int .i64 a] TI)).heap.size = W.heap.size + 1 := by simp
  have e2 : ((W.alloc (.cells #[.int .i64 a] TI)).alloc (.cells #[.int .i64 b] TI)).heap.size = W.heap.size + 1 + 1 := by simp
  have x := ((box1 W TI (.int .i64 a)).alloc (.cells #[.int .i64 b] TI)).alloc (.cells #[.int .i64 0, .int .i64 0] TB)
  have y := (box1 (W.alloc (.cells #[.int .i64 a] TI)) TI (.int .i64 b)).alloc (.cells #[.int .i64 0, .int .i64 0] TB)
  have z := box2 ((W.alloc (.cells #[.int .i64 a] TI)).alloc (.cells #[.int .i64 b] TI)) TB (.int .i64 0) (.int .i64 0)
  rw [e1] at y
  rw [e2] at z
  exact ⟨x, own_low y (by omega), own_low z (by omega), (((Below.refl W.heap.size W).alloc (Nat.le_refl _) _).alloc (by simp) _).alloc (by simp; omega) _⟩
theorem re_all_not {l : Int} {T : List Int} (h : IsAll l T) (n : NotAll l T) : False := by
  rcases n with e | ⟨t, ht, e⟩
  · have := h.1; rw [e] at this; cases this
  · have := h.2 t ht; rw [e] at this; cases this
theorem reInts_at {w : World} {A : Option Addr} {n c i : Nat} {S : List Int} (h : IntsAt w (.slice A n c) S) (hi : i < n) : ∃ b o, A = some ⟨b, o, none⟩ ∧ b < w.heap.size ∧ w.cell? ⟨b, o + i, none⟩ = some (.int .i64 (S.getD i 0)) := by
  obtain ⟨e, hc⟩ := ints_cells h
  obtain ⟨b, o, h1, h2, h3⟩ := hc (by omega)
  exact ⟨b, o, h1, h2, h3 i (by omega)⟩
theorem re_roll_node {l : Int} {L : List Nd} (h : RollC l L) {j : Nat} (hj : j < L.length) : Node l (L.getD j nz).1 :=
  ⟨of_decide_eq_true (h.2.2.1 _ (nd_mem hj)).1, (nbds_at (nbds_roll h) hj).1.2⟩
set_option maxHeartbeats 1600000 in
theorem reTile11_any {Nl Nr Nf i n c : Nat} {A : Option Addr} {J : List Int} (l x : Int) (w : World) (h : IntsAt w (.slice A n c) J) (hg : TiGood l J) (hi : i < n)
    (e0 : w.cell? ⟨Nl, 0, none⟩ = some (.int .i64 l)) (e1 : w.cell? ⟨Nr, 0, none⟩ = some (.slice A n c)) (e2 : w.cell? ⟨Nf, 0, none⟩ = some (.int .i64 x)) :
    Calls Tryz.prog 110 #[.int .i64 (i : Int), .pointer (some ⟨Nl, 0, none⟩), .pointer (some ⟨Nr, 0, none⟩), .pointer (some ⟨Nf, 0, none⟩)] w fun e w' => e = .returned (.bool (decide (x ≤ hiN l (J.getD i 0)))) ∧ ∃ q, w' = w.drewN q := by
  have hl := (ints_cells h).1
  have nd := hg.1 _ (getD_in (show i < J.length by omega))
  obtain ⟨b, o, rfl, hb, e3⟩ := reInts_at h hi
  have b1 := node_bd nd
  have b2 := nd.2
  have u : 1 ≤ l ∧ l ≤ 48 := ⟨nd.1.1, nd.1.2.1⟩
  have hi0 : (0 : Int) ≤ (i : Int) := Int.natCast_nonneg _
  have hi1 : (i : Int) < (n : Int) := by omega
  clear h hg hl nd
  generalize J.getD i 0 = t at *
  have EN := Lib.hid (fun v => ends_any l t v (by omega) (by omega) (by omega) (by omega))
  go_enter Tryz.func110, Tryz.ntmps110
  go_wp2_with fail
  go_quiet ((go_at_call 41; exact Calls.quiet_of_same ((EN.out _).mono fun _ _ ⟨a, b⟩ => ⟨a, b.symm⟩)))
  go_wp2_with fail
  go_ret
  exact ⟨rfl, _, rfl⟩
set_option maxHeartbeats 1600000 in
theorem reTile1_any {Nl Nr n c : Nat} {A : Option Addr} {J : List Int} {l id : Int} (w : World) (h : IntsAt w (.slice A n c) J) (hg : TiGood l J) (hn : n ≤ 1000000) (hid : Node l id)
    (e0 : w.cell? ⟨Nl, 0, none⟩ = some (.int .i64 l)) (e1 : w.cell? ⟨Nr, 0, none⟩ = some (.slice A n c)) (b0 : Nl < w.heap.size) (b1 : Nr < w.heap.size) :
    Calls Tryz.prog 108 #[.int .i64 (loN l id), .int .i64 (hiN l id), .pointer (some ⟨Nr, 0, none⟩), .pointer (some ⟨Nl, 0, none⟩)] w fun e w' => e = .returned (.tuple #[.bool (tlA l J id), .bool (tlO l J id)]) ∧ Below w.heap.size w w' := by
  have hl := (ints_cells h).1
  have hb0 : Below w.heap.size w (w.alloc (.cells #[.int .i64 (loN l id)] 3)) := below_one _ _
  have HB := Lib.hid hb0
  have u : 1 ≤ l ∧ l ≤ 48 := ⟨hid.1.1, hid.1.2.1⟩
  have bd := node_bd hid
  have tle := fstT_le l (loN l id) J
  have mf : ∀ (fn : Fn) (first cap : Array Value) (w : World), (Instr.makeFunc fn first cap).run Tryz.prog w = .ok (.func fn first cap) w := fun _ _ _ _ => rfl
  have S := Lib.hid (search_any 110 #[.pointer (some ⟨Nl, 0, none⟩), .pointer (some ⟨Nr, 0, none⟩), .pointer (some ⟨w.heap.size, 0, none⟩)] n (fstT l (loN l id) J) (by omega) hn (w.alloc (.cells #[.int .i64 (loN l id)] 3))
    (enters_of Tryz.func110 (by kernel_rfl) rfl) fun m k hk => by
      have hw : Below (w.alloc (.cells #[.int .i64 (loN l id)] 3)).heap.size (w.alloc (.cells #[.int .i64 (loN l id)] 3)) ((w.alloc (.cells #[.int .i64 (loN l id)] 3)).drewN m) := drewN_below (Below.refl _ _) m
      have q := reTile11_any l (loN l id) _ ((h.below hb0).below hw) hg hk ((hw.cell (p := ⟨Nl, 0, none⟩) (by simp; omega)).trans ((hb0.cell (p := ⟨Nl, 0, none⟩) b0).trans e0)) ((hw.cell (p := ⟨Nr, 0, none⟩) (by simp; omega)).trans ((hb0.cell (p := ⟨Nr, 0, none⟩) b1).trans e1)) ((hw.cell (p := ⟨w.heap.size, 0, none⟩) (by simp)).trans (by simp))
      rw [fstT_is hg k (by omega)] at q
      refine q.mono fun e w' ⟨a, r, b⟩ => ⟨a, m + r, ?_⟩
      rw [b]; exact World.drewN_drewN _ _ _)
  by_cases hT : fstT l (loN l id) J = J.length
  · obtain ⟨t1, t2⟩ := tile_none hg hid hT
    rw [t1, t2]
    have c0 : (w.alloc (.cells #[.int .i64 (loN l id)] 3)).cell? ⟨Nl, 0, none⟩ = some (.int .i64 l) := (hb0.cell (p := ⟨Nl, 0, none⟩) b0).trans e0
    have c1 : (w.alloc (.cells #[.int .i64 (loN l id)] 3)).cell? ⟨Nr, 0, none⟩ = some (.slice A n c) := (hb0.cell (p := ⟨Nr, 0, none⟩) b1).trans e1
    rw [hT, ← hl] at S
    clear hT t1 t2 tle e0 e1 h hg hl
    go_enter Tryz.func108, Tryz.ntmps108
    go_wp2_with (go_at_call 109; refine S.out.mono ?_; rintro e w1 ⟨rfl, q, rfl⟩)
    go_ret2
    exact ⟨rfl, drewN_below HB.out q⟩
  · have hk : fstT l (loN l id) J < J.length := by omega
    obtain ⟨t1, t2⟩ := tile_first hg hid rfl hk
    have nd := hg.1 _ (getD_in hk)
    have b3 := node_bd nd
    have b4 := nd.2
    obtain ⟨b, o, rfl, hb, e3⟩ := reInts_at h (show fstT l (loN l id) J < n by omega)
    rw [t1, t2]
    have c0 : (w.alloc (.cells #[.int .i64 (loN l id)] 3)).cell? ⟨Nl, 0, none⟩ = some (.int .i64 l) := (hb0.cell (p := ⟨Nl, 0, none⟩) b0).trans e0
    have c1 : (w.alloc (.cells #[.int .i64 (loN l id)] 3)).cell? ⟨Nr, 0, none⟩ = some (.slice (some ⟨b, o, none⟩) n c) := (hb0.cell (p := ⟨Nr, 0, none⟩) b1).trans e1
    have c3 : (w.alloc (.cells #[.int .i64 (loN l id)] 3)).cell? ⟨b, o + fstT l (loN l id) J, none⟩ = some (.int .i64 (J.getD (fstT l (loN l id) J) 0)) := (hb0.cell (p := ⟨b, o + fstT l (loN l id) J, none⟩) hb).trans e3
    have c2 : (w.alloc (.cells #[.int .i64 (loN l id)] 3)).cell? ⟨w.heap.size, 0, none⟩ = some (.int .i64 (loN l id)) := by simp
    have T0 : (0 : Int) ≤ (fstT l (loN l id) J : Int) := Int.natCast_nonneg _
    have T1 : ((fstT l (loN l id) J : Nat) : Int) < (n : Int) := by omega
    have T2 : ¬ ((fstT l (loN l id) J : Nat) : Int) = (n : Int) := by omega
    have T3 : ¬ fstT l (loN l id) J = n := by omega
    clear hT t1 t2 tle e0 e1 e3 h hg hl nd hk hb0
    generalize J.getD (fstT l (loN l id) J) 0 = t at *
    generalize fstT l (loN l id) J = T at *
    have EN := Lib.hid (fun v => ends_any l t v (by omega) (by omega) (by omega) (by omega))
    have lt0 : w.heap.size < (w.alloc (.cells #[.int .i64 (loN l id)] 3)).heap.size := by simp
    by_cases hd : loN l t ≤ loN l id
    · have d1 : decide (loN l t ≤ loN l id) = true := decide_eq_true hd
      rw [d1, Bool.true_and]
      clear hd
      go_enter Tryz.func108, Tryz.ntmps108
      go_upto_region 1 with fail
      generalize (w.alloc (.cells #[.int .i64 (loN l id)] 3)) = W at *
      go_wp2_with fail
      refine S.out.mono ?_
      rintro e w1 ⟨rfl, q, rfl⟩
      have HQ := Lib.hid (drewN_below HB.out q)
      have d0 : (W.drewN q).cell? ⟨Nl, 0, none⟩ = some (.int .i64 l) := c0
      have d1' : (W.drewN q).cell? ⟨Nr, 0, none⟩ = some (.slice (some ⟨b, o, none⟩) n c) := c1
      have d2 : (W.drewN q).cell? ⟨w.heap.size, 0, none⟩ = some (.int .i64 (loN l id)) := c2
      have d3 : (W.drewN q).cell? ⟨b, o + T, none⟩ = some (.int .i64 t) := c3
      clear c0 c1 c2 c3 HB S lt0
      generalize W.drewN q = Wq at *
      go_wp2_with fail
      go_quiet ((go_at_call 41; exact Calls.quiet_of_same ((EN.out _).mono fun _ _ ⟨a, b⟩ => ⟨a, b.symm⟩)))
      go_wp2_with fail
      go_ret2
      exact ⟨rfl, drewN_below HQ.out _⟩
    · have d1 : decide (loN l t ≤ loN l id) = false := decide_eq_false hd
      rw [d1, Bool.false_and]
      clear hd
      go_enter Tryz.func108, Tryz.ntmps108
      go_upto_region 1 with fail
      generalize (w.alloc (.cells #[.int .i64 (loN l id)] 3)) = W at *
      go_wp2_with fail
      refine S.out.mono ?_
      rintro e w1 ⟨rfl, q, rfl⟩
      have HQ := Lib.hid (drewN_below HB.out q)
      have d0 : (W.drewN q).cell? ⟨Nl, 0, none⟩ = some (.int .i64 l) := c0
      have d1' : (W.drewN q).cell? ⟨Nr, 0, none⟩ = some (.slice (some ⟨b, o, none⟩) n c) := c1
      have d2 : (W.drewN q).cell? ⟨w.heap.size, 0, none⟩ = some (.int .i64 (loN l id)) := c2
      have d3 : (W.drewN q).cell? ⟨b, o + T, none⟩ = some (.int .i64 t) := c3
      clear c0 c1 c2 c3 HB S lt0
      generalize W.drewN q = Wq at *
      go_wp2_with fail
      go_quiet ((go_at_call 41; exact Calls.quiet_of_same ((EN.out _).mono fun _ _ ⟨a, b⟩ => ⟨a, b.symm⟩)))
      go_wp2_with fail
      go_ret2
      exact ⟨rfl, drewN_below HQ.out _⟩
theorem reTiles_tell {Nl Nr n c : Nat} {A : Option Addr} {J : List Int} {l : Int} {L : List Nd} (w : World) (h : IntsAt w (.slice A n c) J) (hg : TiGood l J) (hn : n ≤ 1000000) (hr : RollC l L)
    (e0 : w.cell? ⟨Nl, 0, none⟩ = some (.int .i64 l)) (e1 : w.cell? ⟨Nr, 0, none⟩ = some (.slice A n c)) (b0 : Nl < w.heap.size) (b1 : Nr < w.heap.size) :
    ReTell w 108 #[.pointer (some ⟨Nr, 0, none⟩), .pointer (some ⟨Nl, 0, none⟩)] l L (tlA l J) (tlO l J) :=
  ⟨enters_of Tryz.func108 (by kernel_rfl) rfl, fun j hj v hb => reTile1_any v (h.below hb) hg hn (re_roll_node hr hj) ((hb.cell (p := ⟨Nl, 0, none⟩) b0).trans e0) ((hb.cell (p := ⟨Nr, 0, none⟩) b1).trans e1) (Nat.lt_of_lt_of_le b0 hb.size) (Nat.lt_of_lt_of_le b1 hb.size)⟩
theorem reTiles_nil (ids lay : Value) (w : World) : Calls Tryz.prog 34 #[.pointer none, ids, lay] w fun e w' => e = .returned (.tuple #[.agg #[.int .i64 0, .int .i64 0], .int .i64 1]) ∧ Below w.heap.size w w' := by
  have R := Lib.hid (box2 w 29 (.int .i64 0) (.int .i64 0))
  have HB := Lib.hid (below_one w (.cells #[.int .i64 0, .int .i64 0] 29))
  obtain ⟨y0, y3, y4, y5, y6⟩ := box_cells R.out
  obtain ⟨q0, q1⟩ := set_two y0 y3
  go_enter Tryz.func34, Tryz.ntmps34
  go_upto_region 1 with fail
  generalize (w.alloc (.cells #[.int .i64 0, .int .i64 0] 29)) = W at *
  go_wp2_with fail
  exact bodyPost_ret (v := .tuple #[.agg #[.int .i64 0, .int .i64 0], .int .i64 1]) (by simp [results, Tryz.results34, go_sem, q0, q1]) rfl ⟨rfl, (HB.out.setCell (p := ⟨w.heap.size, 0, none⟩) (Nat.le_refl _) _).setCell (p := ⟨w.heap.size, 1, none⟩) (Nat.le_refl _) _⟩
set_option maxHeartbeats 1600000 in
theorem reTiles_no {B q p g h Fl : Nat} {kd l k : Int} {m : Nat} {L : List Nd} {A : Option Addr} {n c : Nat} (w : World) (d : DgA w B q p g h kd l k m L) (eg : ∀ args w, (callFunc Fl args).run Tryz.prog w = .ok (.enter Fl args) w)
    (HL : ∀ v, Below w.heap.size w v → Calls Tryz.prog Fl #[.int .i64 l, .slice A n c] v (NoneTold v)) :
    Calls Tryz.prog 34 #[.pointer (some ⟨q, 0, none⟩), .slice A n c, .func (.func Fl) #[] #[]] w fun e w' => e = .returned (.tuple #[.agg #[.int .i64 0, .int .i64 0], .int .i64 2]) ∧ Below w.heap.size w w' := by
  have R := Lib.hid (box2 w 29 (.int .i64 0) (.int .i64 0))
  have HB := Lib.hid (below_one w (.cells #[.int .i64 0, .int .i64 0] 29))
  have CF := Lib.hid (fun v (hb : Below w.heap.size w v) => dgConf_any v (d.below hb).box)
  have FD : ∀ w, (Instr.field 23 (.agg #[.int .i64 l, .int .i64 k, .int .i64 kd]) 0).run Tryz.prog w = .ok (.int .i64 l) w := fun _ => by kernel_rfl
  have PL := Lib.hid HL
  clear d HL
  go_enter Tryz.func34, Tryz.ntmps34
  go_upto_region 1 with fail
  generalize (w.alloc (.cells #[.int .i64 0, .int .i64 0] 29)) = W at *
  go_wp2_with fail
  refine (CF.out _ HB.out).mono ?_
  rintro e w1 ⟨rfl, hb1⟩
  have H1 := Lib.hid (HB.out.trans (hb1.mono HB.out.size))
  have R1 := Lib.hid (own_below R.out hb1)
  clear hb1 CF
  go_wp2_with fail
  refine (PL.out _ H1.out).mono ?_
  rintro e w2 ⟨rfl, hb2⟩
  have H2 := Lib.hid (H1.out.trans (hb2.mono H1.out.size))
  have R2 := Lib.hid (own_below R1.out hb2)
  clear hb2 PL
  obtain ⟨y0, y3, y4, y5, y6⟩ := box_cells R2.out
  obtain ⟨q0, q1⟩ := set_two y0 y3
  go_wp2_with fail
  exact bodyPost_ret (v := .tuple #[.agg #[.int .i64 0, .int .i64 0], .int .i64 2]) (by simp [results, Tryz.results34, go_sem, q0, q1]) rfl ⟨rfl, (H2.out.setCell (p := ⟨w.heap.size, 0, none⟩) (Nat.le_refl _) _).setCell (p := ⟨w.heap.size, 1, none⟩) (Nat.le_refl _) _⟩
theorem reOnT_any {l : Int} {A : Option Addr} {n c : Nat} (w : World) : Calls Tryz.prog 69 #[.int .i64 l, .slice A n c] w fun e w' => e = .returned (.func (.func 108) #[] #[.pointer (some ⟨w.heap.size + 1, 0, none⟩), .pointer (some ⟨w.heap.size, 0, none⟩)]) ∧ w' = (w.alloc (.cells #[.int .i64 l] 3)).alloc (.cells #[.slice A n c] 46) := by
  have mf : ∀ (fn : Fn) (first cap : Array Value) (w : World), (Instr.makeFunc fn first cap).run Tryz.prog w = .ok (.func fn first cap) w := fun _ _ _ _ => rfl
  go_enter Tryz.func69, Tryz.ntmps69
  go_wp2_with fail
  go_ret
  exact ⟨rfl, rfl⟩
set_option maxHeartbeats 1600000 in
theorem reTiles_yes {B q p g h Fl : Nat} {kd l k : Int} {m : Nat} {L : List Nd} {A : Option Addr} {n c : Nat} {P : Int → Prop} {mx : Nat} (w : World) (d : DgA w B q p g h kd l k m L) (hm : m ≤ 1000) (hx : mx ≤ 1000000) (eg : ∀ args w, (callFunc Fl args).run Tryz.prog w = .ok (.enter Fl args) w)
    (HL : ∀ v, Below w.heap.size w v → Calls Tryz.prog Fl #[.int .i64 l, .slice A n c] v (Told l P mx v)) :
    Calls Tryz.prog 34 #[.pointer (some ⟨q, 0, none⟩), .slice A n c, .func (.func Fl) #[] #[]] w fun e w' => (∃ J, TiGood l J ∧ (∀ x, Held l J x ↔ P x) ∧ e = .returned (.tuple #[.agg #[.int .i64 (onL l J L), .int .i64 (onH l J L)], .int .i64 0])) ∧ Below w.heap.size w w' := by
  have R := Lib.hid (box2 w 29 (.int .i64 0) (.int .i64 0))
  have HB := Lib.hid (below_one w (.cells #[.int .i64 0, .int .i64 0] 29))
  have CF := Lib.hid (fun v (hb : Below w.heap.size w v) => dgConf_any v (d.below hb).box)
  have FD : ∀ w, (Instr.field 23 (.agg #[.int .i64 l, .int .i64 k, .int .i64 kd]) 0).run Tryz.prog w = .ok (.int .i64 l) w := fun _ => by kernel_rfl
  have PL := Lib.hid HL
  have DD := Lib.hid d
  clear d HL
  go_enter Tryz.func34, Tryz.ntmps34
  go_upto_region 1 with fail
  generalize (w.alloc (.cells #[.int .i64 0, .int .i64 0] 29)) = W at *
  go_wp2_with fail
  refine (CF.out _ HB.out).mono ?_
  rintro e w1 ⟨rfl, hb1⟩
  have H1 := Lib.hid (HB.out.trans (hb1.mono HB.out.size))
  have R1 := Lib.hid (own_below R.out hb1)
  clear hb1 CF
  go_wp2_with fail
  refine (PL.out _ H1.out).mono ?_
  rintro e w2 ⟨A2, c2, J, rfl, hi2, hg2, hh2, hl2, hb2⟩
  have H2 := Lib.hid (H1.out.trans (hb2.mono H1.out.size))
  have R2 := Lib.hid (own_below R1.out hb2)
  have G2 := Lib.hid hg2
  have HH := Lib.hid hh2
  have NX : Hid (J.length ≤ 1000000) := by show _ ≤ _; omega
  have W2 := Lib.hid (((Below.refl w2.heap.size w2).alloc (Nat.le_refl _) (.cells #[.int .i64 l] 3)).alloc (by simp) (.cells #[.slice A2 J.length c2] 46))
  have TL := Lib.hid (reTiles_tell (L := L) ((w2.alloc (.cells #[.int .i64 l] 3)).alloc (.cells #[.slice A2 J.length c2] 46)) (hi2.below W2.out) hg2 NX.out DD.out.v.roll (Nl := w2.heap.size) (Nr := w2.heap.size + 1) (by rw [World.cell?_alloc_lt _ _ _ (by simp)]; simp) (by simp) (by simp; omega) (by simp))
  have WG := Lib.hid (reWeigh_any _ (DD.out.below (H2.out.trans (W2.out.mono H2.out.size))) hm TL.out)
  have R3 := Lib.hid (own_below R2.out W2.out)
  have H3 := Lib.hid (H2.out.trans (W2.out.mono H2.out.size))
  clear hb2 PL hi2 hg2 hh2 hl2 TL
  generalize J.length = jl at *
  go_wp2_with (go_at_call 69; refine (reOnT_any _).mono ?_; rintro e w3 ⟨rfl, rfl⟩)
  refine WG.out.mono ?_
  rintro e w4 ⟨rfl, hb4⟩
  have H4 := Lib.hid (H3.out.trans (hb4.mono H3.out.size))
  have R4 := Lib.hid (own_below R3.out hb4)
  clear hb4 WG
  obtain ⟨y0, y3, y4, y5, y6⟩ := box_cells R4.out
  obtain ⟨q0, q1⟩ := set_two y0 y3
  go_wp2_with fail
  exact bodyPost_ret (v := .tuple #[.agg #[.int .i64 (onL l J L), .int .i64 (onH l J L)], .int .i64 0]) (by simp [results, Tryz.results34, go_sem, q0, q1]; exact ⟨rfl, rfl⟩) rfl ⟨⟨J, G2.out, HH.out, rfl⟩, (H4.out.setCell (p := ⟨w.heap.size, 0, none⟩) (Nat.le_refl _) _).setCell (p := ⟨w.heap.size, 1, none⟩) (Nat.le_refl _) _⟩
theorem reOn_of (dv ids : Value) (x y k : Int) (w : World) (HT : ∀ v, Below w.heap.size w v → Calls Tryz.prog 34 #[dv, ids, .func (.func 35) #[] #[]] v fun e w' => e = .returned (.tuple #[.agg #[.int .i64 x, .int .i64 y], .int .i64 k]) ∧ Below v.heap.size v w') :
    Calls Tryz.prog 13 #[dv, ids] w fun e w' => e = .returned (.tuple #[.agg #[.int .i64 x, .int .i64 y], .int .i64 k]) ∧ Below w.heap.size w w' := by
  have HB := Lib.hid (below_one w (.cells #[.int .i64 0, .int .i64 0] 29))
  have R := Lib.hid (box2 w 29 (.int .i64 0) (.int .i64 0))
  have PT := Lib.hid (HT _ HB.out)
  clear HT
  go_enter Tryz.func13, Tryz.ntmps13
  go_upto_region 1 with fail
  generalize (w.alloc (.cells #[.int .i64 0, .int .i64 0] 29)) = W at *
  go_wp2_with fail
  refine PT.out.mono ?_
  rintro e w1 ⟨rfl, hb1⟩
  have H1 := Lib.hid (HB.out.trans (hb1.mono HB.out.size))
  have R1 := Lib.hid (own_below R.out hb1)
  clear hb1 PT
  obtain ⟨y0, y3, y4, y5, y6⟩ := box_cells R1.out
  obtain ⟨q0, q1⟩ := set_two y0 y3
  go_wp2_with fail
  exact bodyPost_ret (v := .tuple #[.agg #[.int .i64 x, .int .i64 y], .int .i64 k]) (by simp [results, Tryz.results13, go_sem, q0, q1]) rfl ⟨rfl, (H1.out.setCell (p := ⟨w.heap.size, 0, none⟩) (Nat.le_refl _) _).setCell (p := ⟨w.heap.size, 1, none⟩) (Nat.le_refl _) _⟩
theorem reO : ReO where
  on_nil := fun w _ _ => reOn_of _ _ 0 0 1 w fun v _ => reTiles_nil _ _ v
  on_no := fun {B q p g h kd l k m L A n c T} w d hm hi hB hn hno => reOn_of _ _ 0 0 2 w fun v hb => reTiles_no v (d.below hb) (enters_of Tryz.func35 (by kernel_rfl) rfl) fun u hu => by
    have ul := d.po.uni
    refine (tiJoin_any l A n c T u (hi.below (hb.trans (hu.mono hb.size))) hB (by omega) (by omega) (by omega)).mono ?_
    rintro e u' (⟨ha, _⟩ | ⟨_, hno2⟩)
    · exact (re_all_not ha hno).elim
    · exact hno2
  on_yes := fun {B q p g h kd l k m L A n c T} w d hm hi hB hn ha => reOn_of _ _ _ _ 0 w fun v hb => by
    refine (reTiles_yes (P := Held l T) (mx := T.length) v (d.below hb) (by omega) (by have := (ints_cells hi).1; omega) (enters_of Tryz.func35 (by kernel_rfl) rfl) fun u hu => ?_).mono ?_
    · have ul := d.po.uni
      refine (tiJoin_any l A n c T u (hi.below (hb.trans (hu.mono hb.size))) hB (by omega) (by omega) (by omega)).mono ?_
      rintro e u' (⟨_, ht⟩ | ⟨hno2, _⟩)
      · exact ht
      · exact (re_all_not ha hno2).elim
    · rintro e v' ⟨⟨J, hg, hh, rfl⟩, hb2⟩
      have o := on_same (L := L) hh
      exact ⟨by rw [o.1, o.2], hb2⟩
theorem reOff_of (dv ids : Value) (x y k : Int) (w : World) (HT : ∀ v, Below w.heap.size w v → Calls Tryz.prog 34 #[dv, ids, .func (.func 19) #[] #[]] v fun e w' => e = .returned (.tuple #[.agg #[.int .i64 x, .int .i64 y], .int .i64 k]) ∧ Below v.heap.size v w') :
    Calls Tryz.prog 14 #[dv, ids] w fun e w' => e = .returned (.tuple #[.agg #[.int .i64 x, .int .i64 y], .int .i64 k]) ∧ Below w.heap.size w w' := by
  have HB := Lib.hid (below_one w (.cells #[.int .i64 0, .int .i64 0] 29))
  have R := Lib.hid (box2 w 29 (.int .i64 0) (.int .i64 0))
  have PT := Lib.hid (HT _ HB.out)
  clear HT
  go_enter Tryz.func14, Tryz.ntmps14
  go_upto_region 1 with fail
  generalize (w.alloc (.cells #[.int .i64 0, .int .i64 0] 29)) = W at *
  go_wp2_with fail
  refine PT.out.mono ?_
  rintro e w1 ⟨rfl, hb1⟩
  have H1 := Lib.hid (HB.out.trans (hb1.mono HB.out.size))
  have R1 := Lib.hid (own_below R.out hb1)
  clear hb1 PT
  obtain ⟨y0, y3, y4, y5, y6⟩ := box_cells R1.out
  obtain ⟨q0, q1⟩ := set_two y0 y3
  go_wp2_with fail
  exact bodyPost_ret (v := .tuple #[.agg #[.int .i64 x, .int .i64 y], .int .i64 k]) (by simp [results, Tryz.results14, go_sem, q0, q1]) rfl ⟨rfl, (H1.out.setCell (p := ⟨w.heap.size, 0, none⟩) (Nat.le_refl _) _).setCell (p := ⟨w.heap.size, 1, none⟩) (Nat.le_refl _) _⟩
theorem reF : ReF where
  off_nil := fun w _ _ => reOff_of _ _ 0 0 1 w fun v _ => reTiles_nil _ _ v
  off_no := fun {B q p g h kd l k m L A n c T} w d hm hi hB hn hno => reOff_of _ _ 0 0 2 w fun v hb => reTiles_no v (d.below hb) (enters_of Tryz.func19 (by kernel_rfl) rfl) fun u hu => by
    have ul := d.po.uni
    refine (rest_any l A n c T u (hi.below (hb.trans (hu.mono hb.size))) hB (by omega) (by omega) (by omega)).mono ?_
    rintro e u' (⟨ha, _⟩ | ⟨_, hno2⟩)
    · exact (re_all_not ha hno).elim
    · exact hno2
  off_yes := fun {B q p g h kd l k m L A n c T} w d hm hi hB hn ha => reOff_of _ _ _ _ 0 w fun v hb => by
    refine (reTiles_yes (P := fun x => (0 ≤ x ∧ x < 2 ^ l.toNat) ∧ ¬ Held l T x) (mx := T.length * 96 + 96) v (d.below hb) (by omega) (by have := (ints_cells hi).1; omega) (enters_of Tryz.func19 (by kernel_rfl) rfl) fun u hu => ?_).mono ?_
    · have ul := d.po.uni
      refine (rest_any l A n c T u (hi.below (hb.trans (hu.mono hb.size))) hB (by omega) (by omega) (by omega)).mono ?_
      rintro e u' (⟨_, ht⟩ | ⟨hno2, _⟩)
      · obtain ⟨A2, c2, T2, h1, h2, h3, h4, h5, _, h6⟩ := ht
        exact ⟨A2, c2, T2, h1, h2, h3, h4, h5, h6⟩
      · exact (re_all_not ha hno2).elim
    · rintro e v' ⟨⟨J, hg, hh, rfl⟩, hb2⟩
      have o := on_rest (J := T) (K := J) d.v.roll hh
      exact ⟨by rw [o.1, o.2], hb2⟩
theorem reBet_nil (a b : Int) (w : World) : Calls Tryz.prog 7 #[.pointer none, .int .i64 a, .int .i64 b] w fun e w' => e = .returned (.tuple #[.agg #[.int .i64 0, .int .i64 0], .int .i64 1]) ∧ Below w.heap.size w w' := by
  have N0 := Lib.hid (ReB3.new 3 29 w a b)
  obtain ⟨_, _, _, _, y0, y3, _, _, _, _⟩ := N0.out.cells
  obtain ⟨q0, q1⟩ := set_two y0 y3
  go_enter Tryz.func7, Tryz.ntmps7
  go_upto_region 1 with fail
  generalize (((w.alloc (.cells #[.int .i64 a] 3)).alloc (.cells #[.int .i64 b] 3)).alloc (.cells #[.int .i64 0, .int .i64 0] 29)) = W at *
  go_wp2_with fail
  exact bodyPost_ret (v := .tuple #[.agg #[.int .i64 0, .int .i64 0], .int .i64 1]) (by simp [results, Tryz.results7, go_sem, q0, q1]) rfl ⟨rfl, (N0.out.hb.setCell (p := ⟨w.heap.size + 1 + 1, 0, none⟩) (by show w.heap.size ≤ w.heap.size + 1 + 1; omega) _).setCell (p := ⟨w.heap.size + 1 + 1, 1, none⟩) (by show w.heap.size ≤ w.heap.size + 1 + 1; omega) _⟩
set_option maxHeartbeats 1600000 in
theorem reBet_any {B q p g h : Nat} {kd l k : Int} {n : Nat} {L : List Nd} (a b : Int) (w : World) (d : DgA w B q p g h kd l k n L) (hn : n ≤ 1000) (A0 : -9223372036854775808 ≤ a) (A1 : a ≤ 9223372036854775807) (B0 : -9223372036854775808 ≤ b) (B1 : b ≤ 9223372036854775807) :
    Calls Tryz.prog 7 #[.pointer (some ⟨q, 0, none⟩), .int .i64 a, .int .i64 b] w fun e w' => e = .returned (.tuple #[.agg #[.int .i64 (beL l L a b), .int .i64 (beH l L a b)], .int .i64 (beE a b)]) ∧ Below w.heap.size w w' := by
  have N0 := Lib.hid (ReB3.new 3 29 w a b)
  by_cases hab : b < a
  · obtain ⟨e1, e2, e3⟩ := be_no (l := l) (L := L) hab
    rw [e1, e2, e3]
    obtain ⟨x0, x1, z0, z1, y0, y3, _, _, _, _⟩ := N0.out.cells
    obtain ⟨q0, q1⟩ := set_two y0 y3
    clear d e1 e2 e3
    go_enter Tryz.func7, Tryz.ntmps7
    go_upto_region 1 with fail
    generalize (((w.alloc (.cells #[.int .i64 a] 3)).alloc (.cells #[.int .i64 b] 3)).alloc (.cells #[.int .i64 0, .int .i64 0] 29)) = W at *
    go_wp2_with fail
    exact bodyPost_ret (v := .tuple #[.agg #[.int .i64 0, .int .i64 0], .int .i64 2]) (by simp [results, Tryz.results7, go_sem, q0, q1]) rfl ⟨rfl, (N0.out.hb.setCell (p := ⟨w.heap.size + 1 + 1, 0, none⟩) (by show w.heap.size ≤ w.heap.size + 1 + 1; omega) _).setCell (p := ⟨w.heap.size + 1 + 1, 1, none⟩) (by show w.heap.size ≤ w.heap.size + 1 + 1; omega) _⟩
  · obtain ⟨e1, e2, e3⟩ := be_yes (l := l) (L := L) (a := a) (b := b) (by omega)
    rw [e1, e2, e3]
    have WG := Lib.hid (reWeigh_any (F := 25) (caps := #[.pointer (some ⟨w.heap.size, 0, none⟩), .pointer (some ⟨w.heap.size + 1, 0, none⟩)]) (PA := inP l a b) (PO := meP l a b) _ (d.below N0.out.hb) hn
      ⟨enters_of Tryz.func25 (by kernel_rfl) rfl, fun j hj v hv => by
        obtain ⟨x0, x1, z0, z1, _⟩ := (N0.out.below hv).cells
        exact reBtw1_any a b _ _ v x0 x1⟩)
    have mf : ∀ (fn : Fn) (first cap : Array Value) (w : World), (Instr.makeFunc fn first cap).run Tryz.prog w = .ok (.func fn first cap) w := fun _ _ _ _ => rfl
    obtain ⟨x0, x1, z0, z1, _⟩ := N0.out.cells
    clear d e1 e2 e3
    go_enter Tryz.func7, Tryz.ntmps7
    go_upto_region 1 with fail
    generalize (((w.alloc (.cells #[.int .i64 a] 3)).alloc (.cells #[.int .i64 b] 3)).alloc (.cells #[.int .i64 0, .int .i64 0] 29)) = W at *
    go_wp2_with fail
    refine WG.out.mono ?_
    rintro e w1 ⟨rfl, hb1⟩
    have N1 := Lib.hid (N0.out.below hb1)
    clear hb1 WG x0 x1 z0 z1 N0
    obtain ⟨_, _, _, _, y0, y3, _, _, _, _⟩ := N1.out.cells
    obtain ⟨q0, q1⟩ := set_two y0 y3
    go_wp2_with fail
    exact bodyPost_ret (v := .tuple #[.agg #[.int .i64 (btwL l L a b), .int .i64 (btwH l L a b)], .int .i64 0]) (by simp [results, Tryz.results7, go_sem, q0, q1, btwL, btwH]) rfl ⟨rfl, (N1.out.hb.setCell (p := ⟨w.heap.size + 1 + 1, 0, none⟩) (by show w.heap.size ≤ w.heap.size + 1 + 1; omega) _).setCell (p := ⟨w.heap.size + 1 + 1, 1, none⟩) (by show w.heap.size ≤ w.heap.size + 1 + 1; omega) _⟩
theorem reB : ReB := ⟨fun a b w => reBet_nil a b w, fun a b w d hn A0 A1 B0 B1 => reBet_any a b w d (by omega) A0 A1 B0 B1⟩
set_option maxHeartbeats 400000 in
theorem rePart_any (n m d : Int) (w : World) (N0 : -9223372036854775808 ≤ n) (N1 : n ≤ 9223372036854775807) (M0 : -9223372036854775808 ≤ m) (M1 : m ≤ 9223372036854775807) (D0 : -9223372036854775808 ≤ d) (D1 : d ≤ 9223372036854775807) :
    Calls Tryz.prog 26 #[.int .i64 n, .int .i64 m, .int .i64 d] w fun e w' => Ans2 (partN n m d) (partB n m d) w w' e := by
  go_enter Tryz.func26, Tryz.ntmps26
  go_wp2_with (go_at_call 52; refine (share_any n m d _ N0 N1 M0 M1 D0 D1).mono ?_; rintro e w' ⟨rfl, B1⟩)
  go_ret2
  exact ans2 ⟨rfl, rfl⟩ B1
theorem reShare_nil (a b c : Int) (w : World) : Calls Tryz.prog 8 #[.pointer none, .int .i64 a, .int .i64 b, .int .i64 c] w fun e w' => e = .returned (.tuple #[.agg #[.int .i64 0, .int .i64 0], .int .i64 1]) ∧ Below w.heap.size w w' := by
  have R := Lib.hid (box2 w 29 (.int .i64 0) (.int .i64 0))
  have HB := Lib.hid (below_one w (.cells #[.int .i64 0, .int .i64 0] 29))
  obtain ⟨y0, y3, y4, y5, y6⟩ := box_cells R.out
  obtain ⟨q0, q1⟩ := set_two y0 y3
  go_enter Tryz.func8, Tryz.ntmps8
  go_upto_region 1 with fail
  generalize (w.alloc (.cells #[.int .i64 0, .int .i64 0] 29)) = W at *
  go_wp2_with fail
  exact bodyPost_ret (v := .tuple #[.agg #[.int .i64 0, .int .i64 0], .int .i64 1]) (by simp [results, Tryz.results8, go_sem, q0, q1]) rfl ⟨rfl, (HB.out.setCell (p := ⟨w.heap.size, 0, none⟩) (Nat.le_refl _) _).setCell (p := ⟨w.heap.size, 1, none⟩) (Nat.le_refl _) _⟩
set_option maxHeartbeats 3200000 in
theorem reShare_any {B q p g h : Nat} {kd l k : Int} {n : Nat} {L : List Nd} (a b c : Int) (w : World) (d : DgA w B q p g h kd l k n L) (hn : n ≤ 1000) (A0 : -9223372036854775808 ≤ a) (A1 : a ≤ 9223372036854775807) (B0 : -9223372036854775808 ≤ b) (B1 : b ≤ 9223372036854775807) (C0 : -9223372036854775808 ≤ c) (C1 : c ≤ 9223372036854775807) :
    Calls Tryz.prog 8 #[.pointer (some ⟨q, 0, none⟩), .int .i64 a, .int .i64 b, .int .i64 c] w fun e w' => e = .returned (.tuple #[.agg #[.int .i64 (ssL l L a b c), .int .i64 (ssH l L a b c)], .int .i64 (ssE L a b c)]) ∧ Below w.heap.size w w' := by
  have R := Lib.hid (box2 w 29 (.int .i64 0) (.int .i64 0))
  have HB := Lib.hid (below_one w (.cells #[.int .i64 0, .int .i64 0] 29))
  have s1 : sumC L ≤ 72057594037927935 := d.v.roll.2.2.2.2
  have nn := good_nonneg (roll_good d.v.roll)
  have s0 : 0 ≤ sumC L := Int.le_trans (sum_le nn 0).1 (sum_le nn 0).2
  have bw := btw_bd d.v.roll a b
  have NN := Lib.hid (fun v (hb : Below w.heap.size w v) => dgN_any v (d.below hb).box (d.below hb).po hn)
  have BT := Lib.hid (fun v (hb : Below w.heap.size w v) => reBet_any a b v (d.below hb) hn A0 A1 B0 B1)
  have P1 := Lib.hid (fun v => rePart_any (btwL l L a b) c (sumC L) v (by omega) (by omega) C0 C1 (by omega) (by omega))
  have P2 := Lib.hid (fun v => partUp_any (btwH l L a b) c (sumC L) v (by omega) (by omega) C0 C1 (by omega) (by omega))
  have SE : Hid (ssE L a b c = if sumC L = 0 then 7 else if c < 1 ∨ b < a then 2 else 0) := rfl
  have SL : Hid (ssL l L a b c = if ssE L a b c = 0 then partN (btwL l L a b) c (sumC L) else 0) := rfl
  have SH : Hid (ssH l L a b c = if ssE L a b c = 0 then partUpN (btwH l L a b) c (sumC L) else 0) := rfl
  have BY : Hid ((¬ b < a → beL l L a b = btwL l L a b ∧ beH l L a b = btwH l L a b ∧ beE a b = 0) ∧ (b < a → beL l L a b = 0 ∧ beH l L a b = 0 ∧ beE a b = 2)) := by
    refine ⟨fun q => ?_, fun q => ?_⟩
    · obtain ⟨h1, h2, h3⟩ := be_yes (l := l) (L := L) (a := a) (b := b) (by omega); exact ⟨h2, h3, h1⟩
    · obtain ⟨h1, h2, h3⟩ := be_no (l := l) (L := L) q; exact ⟨h2, h3, h1⟩
  clear d nn
  generalize ssE L a b c = E at *
  generalize ssL l L a b c = N1 at *
  generalize ssH l L a b c = N2 at *
  generalize btwL l L a b = y1 at *
  generalize btwH l L a b = y2 at *
  generalize beL l L a b = v1 at *
  generalize beH l L a b = v2 at *
  generalize beE a b = v3 at *
  generalize sumC L = s at *
  by_cases z : s = 0
  · have hE : E = 7 := by rw [SE.out, if_pos z]
    have hN : N1 = 0 := by rw [SL.out, if_neg (by omega)]
    have hN2 : N2 = 0 := by rw [SH.out, if_neg (by omega)]
    subst hE hN hN2
    clear SE SL SH P1 P2 BT BY
    go_enter Tryz.func8, Tryz.ntmps8
    go_upto_region 1 with fail
    generalize (w.alloc (.cells #[.int .i64 0, .int .i64 0] 29)) = W at *
    go_wp2_with fail
    refine (NN.out _ HB.out).mono ?_
    rintro e w1 ⟨rfl, hb1⟩
    have Y1 := Lib.hid (own_below R.out hb1)
    have V1 := Lib.hid (HB.out.trans (hb1.mono HB.out.size))
    obtain ⟨y0, y3, y4, y5, y6⟩ := box_cells Y1.out
    obtain ⟨q0, q1⟩ := set_two y0 y3
    clear hb1
    go_wp2_with fail
    exact bodyPost_ret (v := .tuple #[.agg #[.int .i64 0, .int .i64 0], .int .i64 7]) (by simp [results, Tryz.results8, go_sem, q0, q1]) rfl ⟨rfl, (V1.out.setCell (p := ⟨w.heap.size, 0, none⟩) (Nat.le_refl _) _).setCell (p := ⟨w.heap.size, 1, none⟩) (Nat.le_refl _) _⟩
  have z1 : (s == 0) = false := by simpa using z
  by_cases zd : c < 1
  · have hE : E = 2 := by rw [SE.out, if_neg z, if_pos (.inl zd)]
    have hN : N1 = 0 := by rw [SL.out, if_neg (by omega)]
    have hN2 : N2 = 0 := by rw [SH.out, if_neg (by omega)]
    subst hE hN hN2
    clear z SE SL SH P1 P2 BT BY
    go_enter Tryz.func8, Tryz.ntmps8
    go_upto_region 1 with fail
    generalize (w.alloc (.cells #[.int .i64 0, .int .i64 0] 29)) = W at *
    go_wp2_with fail
    refine (NN.out _ HB.out).mono ?_
    rintro e w1 ⟨rfl, hb1⟩
    have Y1 := Lib.hid (own_below R.out hb1)
    have V1 := Lib.hid (HB.out.trans (hb1.mono HB.out.size))
    obtain ⟨y0, y3, y4, y5, y6⟩ := box_cells Y1.out
    obtain ⟨q0, q1⟩ := set_two y0 y3
    clear hb1
    go_wp2_with fail
    exact bodyPost_ret (v := .tuple #[.agg #[.int .i64 0, .int .i64 0], .int .i64 2]) (by simp [results, Tryz.results8, go_sem, q0, q1]) rfl ⟨rfl, (V1.out.setCell (p := ⟨w.heap.size, 0, none⟩) (Nat.le_refl _) _).setCell (p := ⟨w.heap.size, 1, none⟩) (Nat.le_refl _) _⟩
  by_cases zb : b < a
  · have hE : E = 2 := by rw [SE.out, if_neg z, if_pos (.inr zb)]
    have hN : N1 = 0 := by rw [SL.out, if_neg (by omega)]
    have hN2 : N2 = 0 := by rw [SH.out, if_neg (by omega)]
    obtain ⟨b1, b2, b3⟩ := BY.out.2 zb
    subst hE hN hN2 b1 b2 b3
    clear z SE SL SH P1 P2 BY
    go_enter Tryz.func8, Tryz.ntmps8
    go_upto_region 1 with fail
    generalize (w.alloc (.cells #[.int .i64 0, .int .i64 0] 29)) = W at *
    go_wp2_with fail
    refine (NN.out _ HB.out).mono ?_
    rintro e w1 ⟨rfl, hb1⟩
    have Y1 := Lib.hid (own_below R.out hb1)
    have V1 := Lib.hid (HB.out.trans (hb1.mono HB.out.size))
    clear hb1
    go_wp2_with fail
    refine (BT.out _ V1.out).mono ?_
    rintro e w2 ⟨rfl, hb2⟩
    have hv2 := hb2.alloc hb2.size (.cells #[.int .i64 0, .int .i64 0] 29)
    have Y2 := Lib.hid (own_below Y1.out hv2)
    have V2 := Lib.hid (V1.out.trans (hv2.mono V1.out.size))
    obtain ⟨y0, y3, y4, y5, y6⟩ := box_cells Y2.out
    obtain ⟨q0, q1⟩ := set_two y0 y3
    clear hb2 hv2
    go_upto_region 1 with fail
    generalize w2.alloc (.cells #[.int .i64 0, .int .i64 0] 29) = W2 at *
    go_wp2_with fail
    exact bodyPost_ret (v := .tuple #[.agg #[.int .i64 0, .int .i64 0], .int .i64 2]) (by simp [results, Tryz.results8, go_sem, q0, q1]) rfl ⟨rfl, (V2.out.setCell (p := ⟨w.heap.size, 0, none⟩) (Nat.le_refl _) _).setCell (p := ⟨w.heap.size, 1, none⟩) (Nat.le_refl _) _⟩
  · have hE : E = 0 := by rw [SE.out, if_neg z, if_neg (by omega)]
    have hN : N1 = partN y1 c s := by rw [SL.out, if_pos hE]
    have hN2 : N2 = partUpN y2 c s := by rw [SH.out, if_pos hE]
    obtain ⟨b1, b2, b3⟩ := BY.out.1 zb
    subst hE hN hN2 b1 b2 b3
    clear z SE SL SH BY
    generalize partN v1 c s = r1 at *
    generalize partB v1 c s = t1 at *
    generalize partUpN v2 c s = r2 at *
    generalize partUpB v2 c s = t2 at *
    go_enter Tryz.func8, Tryz.ntmps8
    go_upto_region 1 with fail
    generalize (w.alloc (.cells #[.int .i64 0, .int .i64 0] 29)) = W at *
    go_wp2_with fail
    refine (NN.out _ HB.out).mono ?_
    rintro e w1 ⟨rfl, hb1⟩
    have Y1 := Lib.hid (own_below R.out hb1)
    have V1 := Lib.hid (HB.out.trans (hb1.mono HB.out.size))
    clear hb1
    go_wp2_with fail
    refine (BT.out _ V1.out).mono ?_
    rintro e w2 ⟨rfl, hb2⟩
    have hv2 := hb2.alloc hb2.size (.cells #[.int .i64 v1, .int .i64 v2] 29)
    have Y2 := Lib.hid (own_below Y1.out hv2)
    have T2 := Lib.hid (box2 w2 29 (.int .i64 v1) (.int .i64 v2))
    have V2 := Lib.hid (V1.out.trans (hv2.mono V1.out.size))
    clear hb2 hv2 Y1 V1
    go_upto_region 10 with fail
    generalize hg2 : w2.heap.size = g2 at *
    generalize w2.alloc (.cells #[.int .i64 v1, .int .i64 v2] 29) = W2 at *
    clear hg2
    obtain ⟨t0, t1', _, _, tz⟩ := box_cells T2.out
    have KG : Hid (g2 < W2.heap.size) := tz
    have WTC := Lib.hid (fun v (hb : Below W2.heap.size W2 v) => NN.out v (V2.out.trans (hb.mono V2.out.size)))
    go_region_held3 (fun w' => w'.cell? ⟨g2, 0, none⟩ = some (.int .i64 v1) ∧ Below W2.heap.size W2 w')
      (first | assumption | (exact held1 (by assumption) (by assumption) KG.out) | (exact held1N (by assumption) _) | (exact ⟨t0, below_drew _⟩))
      (first
        | (go_at_call 20; refine (WTC.out _ (held1B (p := ⟨g2, 0, none⟩) (x := .int .i64 v1) (by assumption))).mono ?_; rintro e w6 ⟨rfl, hb6⟩)
        | (go_at_call 26; refine (P1.out _).mono ?_; rintro e w6 ⟨rfl, hb6⟩))
    rename_i hH0
    have hB0 := hH0.2
    have Y3 := Lib.hid (own_below Y2.out hB0)
    have T3 := Lib.hid (own_below T2.out hB0)
    have V3 := Lib.hid (V2.out.trans (hB0.mono V2.out.size))
    clear t0 t1' tz KG WTC hH0 hB0 Y2 T2 V2 P1
    go_upto_region 11 with fail
    obtain ⟨t0, t1', _, _, tz⟩ := box_cells T3.out
    have KG : Hid (g2 < w6.heap.size) := tz
    have WTC := Lib.hid (fun v (hb : Below w6.heap.size w6 v) => NN.out v (V3.out.trans (hb.mono V3.out.size)))
    go_region_held3 (fun w' => w'.cell? ⟨g2, 1, none⟩ = some (.int .i64 v2) ∧ Below w6.heap.size w6 w')
      (first | assumption | (exact held1 (by assumption) (by assumption) KG.out) | (exact held1N (by assumption) _) | (exact ⟨t1', below_drew _⟩))
      (first
        | (go_at_call 20; refine (WTC.out _ (held1B (p := ⟨g2, 1, none⟩) (x := .int .i64 v2) (by assumption))).mono ?_; rintro e w7 ⟨rfl, hb7⟩)
        | (go_at_call 27; refine (P2.out _).mono ?_; rintro e w7 ⟨rfl, hb7⟩))
    rename_i hH1
    have hB1 := hH1.2
    have Y4 := Lib.hid (own_below Y3.out hB1)
    have V4 := Lib.hid (V3.out.trans (hB1.mono V3.out.size))
    clear t0 t1' tz KG WTC hH1 hB1 Y3 T3 V3 P2
    obtain ⟨y0, y3, y4, y5, y6⟩ := box_cells Y4.out
    obtain ⟨q0, q1⟩ := set_two y0 y3
    go_wp2_with fail
    exact bodyPost_ret (v := .tuple #[.agg #[.int .i64 r1, .int .i64 r2], .int .i64 0]) (by simp [results, Tryz.results8, go_sem, q0, q1]) rfl ⟨rfl, (V4.out.setCell (p := ⟨w.heap.size, 0, none⟩) (Nat.le_refl _) _).setCell (p := ⟨w.heap.size, 1, none⟩) (Nat.le_refl _) _⟩
theorem reS : ReS := ⟨fun a b c w => reShare_nil a b c w, fun a b c w d hn A0 A1 B0 B1 C0 C1 => reShare_any a b c w d (by omega) A0 A1 B0 B1 C0 C1⟩
end Go.Proofs.YtmfdpaahklndnaaGreat
