/- The walk of the statement PoolEach of layer pool: for every input it returns true, and nothing that was there before is changed. -/
import Derived.Test.YtomhikjohgiloaaPoTurn
import Derived.Test.YtomhikjohgiloaaPoLaw2
namespace Go.Proofs.Ytomhikjohgiloaa
set_option linter.unusedVariables false
set_option maxRecDepth 100000
open Go.RowKit Go.Shelf
attribute [local go_sem] Oper.semAt_some

/-- blocks other than one box -/
def FrN (q : Nat) (W : World) (k : Nat) : Prop := (∃ o : Obj, W.heap[k]? = some o ∧ o.isCells = true) ∧ k ≠ q
theorem frN (q : Nat) : Frm (FrN q) := by
  refine ⟨fun h => h.1, fun {W W' row k} hg hr h => ?_⟩
  obtain ⟨⟨o, ho, hc⟩, hk⟩ := h
  have e1 : W'.heap[k]? = W.heap[k]? := hg.block k (Array.getElem?_eq_some_iff.1 ho).1 (fun e => by
    obtain ⟨ob, h1, h2⟩ := hr k e.symm
    rw [ho] at h1; injection h1 with h1; rw [← h1, hc] at h2; cases h2)
  exact ⟨⟨o, e1.trans ho, hc⟩, hk⟩
theorem kpN (q : Nat) (W : World) (v : Value) : KpF (FrN q) W (W.setCell ⟨q, 0, none⟩ v) := by
  refine ⟨by simp, fun k hk hf => ?_⟩
  obtain ⟨⟨o, ho, hc⟩, hkq⟩ := hf
  have e1 : (W.setCell ⟨q, 0, none⟩ v).heap[k]? = W.heap[k]? := Below.heap_setCell W ⟨q, 0, none⟩ v k hkq
  exact ⟨e1, ⟨o, e1.trans ho, hc⟩, hkq⟩
theorem getD_prefix {pre : List Nd} {x : Nd} {L : List Nd} (h : pre ++ [x] <+: L) : L.getD pre.length nz = x := by
  obtain ⟨t, rfl⟩ := h
  simp [List.getD_eq_getElem?_getD]
set_option maxHeartbeats 3200000 in
theorem poolEach_in (kd l : Int) (A : Option Addr) (n c : Nat) (L : List Nd) (a : Int) (K0 : -9223372036854775808 ≤ kd) (K1 : kd ≤ 9223372036854775807) (L0 : -9223372036854775808 ≤ l) (L1 : l ≤ 9223372036854775807) (NB : NBds L) (m1 : n ≤ 9223372036854775807) (A0 : -9223372036854775808 ≤ a) (A1 : a ≤ 9223372036854775807) (w : World) (H1 : NodesAt w (.slice A n c) L) :
    CallsIn Fence.wide 5 Try.prog 12 #[.int .i64 kd, .int .i64 l, .agg #[.slice A n c, .int .i64 a]] w fun e w' => e = .returned (.bool true) ∧ Below w.heap.size w w' := by
  have HV := Lib.hid H1
  have HNB : Hid (NBds L) := NB
  have HL := Lib.hid (nodes_cells H1).1
  have ez : (w.alloc (.cells #[.slice A n c, .int .i64 a] 76)).heap.size = w.heap.size + 1 := by simp
  have X0 := Lib.hid ((box2 w 76 (.slice A n c) (.int .i64 a)).alloc (.cells #[.bool false] 4))
  have R0 : Hid (((w.alloc (.cells #[.slice A n c, .int .i64 a] 76)).alloc (.cells #[.bool false] 4)).ownsRow w.heap.size 4 1 (.slice (some ⟨w.heap.size + 1, 0, none⟩) 1 1) 1 [.bool false]) := by
    have q := box1 (w.alloc (.cells #[.slice A n c, .int .i64 a] 76)) 4 (.bool false)
    rw [ez] at q
    exact own_low q (by omega)
  have HB0 : Hid (Below w.heap.size w ((w.alloc (.cells #[.slice A n c, .int .i64 a] 76)).alloc (.cells #[.bool false] 4))) := ((Below.refl _ _).alloc (Nat.le_refl _) _).alloc (by simp) _
  clear H1 NB ez
  refine callsIn_of_wp_marks Try.func12 rfl trivial ?_ rfl
  simp only [Try.ntmps12, List.size_toArray, List.length_cons, List.length_nil, Nat.reduceAdd, Nat.reduceSub, Array.replicate_succ, Array.replicate_zero, List.push_toArray, List.append_toArray, List.nil_append, List.cons_append]
  have hfn : ∀ (v : Value) (w : World), (binOp .eql 78 (.func (.func 80) #[] #[v]) .nilFunc).run Try.prog w = .ok (.bool false) w := fun _ _ => by kernel_rfl
  by_cases hn : 60 < n
  · gi_wp2
    refine ⟨trivial, (callsIn_wide.2 (poAlive_any _)).mono ?_⟩
    rintro e u1 ⟨rfl, hu1⟩
    have ru := own_below R0.out hu1
    have cu : u1.cell? ⟨w.heap.size + 1, 0, none⟩ = some (.bool false) := ru.cellAt 0 (by omega)
    have fu := ru.frozenAt 0
    have bu := HB0.out.trans (hu1.mono HB0.out.size)
    clear ru hu1
    gi_wp2
    have hc5 := World.cell?_setCell_same' u1 ⟨w.heap.size + 1, 0, none⟩ (.bool true) (by rw [cu]; rfl)
    exact ⟨.bool true, by simp [results, Try.f12, go_sem, hc5], rfl, bu.setCell (p := ⟨w.heap.size + 1, 0, none⟩) (Nat.le_succ _) _⟩
  · by_cases hl : 12 < l
    · gi_wp2
      refine ⟨trivial, (callsIn_wide.2 (poAlive_any _)).mono ?_⟩
      rintro e u1 ⟨rfl, hu1⟩
      have ru := own_below R0.out hu1
      have cu : u1.cell? ⟨w.heap.size + 1, 0, none⟩ = some (.bool false) := ru.cellAt 0 (by omega)
      have fu := ru.frozenAt 0
      have bu := HB0.out.trans (hu1.mono HB0.out.size)
      clear ru hu1
      gi_wp2
      have hc5 := World.cell?_setCell_same' u1 ⟨w.heap.size + 1, 0, none⟩ (.bool true) (by rw [cu]; rfl)
      exact ⟨.bool true, by simp [results, Try.f12, go_sem, hc5], rfl, bu.setCell (p := ⟨w.heap.size + 1, 0, none⟩) (Nat.le_succ _) _⟩
    · have LD := Lib.hid (fun w1 (hb : Below w.heap.size w w1) => poLoad_any kd l A n c L w1 (HV.out.below hb) HNB.out (by omega) L0 L1)
      gi_wp2
      generalize (w.alloc (.cells #[.slice A n c, .int .i64 a] 76)).alloc (.cells #[.bool false] 4) = W1 at *
      refine ⟨trivial, (callsIn_wide.2 (LD.out _ HB0.out)).mono ?_⟩
      rintro e w1 ⟨hb1, ⟨hi, rfl⟩ | ⟨hi, hr, rfl⟩ | ⟨hi, hr, p, g, h, rfl, hd⟩⟩
      · have B1 := Lib.hid (HB0.out.trans (hb1.mono HB0.out.size))
        have R1 := Lib.hid (own_below R0.out hb1)
        clear hb1
        gi_wp2
        refine ⟨trivial, (callsIn_wide.2 (poAlive_any _)).mono ?_⟩
        rintro e u1 ⟨rfl, hu1⟩
        have ru := own_below R1.out hu1
        have cu : u1.cell? ⟨w.heap.size + 1, 0, none⟩ = some (.bool false) := ru.cellAt 0 (by omega)
        have fu := ru.frozenAt 0
        have bu := B1.out.trans (hu1.mono B1.out.size)
        clear ru hu1
        gi_wp2
        have hc5 := World.cell?_setCell_same' u1 ⟨w.heap.size + 1, 0, none⟩ (.bool true) (by rw [cu]; rfl)
        exact ⟨.bool true, by simp [results, Try.f12, go_sem, hc5], rfl, bu.setCell (p := ⟨w.heap.size + 1, 0, none⟩) (Nat.le_succ _) _⟩
      · have B1 := Lib.hid (HB0.out.trans (hb1.mono HB0.out.size))
        have R1 := Lib.hid (own_below R0.out hb1)
        clear hb1
        gi_wp2
        refine ⟨trivial, (callsIn_wide.2 (poAlive_any _)).mono ?_⟩
        rintro e u1 ⟨rfl, hu1⟩
        have ru := own_below R1.out hu1
        have cu : u1.cell? ⟨w.heap.size + 1, 0, none⟩ = some (.bool false) := ru.cellAt 0 (by omega)
        have fu := ru.frozenAt 0
        have bu := B1.out.trans (hu1.mono B1.out.size)
        clear ru hu1
        gi_wp2
        have hc5 := World.cell?_setCell_same' u1 ⟨w.heap.size + 1, 0, none⟩ (.bool true) (by rw [cu]; rfl)
        exact ⟨.bool true, by simp [results, Try.f12, go_sem, hc5], rfl, bu.setCell (p := ⟨w.heap.size + 1, 0, none⟩) (Nat.le_succ _) _⟩
      · have B1 := Lib.hid (HB0.out.trans (hb1.mono HB0.out.size))
        have X1 := Lib.hid (own_below X0.out hb1)
        have R1 := Lib.hid (own_below R0.out hb1)
        have P1 := Lib.hid (hd.low HB0.out.size)
        clear hb1 hd hi hr
        gi_wp2_with (refine ⟨trivial, ?_⟩; gi_at_call 48; refine (callsIn_wide.2 (poEach_any _ _)).mono ?_; rintro e w3 ⟨rfl, rfl⟩)
        have hza : (w1.alloc (.cells #[.int .i64 0] 3)).heap.size = w1.heap.size + 1 := by simp
        have hba : Below w1.heap.size w1 ((w1.alloc (.cells #[.int .i64 0] 3)).alloc (.cells #[.pointer (some ⟨p, 0, none⟩)] 59)) := ((Below.refl _ _).alloc (Nat.le_refl _) _).alloc (by simp) _
        have NR := Lib.hid (own_low ((box1 w1 3 (.int .i64 0)).alloc (.cells #[.pointer (some ⟨p, 0, none⟩)] 59)) B1.out.size)
        have hc1 : ((w1.alloc (.cells #[.int .i64 0] 3)).alloc (.cells #[.pointer (some ⟨p, 0, none⟩)] 59)).cell? ⟨w1.heap.size + 1, 0, none⟩ = some (.pointer (some ⟨p, 0, none⟩)) := by
          have q := (box1 (w1.alloc (.cells #[.int .i64 0] 3)) 59 (.pointer (some ⟨p, 0, none⟩))).cellAt 0 (by omega)
          rw [hza] at q
          exact q
        have hz1 : w1.heap.size + 1 < ((w1.alloc (.cells #[.int .i64 0] 3)).alloc (.cells #[.pointer (some ⟨p, 0, none⟩)] 59)).heap.size := by simp
        have X3 := Lib.hid (own_below X1.out hba)
        have R3 := Lib.hid (own_below R1.out hba)
        have P3 := Lib.hid (P1.out.below hba)
        have B3 := Lib.hid (B1.out.trans (hba.mono B1.out.size))
        have hx1 := (R1.out.lt _ rfl).2
        clear hba hza X1 R1 P1 hfn
        generalize (w1.alloc (.cells #[.int .i64 0] 3)).alloc (.cells #[.pointer (some ⟨p, 0, none⟩)] 59) = W0 at *
        have hN : ∀ W W2 k, Below W0.heap.size W0 W → Below W.heap.size W W2 → W.heap.size ≤ k → (∃ o : Obj, W2.heap[k]? = some o ∧ o.isCells = true) → FrN w1.heap.size W2 k := by
          intro W W2 k h1 h2' h3 h4
          have := h1.size
          exact ⟨h4, by omega⟩
        refine wpIn_rangeFunc_ownF rfl (by decide) (gf := 80) (lb := #[.pointer (some ⟨w1.heap.size + 1, 0, none⟩)]) rfl trivial (enters_of Try.func80 (by kernel_rfl) rfl)
          (each_stops 4 (w1.heap.size + 1) p w.heap.size g h (show L.length ≤ 1000 by have := HL.out; omega) (FrN w1.heap.size) (frN _) W0 hc1 hz1 P3.out hN) kpF_t (fun W l' o o' _ hl ho _ => kpF_b (frN _) W l' o o' hl ho) (Below.refl _ _) (fun _ => rfl)
          (fun pre W => ((W.ownsRow w.heap.size 3 1 (.slice (some ⟨w1.heap.size, 0, none⟩) 1 1) 1 [.int .i64 (pre.length : Nat)] ∧ W.ownsRow w.heap.size 76 2 (.slice (some ⟨w.heap.size, 0, none⟩) 1 1) 1 [.slice A n c, .int .i64 a] ∧ W.ownsRow w.heap.size 4 1 (.slice (some ⟨w.heap.size + 1, 0, none⟩) 1 1) 1 [.bool false]) ∧ (pre.length : Int) ≤ max a 0) ∧ Below w.heap.size w W)
          (fun cd pre W => ((∃ m : Nat, cd = .exit 0 ∧ pre.length = m + 1 ∧ a ≤ (m : Int) ∧ (m : Int) ≤ max a 0 ∧ W.ownsRow w.heap.size 3 1 (.slice (some ⟨w1.heap.size, 0, none⟩) 1 1) 1 [.int .i64 (m : Nat)] ∧ W.ownsRow w.heap.size 76 2 (.slice (some ⟨w.heap.size, 0, none⟩) 1 1) 1 [.slice A n c, .int .i64 a] ∧ W.ownsRow w.heap.size 4 1 (.slice (some ⟨w.heap.size + 1, 0, none⟩) 1 1) 1 [.bool false]) ∨ (cd = .ret ∧ ¬ pre <+: L)) ∧ Below w.heap.size w W)
          (OwnFrom.and (Own.from (fun s A C row ⟨⟨r1, r2, r3⟩, hp⟩ hg hr => ⟨⟨row_grown r1 hg hr, row_grown r2 hg hr, row_grown r3 hg hr⟩, hp⟩) _) (ownFrom_below (Nat.le_refl _) B3.out.size))
          (fun cd => OwnFrom.and (Own.from (fun s A C row hs hg hr => hs.imp (fun ⟨m, a1, a2, a3, a4, r1, r2, r3⟩ => ⟨m, a1, a2, a3, a4, row_grown r1 hg hr, row_grown r2 hg hr, row_grown r3 hg hr⟩) (fun q => q)) _) (ownFrom_below (Nat.le_refl _) B3.out.size))
          ⟨⟨⟨NR.out, X3.out, R3.out⟩, by simp; omega⟩, B3.out⟩
          ?a1 ?assign ?body ?done ?stop
        case assign =>
          intro l' x W K hK
          gi_wp2
          exact hK
        case body =>
          rintro l' pre x W ⟨⟨⟨r1, r2, r3⟩, hp⟩, hB⟩ hpl
          have n0 : W.cell? ⟨w1.heap.size, 0, none⟩ = some (.int .i64 (pre.length : Nat)) := r1.cellAt 0 (by omega)
          have nf := r1.frozenAt 0
          obtain ⟨x0, x1, _, _, _⟩ := box_cells r2
          have r0 : W.cell? ⟨w.heap.size + 1, 0, none⟩ = some (.bool false) := r3.cellAt 0 (by omega)
          have rf := r3.frozenAt 0
          have hkn : pre.length < n := by have := HL.out; omega
          obtain ⟨bq, o, rfl, hin⟩ := (nodes_cells (HV.out.below hB)).2.2.2 (by omega)
          obtain ⟨e0, e1⟩ := hin.2 pre.length hpl
          have hbd := nbds_at HNB.out hpl
          have GP := Lib.hid (fun h => getD_prefix (pre := pre) (x := x) (L := L) h)
          obtain ⟨y, hy⟩ : ∃ y, y = L.getD pre.length nz := ⟨_, rfl⟩
          rw [← hy] at e0 e1 hbd GP
          obtain ⟨y1, y2⟩ := y
          simp only at e0 e1 hbd
          have RR1 := Lib.hid r1
          have RR2 := Lib.hid r2
          have RR3 := Lib.hid r3
          have BB := Lib.hid hB
          have LP : Hid ((pre ++ [x]).length = pre.length + 1) := by show _ = _; simp
          obtain ⟨k, hk⟩ : ∃ k, k = pre.length := ⟨_, rfl⟩
          rw [← hk] at n0 hp hkn hpl e0 e1 LP
          have HK := Lib.hid hk
          clear hy hin r1 r2 r3 hB hk
          by_cases hm : a ≤ (k : Int)
          · gi_wp2
            exact ⟨KeepsOthers.refl _, .inl ⟨rfl, k, LP.out, hm, hp, by rw [HK.out]; exact RR1.out, RR2.out, RR3.out⟩, BB.out⟩
          · by_cases hx : y1 = wrap64 x.1 ∧ y2 = wrap64 x.2
            · have hne : ∀ w, (binOp .neq 42 (.agg #[.int .i64 y1, .int .i64 y2]) (.agg #[.int .i64 (wrap64 x.1), .int .i64 (wrap64 x.2)])).run Try.prog w = .ok (.bool false) w := fun w => by rw [run_neq_nodes, hx.1, hx.2]; simp
              gi_wp2
              have HX := Lib.hid hx
              clear hx hne
              have st := World.ownsRow.stored RR1.out 0 (.int .i64 ((k : Int) + 1))
              have ek : (((pre ++ [x]).length : Nat) : Int) = (k : Int) + 1 := by rw [LP.out]; rfl
              refine ⟨KeepsOthers.setCell _ _ _, kpN _ _ _, ⟨⟨?_, ?_, ?_⟩, ?_⟩, ?_⟩
              · rw [ek]; exact st.1
              · exact World.ownsRow.kept RR2.out st.2 (own_apart RR2.out RR1.out (by decide))
              · exact World.ownsRow.kept RR3.out st.2 (own_apart RR3.out RR1.out (by decide))
              · rw [ek]; omega
              · exact BB.out.setCell (p := ⟨w1.heap.size, 0, none⟩) (by show w.heap.size ≤ w1.heap.size; omega) _
            · have hne : ∀ w, (binOp .neq 42 (.agg #[.int .i64 y1, .int .i64 y2]) (.agg #[.int .i64 (wrap64 x.1), .int .i64 (wrap64 x.2)])).run Try.prog w = .ok (.bool true) w := fun w => by rw [run_neq_nodes]; simp; omega
              gi_wp2
              refine ⟨?_, .inr ⟨rfl, fun h => ?_⟩, ?_⟩
              · exact KeepsOthers.setCell _ _ _
              · obtain ⟨⟨b1, b2⟩, b3, b4⟩ := hbd
                have q := GP.out h
                rw [← q] at hx
                exact hx ⟨(wrap_in b1 b2).symm, (wrap_in b3 b4).symm⟩
              · exact BB.out.setCell (p := ⟨w.heap.size + 1, 0, none⟩) (Nat.le_succ _) _
        case done =>
          rintro D' ys W hD hys ⟨⟨⟨r1, r2, r3⟩, hp⟩, hB⟩ hK
          have hlen : ys.length = n := by rw [hys]; exact HL.out.symm
          have n0 : W.cell? ⟨w1.heap.size, 0, none⟩ = some (.int .i64 (ys.length : Nat)) := r1.cellAt 0 (by omega)
          have nf := r1.frozenAt 0
          obtain ⟨x0, x1, _, _, _⟩ := box_cells r2
          have r0 : W.cell? ⟨w.heap.size + 1, 0, none⟩ = some (.bool false) := r3.cellAt 0 (by omega)
          have rf := r3.frozenAt 0
          rw [hlen] at n0 hp
          have hbb : (((n : Nat) : Int) == min (max a 0) ((n : Nat) : Int)) = true := by simp; omega
          have RR3 := Lib.hid r3
          have BB := Lib.hid hB
          have HD := Lib.hid hD
          have HKK := Lib.hid hK
          clear r1 r2 r3 hB hD hK hys hlen
          gi_wp2
          refine ⟨trivial, (callsIn_wide.2 (poAlive_any _)).mono ?_⟩
          rintro e w4 ⟨rfl, hb4⟩
          have hr4 := own_below RR3.out hb4
          have c4 : w4.cell? ⟨w.heap.size + 1, 0, none⟩ = some (.bool false) := hr4.cellAt 0 (by omega)
          have f4 := hr4.frozenAt 0
          have hB4 := BB.out.trans (hb4.mono BB.out.size)
          have hK4 : w4.heap[D']? = some (.deferred (some [])) := (hb4.block D' (Array.getElem?_eq_some_iff.1 HKK.out).1).trans HKK.out
          clear hr4 hb4 r0 rf n0 nf x0 x1
          gi_wp2
          have hK' := (KeepsOthers.setCell w4 ⟨w.heap.size + 1, 0, none⟩ (.bool true)).same D' _ hK4 rfl
          refine ⟨by simp, .inl ⟨_, _, rfl, run_takeDeferred hK', ?_⟩⟩
          have hc5 := cell_kept (World.cell?_setCell_same' w4 ⟨w.heap.size + 1, 0, none⟩ (.bool true) (by rw [c4]; rfl)) (grownBy_putObj' _ D' (.deferred none)) (fun r e => by cases e; exact ⟨_, hK', rfl⟩)
          refine ⟨.bool true, ?_, rfl, (hB4.setCell (p := ⟨w.heap.size + 1, 0, none⟩) (Nat.le_succ _) _).trans (belowK_b (w := W0) B3.out.size _ D' _ _ HD.out hK' rfl rfl)⟩
          simp [results, Try.f12, go_sem, hc5]
        case stop =>
          rintro D' cd pre W hD hpre ⟨⟨m, rfl, hml, hma, hmb, r1, r2, r3⟩ | ⟨rfl, hnp⟩, hB⟩ hK
          · have hle : m + 1 ≤ n := by rw [← hml, HL.out]; exact hpre.length_le
            have n0 : W.cell? ⟨w1.heap.size, 0, none⟩ = some (.int .i64 (m : Nat)) := r1.cellAt 0 (by omega)
            have nf := r1.frozenAt 0
            obtain ⟨x0, x1, _, _, _⟩ := box_cells r2
            have r0 : W.cell? ⟨w.heap.size + 1, 0, none⟩ = some (.bool false) := r3.cellAt 0 (by omega)
            have rf := r3.frozenAt 0
            have hbb : (((m : Nat) : Int) == min (max a 0) ((n : Nat) : Int)) = true := by simp; omega
            have RR3 := Lib.hid r3
            have BB := Lib.hid hB
            have HD := Lib.hid hD
            have HKK := Lib.hid hK
            clear r1 r2 r3 hB hD hK hml hpre
            gi_wp2
            refine ⟨trivial, (callsIn_wide.2 (poAlive_any _)).mono ?_⟩
            rintro e w4 ⟨rfl, hb4⟩
            have hr4 := own_below RR3.out hb4
            have c4 : w4.cell? ⟨w.heap.size + 1, 0, none⟩ = some (.bool false) := hr4.cellAt 0 (by omega)
            have f4 := hr4.frozenAt 0
            have hB4 := BB.out.trans (hb4.mono BB.out.size)
            have hK4 : w4.heap[D']? = some (.deferred (some [])) := (hb4.block D' (Array.getElem?_eq_some_iff.1 HKK.out).1).trans HKK.out
            clear hr4 hb4 r0 rf n0 nf x0 x1
            gi_wp2
            have hK' := (KeepsOthers.setCell w4 ⟨w.heap.size + 1, 0, none⟩ (.bool true)).same D' _ hK4 rfl
            refine ⟨by simp, .inl ⟨_, _, rfl, run_takeDeferred hK', ?_⟩⟩
            have hc5 := cell_kept (World.cell?_setCell_same' w4 ⟨w.heap.size + 1, 0, none⟩ (.bool true) (by rw [c4]; rfl)) (grownBy_putObj' _ D' (.deferred none)) (fun r e => by cases e; exact ⟨_, hK', rfl⟩)
            refine ⟨.bool true, ?_, rfl, (hB4.setCell (p := ⟨w.heap.size + 1, 0, none⟩) (Nat.le_succ _) _).trans (belowK_b (w := W0) B3.out.size _ D' _ _ HD.out hK' rfl rfl)⟩
            simp [results, Try.f12, go_sem, hc5]
          · exact absurd hpre hnp

theorem walk_poolEach (kd l : Int) (A : Option Addr) (n c : Nat) (L : List Nd) (a : Int) (K0 : -9223372036854775808 ≤ kd) (K1 : kd ≤ 9223372036854775807) (L0 : -9223372036854775808 ≤ l) (L1 : l ≤ 9223372036854775807) (NB : NBds L) (m1 : n ≤ 9223372036854775807) (A0 : -9223372036854775808 ≤ a) (A1 : a ≤ 9223372036854775807) (w : World) (H1 : NodesAt w (.slice A n c) L) :
    Calls Try.prog 12 #[.int .i64 kd, .int .i64 l, .agg #[.slice A n c, .int .i64 a]] w fun e w' => e = .returned (.bool true) ∧ Below w.heap.size w w' :=
  callsIn_wide.1 (poolEach_in kd l A n c L a K0 K1 L0 L1 NB m1 A0 A1 w H1)

end Go.Proofs.Ytomhikjohgiloaa
