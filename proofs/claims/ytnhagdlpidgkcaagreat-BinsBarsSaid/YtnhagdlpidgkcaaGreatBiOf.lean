/- The project's package bins: Of. -/
import Derived.Test.YtnhagdlpidgkcaaGreatBiBd
import Derived.Test.YtnhagdlpidgkcaaGreatRnT
namespace Go.Proofs.YtnhagdlpidgkcaaGreat
set_option linter.unusedVariables false
set_option maxRecDepth 100000
open Go.RowKit Go.Shelf
attribute [local go_sem] Oper.semAt_some
/-- what a loop's body reckons of a bin -/
def biOv (l : Int) (L : List Nd) (E : List Int) (x : Nat) : Int := lowR l L (toE l E x) - lowR l L (frE E x - 1)
theorem biOv_is {l : Int} {L : List Nd} {E : List Int} (r : RollC l L) (e : EgC l E) {i : Nat} (h : i ≤ E.length) : biOv l L E i = binW l L E i := by
  have top : lowR l L (2 ^ l.toNat - 1) = sumC L := by
    rw [low_is, ← wtF_all L]
    refine wtF_congr fun n hn => ?_
    have ne := node_ends r hn
    exact decide_eq_true (by omega)
  have bot : lowR l L (0 - 1) = 0 := by
    rw [low_is]
    refine Eq.trans (wtF_congr (Q := fun _ => false) fun n hn => ?_) (wtF_none L)
    have ne := node_ends r hn
    exact decide_eq_false (by omega)
  have one : lowR l L (toE l E i) = lwE l L E i := by
    unfold toE lwE
    by_cases q : i < E.length
    · rw [if_pos q, if_pos q]
    · rw [if_neg q, if_neg q]; exact top
  unfold biOv binW frE
  rw [one]
  by_cases z : i = 0
  · rw [if_pos z, if_pos z, bot]
  · rw [if_neg z, if_neg z, Int.add_sub_cancel]
    unfold lwE
    rw [if_pos (show i - 1 < E.length by omega)]
theorem biOv_all {l : Int} {L : List Nd} {E : List Int} (r : RollC l L) (e : EgC l E) : (List.range (E.length + 1)).map (biOv l L E) = binsN l L E := by
  unfold binsN
  exact List.map_congr_left fun i hi => biOv_is r e (by have := List.mem_range.1 hi; omega)
set_option maxHeartbeats 6400000 in
theorem biOf_in {B q p g h : Nat} {kd l k : Int} {m : Nat} {L : List Nd} {A : Option Addr} {n c : Nat} {E : List Int} (w : World) (d : DgA w B q p g h kd l k m L) (hm : m ≤ 400) (hE : IntsAt w (.slice A n c) E) (UB : Bds E) (hn : n ≤ 100) (he : egB l E = true) :
    CallsIn Fence.wide 5 Tryz.prog 9 #[.pointer (some ⟨q, 0, none⟩), .slice A n c] w fun e w' => (∃ A2 n2 c2, e = .returned (.tuple #[.slice A2 n2 c2, .int .i64 0]) ∧ IntsAt w' (.slice A2 n2 c2) (binsN l L E) ∧ n2 ≤ c2) ∧ Below w.heap.size w w' := by
  obtain ⟨i0, hi, hz0, hz1, hz2⟩ := info_parts rkInt_info
  have D := Lib.hid d
  have HE := Lib.hid hE
  have HL := Lib.hid (ints_cells hE).1
  have EG := Lib.hid (eg_yes he)
  have RO := Lib.hid d.v.roll
  have hl := EG.out.uni
  have FB := Lib.hid (fun x => frE_bd E UB (eg_lt EG.out) x)
  have FB2 := Lib.hid (fun x => biFr_bd E (eg_yes he) x)
  have FD : ∀ w, (Instr.field 23 (.agg #[.int .i64 l, .int .i64 k, .int .i64 kd]) 0).run Tryz.prog w = .ok (.int .i64 l) w := fun _ => by kernel_rfl
  have RF := Lib.hid (biRefused_any w d hE UB (by omega))
  rw [he] at RF
  simp only [if_true] at RF
  have OF := Lib.hid (fun v (hb : Below w.heap.size w v) => rnkOf_any v (d.below hb) hm)
  have CF := Lib.hid (fun v (hb : Below w.heap.size w v) => dgConf_any v (d.below hb).box)
  clear d hE UB
  refine callsIn_of_wp_marks Tryz.func9 rfl trivial ?_ rfl
  simp only [Tryz.ntmps9, List.size_toArray, List.length_cons, List.length_nil, Nat.reduceAdd, Nat.reduceSub, Array.replicate_succ, Array.replicate_zero, List.push_toArray, List.append_toArray, List.nil_append, List.cons_append]
  gi_wp2
  refine ⟨trivial, (callsIn_wide.2 RF.out).mono ?_⟩
  rintro e w1 ⟨rfl, hb1⟩
  have B1 := Lib.hid hb1
  clear hb1
  gi_wp2
  refine ⟨trivial, (callsIn_wide.2 (OF.out _ B1.out)).mono ?_⟩
  rintro e w2 ⟨⟨t, rfl, ht⟩, hb2⟩
  have B2 := Lib.hid (B1.out.trans (hb2.mono B1.out.size))
  have T2 := Lib.hid ht
  clear hb2 ht
  have ha : (w2.alloc (.cells #[.pointer (some ⟨t, 0, none⟩)] 75)).heap.size = w2.heap.size + 1 := by simp
  have hb3 : Below w2.heap.size w2 ((w2.alloc (.cells #[.pointer (some ⟨t, 0, none⟩)] 75)).alloc (.cells #[.slice none 0 0] 27)) := ((Below.refl _ _).alloc (Nat.le_refl _) _).alloc (by simp) _
  have XT := Lib.hid ((box1 w2 75 (.pointer (some ⟨t, 0, none⟩))).alloc (.cells #[.slice none 0 0] 27))
  have XW : Hid (((w2.alloc (.cells #[.pointer (some ⟨t, 0, none⟩)] 75)).alloc (.cells #[.slice none 0 0] 27)).ownsRow w2.heap.size 27 1 (.slice (some ⟨w2.heap.size + 1, 0, none⟩) 1 1) 1 [.slice none 0 0]) := by
    have r := box1 (w2.alloc (.cells #[.pointer (some ⟨t, 0, none⟩)] 75)) 27 (.slice none 0 0)
    rw [ha] at r
    exact own_low r (by omega)
  have B3 := Lib.hid hb3
  clear hb3 ha
  gi_wp2
  generalize (w2.alloc (.cells #[.pointer (some ⟨t, 0, none⟩)] 75)).alloc (.cells #[.slice none 0 0] 27) = w3 at *
  refine ⟨trivial, (callsIn_wide.2 (CF.out _ (B2.out.trans (B3.out.mono B2.out.size)))).mono ?_⟩
  rintro e w4 ⟨rfl, hb4⟩
  have B4 := Lib.hid (B3.out.trans (hb4.mono B3.out.size))
  have XT4 := Lib.hid (own_below XT.out hb4)
  have XW4 := Lib.hid (own_below XW.out hb4)
  clear hb4
  gi_wp2
  refine ⟨trivial, (callsIn_wide.2 (biSpans_any l _)).mono ?_⟩
  rintro e w5 ⟨rfl, rfl⟩
  have ha : (w4.alloc (.cells #[.int .i64 l] 3)).heap.size = w4.heap.size + 1 := by simp
  have hb5 : Below w4.heap.size w4 ((w4.alloc (.cells #[.int .i64 l] 3)).alloc (.cells #[.slice A n c] 27)) := ((Below.refl _ _).alloc (Nat.le_refl _) _).alloc (by simp) _
  have cl : ((w4.alloc (.cells #[.int .i64 l] 3)).alloc (.cells #[.slice A n c] 27)).cell? ⟨w4.heap.size, 0, none⟩ = some (.int .i64 l) := ((box1 w4 3 (.int .i64 l)).alloc _).cellAt 0 (by omega)
  have ce : ((w4.alloc (.cells #[.int .i64 l] 3)).alloc (.cells #[.slice A n c] 27)).cell? ⟨w4.heap.size + 1, 0, none⟩ = some (.slice A n c) := by
    have r := (box1 (w4.alloc (.cells #[.int .i64 l] 3)) 27 (.slice A n c)).cellAt 0 (by omega)
    rw [ha] at r
    exact r
  have XT5 := Lib.hid (own_below XT4.out hb5)
  have XW5 := Lib.hid (own_below XW4.out hb5)
  have B5 := Lib.hid (B4.out.trans (hb5.mono B4.out.size))
  have gz : w2.heap.size + 1 < w4.heap.size := (XW4.out.lt _ rfl).2
  have wz := B2.out.size
  clear hb5 ha
  gi_wp2
  generalize (w4.alloc (.cells #[.int .i64 l] 3)).alloc (.cells #[.slice A n c] 27) = W0 at *
  have cw : W0.cell? ⟨w2.heap.size + 1, 0, none⟩ = some (.slice none 0 0) := XW5.out.cellAt 0 (by omega)
  have BW0 := Lib.hid (B2.out.trans (B5.out.mono B2.out.size))
  have SR : SpR (FrP (w2.heap.size + 1) 0) W0 (w4.heap.size + 1) w4.heap.size A n c E l := by
    refine ⟨ce, cl, HE.out.below BW0.out, frP_of ce (by omega) cw, frP_of cl (by omega) cw, fun b o e hn => ?_⟩
    obtain ⟨b', o', e', hlt, hc⟩ := biInts_at HE.out hn
    rw [e] at e'
    injection e' with e'
    injection e' with e1 e2
    subst e1 e2
    have hc2 : W0.cell? ⟨b, o + 0, none⟩ = some _ := (BW0.out.cell (p := ⟨b, o + 0, none⟩) hlt).trans hc
    exact frP_of hc2 (by omega) cw
  refine wpIn_rangeFunc_ownF rfl (by decide) (gf := 63) (lb := #[.pointer (some ⟨w4.heap.size + 1, 0, none⟩), .pointer (some ⟨w4.heap.size, 0, none⟩)]) rfl trivial (enters_of Tryz.func63 (by kernel_rfl) rfl)
    (spans_stops 4 (w4.heap.size + 1) w4.heap.size (by omega) EG.out (FrP (w2.heap.size + 1) 0) (frP _ _) W0 SR) kpF_t (fun W l' o o' _ hl ho _ => kpF_b (frP _ _) W l' o o' hl ho) (Below.refl _ _) (fun _ => rfl)
    (fun pre W => (∃ v, W.ownsRow w2.heap.size 27 1 (.slice (some ⟨w2.heap.size + 1, 0, none⟩) 1 1) 1 [v] ∧ W.ownsRow w2.heap.size 3 1 v pre.length (ints (pre.map (biOv l L E))) ∧ W.ownsRow w2.heap.size 75 1 (.slice (some ⟨w2.heap.size, 0, none⟩) 1 1) 1 [.pointer (some ⟨t, 0, none⟩)]) ∧ Below w2.heap.size w2 W)
    (fun _ _ _ => False)
    (OwnFrom.and (Own.from (fun s A C row ⟨v, r1, r2, r3⟩ hg hr => ⟨v, row_grown r1 hg hr, row_grown r2 hg hr, row_grown r3 hg hr⟩) _) (ownFrom_below (Nat.le_refl _) B5.out.size))
    (fun _ _ _ _ _ hs _ _ => hs)
    ⟨⟨_, XW5.out, ownI_nil _ _ _, XT5.out⟩, B5.out⟩
    ?a1 ?assign ?body ?done ?stop
  case assign =>
    intro l' x W K hK
    gi_wp2
    exact hK
  case body =>
    rintro l' pre x W ⟨⟨v, hr, ho, hd⟩, hB⟩ hpl
    have HR := Lib.hid hr
    have HO := Lib.hid ho
    have HD := Lib.hid hd
    have HZ := Lib.hid hB
    have c0' : W.cell? ⟨w2.heap.size + 1, 0, none⟩ = some v := hr.cellAt 0 (by omega)
    have d0 : W.cell? ⟨w2.heap.size, 0, none⟩ = some (.pointer (some ⟨t, 0, none⟩)) := hd.cellAt 0 (by omega)
    have zg := (hr.lt _ rfl).2
    have zt := (hd.lt _ rfl).2
    have zw := hB.size
    have hnv' : v.ownBlock ≠ some w2.heap.size := fun e => by
      rcases own_apart hd ho (by decide) with r | r
      · simp [Value.ownBlock] at r
      · exact r (by rw [e]; rfl)
    have LA := Lib.hid (fun v1 (hv : Below W.heap.size W v1) => rnkTLow_any (toE l E x) v1 (rnkTB_below T2.out (hB.trans (hv.mono hB.size))))
    have LB := Lib.hid (fun v1 (hv : Below W.heap.size W v1) => rnkTLow_any (frE E x - 1) v1 (rnkTB_below T2.out (hB.trans (hv.mono hB.size))))
    have hw0 : Below W.heap.size W W.drew := below_drew W
    have pl : pre.length ≤ 1000 := by have := HL.out; omega
    have fb := FB.out x
    have fb2 := FB2.out x
    have la := low_bd RO.out (toE l E x)
    have lb := low_bd RO.out (frE E x - 1)
    have PQ : Hid (ints ((pre ++ [x]).map (biOv l L E)) = ints (pre.map (biOv l L E)) ++ [.int .i64 (lowR l L (toE l E x) - lowR l L (frE E x - 1))]) := by show _ = _; rw [List.map_append, ints_app]; rfl
    clear hr ho hd hB
    obtain ⟨Av, mv, cv, rfl⟩ := own_slice HO.out
    have c0 : W.cell? ⟨w2.heap.size + 1, 0, none⟩ = some (.slice Av mv cv) := c0'
    have hnv : (Value.slice Av mv cv).ownBlock ≠ some w2.heap.size := hnv'
    clear c0' hnv'
    have FIN : Hid (∀ (g cap : Nat) (w6 : World), BiPu 27 3 1 w2.heap.size (w2.heap.size + 1) W (w6.setCell ⟨w2.heap.size + 1, 0, none⟩ (.slice (some ⟨g, 0, none⟩) (pre.length + 1) cap)) (.slice Av mv cv) (pre.length + 1) (ints (pre.map (biOv l L E)) ++ [.int .i64 (lowR l L (toE l E x) - lowR l L (frE E x - 1))]) w2 →
        KeepsOthers W (w6.setCell ⟨w2.heap.size + 1, 0, none⟩ (.slice (some ⟨g, 0, none⟩) (pre.length + 1) cap)) ∧ KpF (FrP (w2.heap.size + 1) 0) W (w6.setCell ⟨w2.heap.size + 1, 0, none⟩ (.slice (some ⟨g, 0, none⟩) (pre.length + 1) cap)) ∧
        (∃ v, (w6.setCell ⟨w2.heap.size + 1, 0, none⟩ (.slice (some ⟨g, 0, none⟩) (pre.length + 1) cap)).ownsRow w2.heap.size 27 1 (.slice (some ⟨w2.heap.size + 1, 0, none⟩) 1 1) 1 [v] ∧ (w6.setCell ⟨w2.heap.size + 1, 0, none⟩ (.slice (some ⟨g, 0, none⟩) (pre.length + 1) cap)).ownsRow w2.heap.size 3 1 v (pre ++ [x]).length (ints ((pre ++ [x]).map (biOv l L E))) ∧ (w6.setCell ⟨w2.heap.size + 1, 0, none⟩ (.slice (some ⟨g, 0, none⟩) (pre.length + 1) cap)).ownsRow w2.heap.size 75 1 (.slice (some ⟨w2.heap.size, 0, none⟩) 1 1) 1 [.pointer (some ⟨t, 0, none⟩)]) ∧ Below w2.heap.size w2 (w6.setCell ⟨w2.heap.size + 1, 0, none⟩ (.slice (some ⟨g, 0, none⟩) (pre.length + 1) cap))) := fun g cap w6 PU => by
      obtain ⟨v7, t7, r7⟩ := PU.top
      exact ⟨PU.others, PU.kept, ⟨v7, t7, by rw [List.length_append, PQ.out]; exact r7, PU.box HO.out HD.out (by decide) (by omega)⟩, PU.below⟩
    obtain ⟨f1, hf1⟩ : ∃ f1, f1 = frE E x - 1 := ⟨_, rfl⟩
    rw [← hf1] at LB lb FIN
    have wf : IntKind.i64.wrap (frE E x - 1) = f1 := by rw [IntKind.wrap_i64]; omega
    generalize lowR l L (toE l E x) = a1 at *
    generalize lowR l L f1 = a2 at *
    obtain ⟨y, hy⟩ : ∃ y, y = a1 - a2 := ⟨_, rfl⟩
    rw [← hy] at FIN
    have wy : IntKind.i64.wrap (a1 - a2) = y := by rw [IntKind.wrap_i64]; omega
    clear hf1 hy PQ hpl FB FB2 fb fb2 la lb
    generalize hgt : w2.heap.size = gt at *
    generalize pre.length = nn at *
    generalize ints (pre.map (biOv l L E)) = xs at *
    gi_wp2
    refine rnd_region (S := fun w' => w'.cell? ⟨gt, 0, none⟩ = some (.pointer (some ⟨t, 0, none⟩))) (by kernel_rfl) (by kernel_rfl) d0 (fun hHeld => ?_)
    refine wpAnyH_take (i := 1) (oi := { dst := some 27, op := _, type := _, pos := _, after := _, guard := _ }) (v := ?v1_1) rfl (by kernel_rfl) (by kernel_rfl) (by kernel_rfl) (fun _ _ _ h => h) (Or.inl ⟨by rfl, ?hy1_1⟩) (by assumption) ?rest1_1
    case hy1_1 => (intro w hSw; (try dsimp only at hSw); go_simp <;> with_reducible rfl)
    try simp only [Act.put, List.setIfInBounds_toArray, List.set_cons_zero, List.set_cons_succ]
    refine wpAnyH_take (i := 2) (oi := { dst := some 28, op := _, type := _, pos := _, after := _, guard := _ }) (v := ?v2_2) rfl (by kernel_rfl) (by kernel_rfl) (by kernel_rfl) (fun _ _ _ h => h) (Or.inl ⟨by rfl, ?hy2_2⟩) (by assumption) ?rest2_2
    case hy2_2 => (intro w hSw; (try dsimp only at hSw); go_simp <;> with_reducible rfl)
    try simp only [Act.put, List.setIfInBounds_toArray, List.set_cons_zero, List.set_cons_succ]
    refine wpAnyH_take (i := 4) (oi := { dst := some 30, op := _, type := _, pos := _, after := _, guard := _ }) (v := ?v4_3) rfl (by kernel_rfl) (by kernel_rfl) (by kernel_rfl) (fun _ _ _ h => h) (Or.inl ⟨by rfl, ?hy4_3⟩) (by assumption) ?rest4_3
    case hy4_3 => (intro w hSw; (try dsimp only at hSw); go_simp <;> with_reducible rfl)
    try simp only [Act.put, List.setIfInBounds_toArray, List.set_cons_zero, List.set_cons_succ]
    refine wpAnyH_take (i := 5) (oi := { dst := some 31, op := _, type := _, pos := _, after := _, guard := _ }) (v := ?v5_4) rfl (by kernel_rfl) (by kernel_rfl) (by kernel_rfl) (fun _ _ _ h => h) (Or.inl ⟨by rfl, ?hy5_4⟩) (by assumption) ?rest5_4
    case hy5_4 => (intro w hSw; (try dsimp only at hSw); go_simp <;> with_reducible rfl)
    try simp only [Act.put, List.setIfInBounds_toArray, List.set_cons_zero, List.set_cons_succ]
    refine wpAnyH_take (i := 6) (oi := { dst := some 32, op := _, type := _, pos := _, after := _, guard := _ }) (v := ?v6_5) rfl (by kernel_rfl) (by kernel_rfl) (by kernel_rfl) (fun _ _ _ h => h) (Or.inl ⟨by rfl, ?hy6_5⟩) (by assumption) ?rest6_5
    case hy6_5 => (intro w hSw; (try dsimp only at hSw); go_simp <;> with_reducible rfl)
    try simp only [Act.put, List.setIfInBounds_toArray, List.set_cons_zero, List.set_cons_succ]
    refine wpAnyH_ready (rs := [0, 3]) (by kernel_rfl) (by simp) ?_
    refine AllReadyH.cons (o := { dst := some 26, op := _, type := _, pos := _, after := _, guard := _ }) rfl (fun K hK => ?_) ?_
    · skip
      have e0 : W.drew.cell? ⟨gt + 1, 0, none⟩ = some (.slice Av mv cv) := c0
      go_simp
      refine hK.out _ _ (by (try dsimp only); exact (by assumption)) (fun hHeld => ?_)
      clear hK K
      try simp only [Act.put, List.setIfInBounds_toArray, List.set_cons_zero, List.set_cons_succ]
      refine wpAnyH_ready (rs := [3]) (by kernel_rfl) (by simp) ?_
      refine AllReadyH.cons (o := { dst := some 29, op := _, type := _, pos := _, after := _, guard := _ }) rfl (fun K hK => ?_) ?_
      · skip
        go_simp
        ((with_reducible refine (LA.out _ hw0).mono ?_); rintro e v1 ⟨rfl, hb1⟩)
        go_wp2_with fail
        have hw1 : Below W.heap.size W v1 := hw0.trans (hb1.mono hw0.size)
        refine hK.out _ _ (by (try dsimp only); exact (hw1.cell (p := ⟨gt, 0, none⟩) zt).trans d0) (fun hHeld => ?_)
        clear hK K
        try simp only [Act.put, List.setIfInBounds_toArray, List.set_cons_zero, List.set_cons_succ]
        refine wpAnyH_ready (rs := [7]) (by kernel_rfl) (by simp) ?_
        refine AllReadyH.cons (o := { dst := some 33, op := _, type := _, pos := _, after := _, guard := _ }) rfl (fun K hK => ?_) ?_
        · skip
          go_simp
          ((with_reducible refine (LB.out _ hw1).mono ?_); rintro e v2 ⟨rfl, hb2⟩)
          go_wp2_with fail
          have hw2 : Below W.heap.size W v2 := hw1.trans (hb2.mono hw1.size)
          have hs2 := hw2.size
          refine hK.out _ _ (by (try dsimp only); exact (hw2.cell (p := ⟨gt, 0, none⟩) zt).trans d0) (fun hHeld => ?_)
          clear hK K
          try simp only [Act.put, List.setIfInBounds_toArray, List.set_cons_zero, List.set_cons_succ]
          refine wpAnyH_take (i := 8) (oi := { dst := some 34, op := _, type := _, pos := _, after := _, guard := _ }) (v := ?v8_6) rfl (by kernel_rfl) (by kernel_rfl) (by kernel_rfl) (fun _ _ _ h => h) (Or.inl ⟨by rfl, ?hy8_6⟩) (by assumption) ?rest8_6
          case hy8_6 => (intro w hSw; (try dsimp only at hSw); go_simp <;> with_reducible rfl)
          try simp only [Act.put, List.setIfInBounds_toArray, List.set_cons_zero, List.set_cons_succ]
          refine wpAnyH_ready (rs := [9]) (by kernel_rfl) (by simp) ?_
          refine AllReadyH.cons (o := { dst := some 35, op := _, type := _, pos := _, after := _, guard := _ }) rfl (fun K hK => ?_) ?_
          · skip
            go_simp
            refine hK.out _ _ (by (try dsimp only); exact ((hw2.alloc hw2.size _).cell (p := ⟨gt, 0, none⟩) zt).trans d0) (fun hHeld => ?_)
            clear hK K
            try simp only [Act.put, List.setIfInBounds_toArray, List.set_cons_zero, List.set_cons_succ]
            refine wpAnyH_ready (rs := [10]) (by kernel_rfl) (by simp) ?_
            refine AllReadyH.cons (o := { dst := some 36, op := _, type := _, pos := _, after := _, guard := _ }) rfl (fun K hK => ?_) ?_
            · skip
              refine step_append_lies _ (by rfl) _ _ _ (by rfl) gt 3 i0 _ 1 8 Tryz.underlying27 hi hz0 hz1 hz2 rfl (by omega) (.slice Av mv cv) nn xs (by rfl) ((own_below HO.out hw2).alloc _) ⟨v2.heap.size, 0, none⟩ 1 1 [.int .i64 y] (by rfl) (by rfl) (one_new _ _ _ _ rfl) (one_int _) (by omega) (by unfold maxLen; omega) (by omega) (by simp; omega) (v2.heap.size + 1) (by simp) ?_
              intro g cap w6 hown hg hat _
              obtain ⟨c6, f6, l6, hk6, PU⟩ := biPush (k := 1) (o := .cells #[.int .i64 y] 3) (by decide) HR.out HO.out HZ.out (by omega) hw2 hown hg hat
              refine hK.out _ _ (by (try dsimp only); exact (World.cell?_of_block (a := ⟨gt, 0, none⟩) (hk6 gt (by omega) zt hnv)).trans d0) (fun hHeld => ?_)
              clear hK K
              try simp only [Act.put, List.setIfInBounds_toArray, List.set_cons_zero, List.set_cons_succ]
              refine wpAnyH_ready (rs := [11]) (by kernel_rfl) (by simp) ?_
              refine AllReadyH.cons (o := { dst := none, op := _, type := _, pos := _, after := _, guard := _ }) rfl (fun K hK => ?_) ?_
              · skip
                go_simp
                refine hK.out _ _ (by (try dsimp only); exact ((Kp.setCell w6 ⟨gt + 1, 0, none⟩ _).cell (Nat.lt_of_lt_of_le zt (by have := hg.size; simp at this; omega)) (by show ¬ gt = gt + 1; omega)).trans ((World.cell?_of_block (a := ⟨gt, 0, none⟩) (hk6 gt (by omega) zt hnv)).trans d0)) (fun hHeld => ?_)
                clear hK K
                try simp only [Act.put, List.setIfInBounds_toArray, List.set_cons_zero, List.set_cons_succ]
                refine wpAnyH_done (by kernel_rfl) ?_ _
                refine onlyN_normal ?_
                gi_wp2
                exact FIN.out _ _ _ PU
              exact AllReadyH.nil
            exact AllReadyH.nil
          exact AllReadyH.nil
        exact AllReadyH.nil
      exact AllReadyH.nil
    refine AllReadyH.cons (o := { dst := some 29, op := _, type := _, pos := _, after := _, guard := _ }) rfl (fun K hK => ?_) ?_
    · skip
      go_simp
      ((with_reducible refine (LA.out _ hw0).mono ?_); rintro e v1 ⟨rfl, hb1⟩)
      go_wp2_with fail
      have hw1 : Below W.heap.size W v1 := hw0.trans (hb1.mono hw0.size)
      refine hK.out _ _ (by (try dsimp only); exact (hw1.cell (p := ⟨gt, 0, none⟩) zt).trans d0) (fun hHeld => ?_)
      clear hK K
      try simp only [Act.put, List.setIfInBounds_toArray, List.set_cons_zero, List.set_cons_succ]
      refine wpAnyH_ready (rs := [0, 7]) (by kernel_rfl) (by simp) ?_
      refine AllReadyH.cons (o := { dst := some 26, op := _, type := _, pos := _, after := _, guard := _ }) rfl (fun K hK => ?_) ?_
      · skip
        have e0 : v1.cell? ⟨gt + 1, 0, none⟩ = some (.slice Av mv cv) := (hw1.cell (p := ⟨gt + 1, 0, none⟩) zg).trans c0
        go_simp
        refine hK.out _ _ (by (try dsimp only); exact (by assumption)) (fun hHeld => ?_)
        clear hK K
        try simp only [Act.put, List.setIfInBounds_toArray, List.set_cons_zero, List.set_cons_succ]
        refine wpAnyH_ready (rs := [7]) (by kernel_rfl) (by simp) ?_
        refine AllReadyH.cons (o := { dst := some 33, op := _, type := _, pos := _, after := _, guard := _ }) rfl (fun K hK => ?_) ?_
        · skip
          go_simp
          ((with_reducible refine (LB.out _ hw1).mono ?_); rintro e v2 ⟨rfl, hb2⟩)
          go_wp2_with fail
          have hw2 : Below W.heap.size W v2 := hw1.trans (hb2.mono hw1.size)
          have hs2 := hw2.size
          refine hK.out _ _ (by (try dsimp only); exact (hw2.cell (p := ⟨gt, 0, none⟩) zt).trans d0) (fun hHeld => ?_)
          clear hK K
          try simp only [Act.put, List.setIfInBounds_toArray, List.set_cons_zero, List.set_cons_succ]
          refine wpAnyH_take (i := 8) (oi := { dst := some 34, op := _, type := _, pos := _, after := _, guard := _ }) (v := ?v8_7) rfl (by kernel_rfl) (by kernel_rfl) (by kernel_rfl) (fun _ _ _ h => h) (Or.inl ⟨by rfl, ?hy8_7⟩) (by assumption) ?rest8_7
          case hy8_7 => (intro w hSw; (try dsimp only at hSw); go_simp <;> with_reducible rfl)
          try simp only [Act.put, List.setIfInBounds_toArray, List.set_cons_zero, List.set_cons_succ]
          refine wpAnyH_ready (rs := [9]) (by kernel_rfl) (by simp) ?_
          refine AllReadyH.cons (o := { dst := some 35, op := _, type := _, pos := _, after := _, guard := _ }) rfl (fun K hK => ?_) ?_
          · skip
            go_simp
            refine hK.out _ _ (by (try dsimp only); exact ((hw2.alloc hw2.size _).cell (p := ⟨gt, 0, none⟩) zt).trans d0) (fun hHeld => ?_)
            clear hK K
            try simp only [Act.put, List.setIfInBounds_toArray, List.set_cons_zero, List.set_cons_succ]
            refine wpAnyH_ready (rs := [10]) (by kernel_rfl) (by simp) ?_
            refine AllReadyH.cons (o := { dst := some 36, op := _, type := _, pos := _, after := _, guard := _ }) rfl (fun K hK => ?_) ?_
            · skip
              refine step_append_lies _ (by rfl) _ _ _ (by rfl) gt 3 i0 _ 1 8 Tryz.underlying27 hi hz0 hz1 hz2 rfl (by omega) (.slice Av mv cv) nn xs (by rfl) ((own_below HO.out hw2).alloc _) ⟨v2.heap.size, 0, none⟩ 1 1 [.int .i64 y] (by rfl) (by rfl) (one_new _ _ _ _ rfl) (one_int _) (by omega) (by unfold maxLen; omega) (by omega) (by simp; omega) (v2.heap.size + 1) (by simp) ?_
              intro g cap w6 hown hg hat _
              obtain ⟨c6, f6, l6, hk6, PU⟩ := biPush (k := 1) (o := .cells #[.int .i64 y] 3) (by decide) HR.out HO.out HZ.out (by omega) hw2 hown hg hat
              refine hK.out _ _ (by (try dsimp only); exact (World.cell?_of_block (a := ⟨gt, 0, none⟩) (hk6 gt (by omega) zt hnv)).trans d0) (fun hHeld => ?_)
              clear hK K
              try simp only [Act.put, List.setIfInBounds_toArray, List.set_cons_zero, List.set_cons_succ]
              refine wpAnyH_ready (rs := [11]) (by kernel_rfl) (by simp) ?_
              refine AllReadyH.cons (o := { dst := none, op := _, type := _, pos := _, after := _, guard := _ }) rfl (fun K hK => ?_) ?_
              · skip
                go_simp
                refine hK.out _ _ (by (try dsimp only); exact ((Kp.setCell w6 ⟨gt + 1, 0, none⟩ _).cell (Nat.lt_of_lt_of_le zt (by have := hg.size; simp at this; omega)) (by show ¬ gt = gt + 1; omega)).trans ((World.cell?_of_block (a := ⟨gt, 0, none⟩) (hk6 gt (by omega) zt hnv)).trans d0)) (fun hHeld => ?_)
                clear hK K
                try simp only [Act.put, List.setIfInBounds_toArray, List.set_cons_zero, List.set_cons_succ]
                refine wpAnyH_done (by kernel_rfl) ?_ _
                refine onlyN_normal ?_
                gi_wp2
                exact FIN.out _ _ _ PU
              exact AllReadyH.nil
            exact AllReadyH.nil
          exact AllReadyH.nil
        exact AllReadyH.nil
      refine AllReadyH.cons (o := { dst := some 33, op := _, type := _, pos := _, after := _, guard := _ }) rfl (fun K hK => ?_) ?_
      · skip
        go_simp
        ((with_reducible refine (LB.out _ hw1).mono ?_); rintro e v2 ⟨rfl, hb2⟩)
        go_wp2_with fail
        have hw2 : Below W.heap.size W v2 := hw1.trans (hb2.mono hw1.size)
        have hs2 := hw2.size
        refine hK.out _ _ (by (try dsimp only); exact (hw2.cell (p := ⟨gt, 0, none⟩) zt).trans d0) (fun hHeld => ?_)
        clear hK K
        try simp only [Act.put, List.setIfInBounds_toArray, List.set_cons_zero, List.set_cons_succ]
        refine wpAnyH_take (i := 8) (oi := { dst := some 34, op := _, type := _, pos := _, after := _, guard := _ }) (v := ?v8_8) rfl (by kernel_rfl) (by kernel_rfl) (by kernel_rfl) (fun _ _ _ h => h) (Or.inl ⟨by rfl, ?hy8_8⟩) (by assumption) ?rest8_8
        case hy8_8 => (intro w hSw; (try dsimp only at hSw); go_simp <;> with_reducible rfl)
        try simp only [Act.put, List.setIfInBounds_toArray, List.set_cons_zero, List.set_cons_succ]
        refine wpAnyH_ready (rs := [0, 9]) (by kernel_rfl) (by simp) ?_
        refine AllReadyH.cons (o := { dst := some 26, op := _, type := _, pos := _, after := _, guard := _ }) rfl (fun K hK => ?_) ?_
        · skip
          have e0 : v2.cell? ⟨gt + 1, 0, none⟩ = some (.slice Av mv cv) := (hw2.cell (p := ⟨gt + 1, 0, none⟩) zg).trans c0
          have zg2 := Nat.lt_of_lt_of_le zg hw2.size
          go_simp
          refine hK.out _ _ (by (try dsimp only); exact (by assumption)) (fun hHeld => ?_)
          clear hK K
          try simp only [Act.put, List.setIfInBounds_toArray, List.set_cons_zero, List.set_cons_succ]
          refine wpAnyH_ready (rs := [9]) (by kernel_rfl) (by simp) ?_
          refine AllReadyH.cons (o := { dst := some 35, op := _, type := _, pos := _, after := _, guard := _ }) rfl (fun K hK => ?_) ?_
          · skip
            go_simp
            refine hK.out _ _ (by (try dsimp only); exact ((hw2.alloc hw2.size _).cell (p := ⟨gt, 0, none⟩) zt).trans d0) (fun hHeld => ?_)
            clear hK K
            try simp only [Act.put, List.setIfInBounds_toArray, List.set_cons_zero, List.set_cons_succ]
            refine wpAnyH_ready (rs := [10]) (by kernel_rfl) (by simp) ?_
            refine AllReadyH.cons (o := { dst := some 36, op := _, type := _, pos := _, after := _, guard := _ }) rfl (fun K hK => ?_) ?_
            · skip
              refine step_append_lies _ (by rfl) _ _ _ (by rfl) gt 3 i0 _ 1 8 Tryz.underlying27 hi hz0 hz1 hz2 rfl (by omega) (.slice Av mv cv) nn xs (by rfl) ((own_below HO.out hw2).alloc _) ⟨v2.heap.size, 0, none⟩ 1 1 [.int .i64 y] (by rfl) (by rfl) (one_new _ _ _ _ rfl) (one_int _) (by omega) (by unfold maxLen; omega) (by omega) (by simp; omega) (v2.heap.size + 1) (by simp) ?_
              intro g cap w6 hown hg hat _
              obtain ⟨c6, f6, l6, hk6, PU⟩ := biPush (k := 1) (o := .cells #[.int .i64 y] 3) (by decide) HR.out HO.out HZ.out (by omega) hw2 hown hg hat
              refine hK.out _ _ (by (try dsimp only); exact (World.cell?_of_block (a := ⟨gt, 0, none⟩) (hk6 gt (by omega) zt hnv)).trans d0) (fun hHeld => ?_)
              clear hK K
              try simp only [Act.put, List.setIfInBounds_toArray, List.set_cons_zero, List.set_cons_succ]
              refine wpAnyH_ready (rs := [11]) (by kernel_rfl) (by simp) ?_
              refine AllReadyH.cons (o := { dst := none, op := _, type := _, pos := _, after := _, guard := _ }) rfl (fun K hK => ?_) ?_
              · skip
                go_simp
                refine hK.out _ _ (by (try dsimp only); exact ((Kp.setCell w6 ⟨gt + 1, 0, none⟩ _).cell (Nat.lt_of_lt_of_le zt (by have := hg.size; simp at this; omega)) (by show ¬ gt = gt + 1; omega)).trans ((World.cell?_of_block (a := ⟨gt, 0, none⟩) (hk6 gt (by omega) zt hnv)).trans d0)) (fun hHeld => ?_)
                clear hK K
                try simp only [Act.put, List.setIfInBounds_toArray, List.set_cons_zero, List.set_cons_succ]
                refine wpAnyH_done (by kernel_rfl) ?_ _
                refine onlyN_normal ?_
                gi_wp2
                exact FIN.out _ _ _ PU
              exact AllReadyH.nil
            exact AllReadyH.nil
          exact AllReadyH.nil
        refine AllReadyH.cons (o := { dst := some 35, op := _, type := _, pos := _, after := _, guard := _ }) rfl (fun K hK => ?_) ?_
        · skip
          go_simp
          refine hK.out _ _ (by (try dsimp only); exact ((hw2.alloc hw2.size _).cell (p := ⟨gt, 0, none⟩) zt).trans d0) (fun hHeld => ?_)
          clear hK K
          try simp only [Act.put, List.setIfInBounds_toArray, List.set_cons_zero, List.set_cons_succ]
          refine wpAnyH_ready (rs := [0]) (by kernel_rfl) (by simp) ?_
          refine AllReadyH.cons (o := { dst := some 26, op := _, type := _, pos := _, after := _, guard := _ }) rfl (fun K hK => ?_) ?_
          · skip
            have e0 : v2.cell? ⟨gt + 1, 0, none⟩ = some (.slice Av mv cv) := (hw2.cell (p := ⟨gt + 1, 0, none⟩) zg).trans c0
            have zg2 := Nat.lt_of_lt_of_le zg hw2.size
            go_simp
            refine hK.out _ _ (by (try dsimp only); exact (by assumption)) (fun hHeld => ?_)
            clear hK K
            try simp only [Act.put, List.setIfInBounds_toArray, List.set_cons_zero, List.set_cons_succ]
            refine wpAnyH_ready (rs := [10]) (by kernel_rfl) (by simp) ?_
            refine AllReadyH.cons (o := { dst := some 36, op := _, type := _, pos := _, after := _, guard := _ }) rfl (fun K hK => ?_) ?_
            · skip
              refine step_append_lies _ (by rfl) _ _ _ (by rfl) gt 3 i0 _ 1 8 Tryz.underlying27 hi hz0 hz1 hz2 rfl (by omega) (.slice Av mv cv) nn xs (by rfl) ((own_below HO.out hw2).alloc _) ⟨v2.heap.size, 0, none⟩ 1 1 [.int .i64 y] (by rfl) (by rfl) (one_new _ _ _ _ rfl) (one_int _) (by omega) (by unfold maxLen; omega) (by omega) (by simp; omega) (v2.heap.size + 1) (by simp) ?_
              intro g cap w6 hown hg hat _
              obtain ⟨c6, f6, l6, hk6, PU⟩ := biPush (k := 1) (o := .cells #[.int .i64 y] 3) (by decide) HR.out HO.out HZ.out (by omega) hw2 hown hg hat
              refine hK.out _ _ (by (try dsimp only); exact (World.cell?_of_block (a := ⟨gt, 0, none⟩) (hk6 gt (by omega) zt hnv)).trans d0) (fun hHeld => ?_)
              clear hK K
              try simp only [Act.put, List.setIfInBounds_toArray, List.set_cons_zero, List.set_cons_succ]
              refine wpAnyH_ready (rs := [11]) (by kernel_rfl) (by simp) ?_
              refine AllReadyH.cons (o := { dst := none, op := _, type := _, pos := _, after := _, guard := _ }) rfl (fun K hK => ?_) ?_
              · skip
                go_simp
                refine hK.out _ _ (by (try dsimp only); exact ((Kp.setCell w6 ⟨gt + 1, 0, none⟩ _).cell (Nat.lt_of_lt_of_le zt (by have := hg.size; simp at this; omega)) (by show ¬ gt = gt + 1; omega)).trans ((World.cell?_of_block (a := ⟨gt, 0, none⟩) (hk6 gt (by omega) zt hnv)).trans d0)) (fun hHeld => ?_)
                clear hK K
                try simp only [Act.put, List.setIfInBounds_toArray, List.set_cons_zero, List.set_cons_succ]
                refine wpAnyH_done (by kernel_rfl) ?_ _
                refine onlyN_normal ?_
                gi_wp2
                exact FIN.out _ _ _ PU
              exact AllReadyH.nil
            exact AllReadyH.nil
          exact AllReadyH.nil
        exact AllReadyH.nil
      exact AllReadyH.nil
    exact AllReadyH.nil
  case done =>
    rintro D' ys W hD hys ⟨⟨v, hr, ho, hd⟩, hB⟩ hK
    subst hys
    rw [List.length_range, biOv_all RO.out EG.out, ← bins_len l L E] at ho
    obtain ⟨A', m', c', rfl⟩ := own_slice ho
    have c0 : W.cell? ⟨w2.heap.size + 1, 0, none⟩ = some (.slice A' m' c') := hr.cellAt 0 (by omega)
    have OW : OwnI 3 (W.putObj D' (.deferred none)) w2.heap.size (.slice A' m' c') (binsN l L E) := row_grown ho (grownBy_putObj' W D' (.deferred none)) (fun r e => by cases e; exact ⟨_, hK, rfl⟩)
    have RN := Lib.hid (ownI_ints OW)
    have CC : m' ≤ c' := by
      rcases ownI_form OW with ⟨hv, _⟩ | ⟨g', cap', hv, _, _, q, _⟩
      · cases hv; omega
      · cases hv; omega
    have BN := Lib.hid (B2.out.trans ((hB.trans (belowK_b (w := W0) B5.out.size W D' _ (.deferred none) hD hK rfl rfl)).mono B2.out.size))
    clear hr ho hd hB OW
    gi_wp2
    refine ⟨by simp, .inl ⟨_, _, rfl, run_takeDeferred hK, ?_⟩⟩
    exact ⟨.tuple #[.slice A' m' c', .int .i64 0], by simp [results, Tryz.f9, go_sem], ⟨_, _, _, rfl, RN.out, CC⟩, BN.out⟩
  case stop =>
    rintro D' c pre W _ _ h _
    exact h.elim
theorem biOf_nil {A : Option Addr} {n c : Nat} (w : World) : Calls Tryz.prog 9 #[.pointer none, .slice A n c] w fun e w' => (∃ A c, e = .returned (.tuple #[.slice A 0 c, .int .i64 1])) ∧ Below w.heap.size w w' := by
  refine (callsIn_wide (n := 5)).1 (callsIn_of_wp_marks Tryz.func9 rfl trivial ?_ rfl)
  simp only [Tryz.ntmps9, List.size_toArray, List.length_cons, List.length_nil, Nat.reduceAdd, Nat.reduceSub, Array.replicate_succ, Array.replicate_zero, List.push_toArray, List.append_toArray, List.nil_append, List.cons_append]
  gi_wp2
  refine ⟨trivial, (callsIn_wide.2 (biRefused_nil _ _)).mono ?_⟩
  rintro e w1 ⟨rfl, hb1⟩
  gi_wp2
  exact ⟨.tuple #[.slice none 0 0, .int .i64 1], by simp [results, Tryz.f9, go_sem], ⟨_, _, rfl⟩, hb1⟩
theorem biOf_no {B q p g h : Nat} {kd l k : Int} {m : Nat} {L : List Nd} {A : Option Addr} {n c : Nat} {E : List Int} (w : World) (d : DgA w B q p g h kd l k m L) (hm : m ≤ 400) (hE : IntsAt w (.slice A n c) E) (UB : Bds E) (hn : n ≤ 100) (he : egB l E = false) :
    Calls Tryz.prog 9 #[.pointer (some ⟨q, 0, none⟩), .slice A n c] w fun e w' => (∃ A c, e = .returned (.tuple #[.slice A 0 c, .int .i64 8])) ∧ Below w.heap.size w w' := by
  have RF := Lib.hid (biRefused_any w d hE UB (by omega))
  rw [he] at RF
  simp only [Bool.false_eq_true, if_false] at RF
  clear d hE UB
  refine (callsIn_wide (n := 5)).1 (callsIn_of_wp_marks Tryz.func9 rfl trivial ?_ rfl)
  simp only [Tryz.ntmps9, List.size_toArray, List.length_cons, List.length_nil, Nat.reduceAdd, Nat.reduceSub, Array.replicate_succ, Array.replicate_zero, List.push_toArray, List.append_toArray, List.nil_append, List.cons_append]
  gi_wp2
  refine ⟨trivial, (callsIn_wide.2 RF.out).mono ?_⟩
  rintro e w1 ⟨rfl, hb1⟩
  gi_wp2
  exact ⟨.tuple #[.slice none 0 0, .int .i64 8], by simp [results, Tryz.f9, go_sem], ⟨_, _, rfl⟩, hb1⟩
theorem biO : BiO where
  bof_nil := fun w h u => biOf_nil w
  bof_no := fun w d hm h u hn he => biOf_no w d hm h u hn he
  bof_yes := fun w d hm h u hn he => (callsIn_wide.1 (biOf_in w d hm h u hn he)).mono fun e w' ⟨⟨A2, n2, c2, h1, h2, _⟩, h3⟩ => ⟨⟨A2, n2, c2, h1, h2⟩, h3⟩
  bof_own := fun w d hm h u hn he => callsIn_wide.1 (biOf_in w d hm h u hn he)
end Go.Proofs.YtnhagdlpidgkcaaGreat
