/- Texts laid together: BiRef, BiRef2, BiRef3, BiRef4. -/
import Derived.Test.YtnhagdlpidgkcaaGreatBiK
import Derived.Test.YtnhagdlpidgkcaaGreatRnkRef
import Derived.Test.YtnhagdlpidgkcaaGreatReK
import Derived.Deep.RegionWith
import Derived.Deep.Cut
import Derived.Deep.DeepCutAuto
import Derived.Test.YtnhagdlpidgkcaaGreatReR
import Derived.Test.YtnhagdlpidgkcaaGreatQuRef
import Derived.Test.YtnhagdlpidgkcaaGreatRfQ
namespace Go.Proofs.YtnhagdlpidgkcaaGreat
set_option linter.unusedVariables false
set_option maxRecDepth 100000
open Go.RowKit
/-- low of a bin's number, whatever it is -/
def lwI (l : Int) (L : List Nd) (E : List Int) (i : Int) : Int := if i < 0 then 0 else lwE l L E i.toNat
theorem lwI_at (l : Int) (L : List Nd) (E : List Int) (i : Nat) : lwI l L E i = lwE l L E i := by
  unfold lwI; rw [if_neg (by omega), Int.toNat_natCast]
theorem binW_lwI (l : Int) (L : List Nd) (E : List Int) (i : Nat) : binW l L E i = lwI l L E i - lwI l L E ((i : Int) - 1) := by
  rw [lwI_at]
  unfold binW lwI
  by_cases z : i = 0
  · subst z; simp
  · rw [if_neg z, if_neg (by omega), show ((i : Int) - 1).toNat = i - 1 by omega]
theorem bi_at {w : World} {A : Option Addr} {n c i : Nat} {S : List Int} (h : IntsAt w (.slice A n c) S) (hi : i < n) : ∃ b o, A = some ⟨b, o, none⟩ ∧ b < w.heap.size ∧ w.cell? ⟨b, o + i, none⟩ = some (.int .i64 (S.getD i 0)) := by
  obtain ⟨e, hc⟩ := ints_cells h
  obtain ⟨b, o, h1, h2, h3⟩ := hc (by omega)
  exact ⟨b, o, h1, h2, h3 i (by omega)⟩
theorem bi_keep3 {a b : World} {p : Nat} {x y z : Value} (h : a.cell? ⟨p, 0, none⟩ = some x ∧ a.cell? ⟨p, 1, none⟩ = some y ∧ a.cell? ⟨p, 2, none⟩ = some z) (hb : Below a.heap.size a b) (hp : p < a.heap.size) : b.cell? ⟨p, 0, none⟩ = some x ∧ b.cell? ⟨p, 1, none⟩ = some y ∧ b.cell? ⟨p, 2, none⟩ = some z :=
  ⟨(hb.cell (p := ⟨p, 0, none⟩) hp).trans h.1, (hb.cell (p := ⟨p, 1, none⟩) hp).trans h.2.1, (hb.cell (p := ⟨p, 2, none⟩) hp).trans h.2.2⟩
theorem bi_keep3g {W w1 w2 : World} {base size n p : Nat} {e : TypeId} {v : Value} {xs : List Value} {x y z : Value} (h : W.cell? ⟨p, 0, none⟩ = some x ∧ W.cell? ⟨p, 1, none⟩ = some y ∧ W.cell? ⟨p, 2, none⟩ = some z) (hown : w1.ownsRow base e size v n xs) (hg : W.grownBy w2 v.ownBlock)
    (hp : p < base) (hz : base ≤ W.heap.size) : w2.cell? ⟨p, 0, none⟩ = some x ∧ w2.cell? ⟨p, 1, none⟩ = some y ∧ w2.cell? ⟨p, 2, none⟩ = some z := by
  have k : ∀ o, w2.cell? ⟨p, o, none⟩ = W.cell? ⟨p, o, none⟩ := fun o => grown_cell hg (by dsimp only; omega) fun e => by have := (World.ownsRow.lt hown _ e.symm).1; dsimp only at this; omega
  exact ⟨(k 0).trans h.1, (k 1).trans h.2.1, (k 2).trans h.2.2⟩
set_option maxHeartbeats 3200000 in
theorem rBiRight_any (l : Int) (A : Option Addr) (n c : Nat) (E : List Int) (w : World) (h : IntsAt w (.slice A n c) E) (UB : Bds E) (hn : n ≤ 1000000) (L0 : -9223372036854775808 ≤ l) (L1 : l ≤ 9223372036854775807) :
    Calls Tryz.prog 15 #[.int .i64 l, .slice A n c] w fun e w' => e = .returned (.bool (egB l E)) ∧ Below w.heap.size w w' := by
  have HL := Lib.hid (ints_cells h).1
  have HA := Lib.hid h
  have HB := Lib.hid UB
  have LF := Lib.hid (fun x v a b => rleaf_any l x v L0 L1 a b)
  have IS := Lib.hid (fun v => rIs_any l v L0 L1)
  obtain ⟨Z, hZ⟩ : ∃ Z, Z = egB l E := ⟨_, rfl⟩
  rw [← hZ]
  have ZZ := Lib.hid hZ
  clear h UB hZ
  go_enter Tryz.func15, Tryz.ntmps15
  go_wp2_with fail
  go_loopw [5] (fun i wr => ∃ j : Nat, j ≤ n ∧ i = .int .i64 j ∧ Hid (∀ i, i < j → EgP l E i) ∧ Below w.heap.size w wr) (fun i _ => n - (intOf i).toNat)
  case atStart => exact ⟨0, by omega, rfl, Lib.hid (fun i hi => absurd hi (by omega)), Below.refl _ _⟩
  case round =>
    obtain ⟨j, hj, rfl, hz, hbw⟩ := hrel
    have BW := Lib.hid hbw
    have EP := Lib.hid hz.out
    clear hz hbw
    by_cases hlt : j < n
    · have hjl : j < E.length := by have := HL.out; omega
      obtain ⟨b, o, rfl, hbz, e0⟩ := bi_at (HA.out.below BW.out) hlt
      have bd := bds_at HB.out hjl
      have j0 : (0 : Int) ≤ (j : Int) := Int.natCast_nonneg _
      have j1 : (j : Int) < (n : Int) := by omega
      have LFx := Lib.hid (LF.out (E.getD j 0) wr bd.1 bd.2)
      cases hlf : leafB l (E.getD j 0)
      · have NO : Z = false := ZZ.out.trans (eg_no hjl (fun q => by rw [q.1] at hlf; cases hlf))
        rw [hlf] at LFx
        subst NO
        clear hlf ZZ
        generalize leafN l (E.getD j 0) = lf at *
        generalize E.getD j 0 = x at *
        go_wp2_with (go_at_call 39; refine LFx.out.mono ?_; rintro e w4 ⟨rfl, rfl⟩)
        go_quiet (fail)
        go_wp2_with fail
        go_ret
        exact ⟨rfl, below_drewN BW.out _⟩
      · rw [hlf] at LFx
        by_cases z : j = 0
        · have EN : ∀ i, i < j + 1 → EgP l E i := fun i hi => by
            have : i = j := by omega
            subst this
            exact ⟨hlf, fun q => absurd q (by omega)⟩
          have EN1 := Lib.hid EN
          have zp : ¬ (0 : Int) < (j : Int) := by omega
          have zp2 : ¬ 0 < j := by omega
          have zp3 : decide (0 < j) = false := decide_eq_false zp2
          clear EN hlf z
          generalize leafN l (E.getD j 0) = lf at *
          generalize E.getD j 0 = x at *
          go_wp2_with (go_at_call 39; refine LFx.out.mono ?_; rintro e w4 ⟨rfl, rfl⟩)
          go_quiet (fail)
          go_wp2_with fail
          go_roundw
          case rel => exact ⟨j + 1, by omega, by go_num, EN1, below_drewN BW.out _⟩
          case measure => simp [intOf]; omega
        · obtain ⟨j', rfl⟩ : ∃ j', j = j' + 1 := ⟨j - 1, by omega⟩
          obtain ⟨b2, o2, hbo, hbz2, e2⟩ := bi_at (HA.out.below BW.out) (show j' < n by omega)
          injection hbo with hbo
          injection hbo with hb2 ho2
          subst hb2 ho2
          have hw : ((j' + 1 : Nat) : Int) - 1 = (j' : Int) := by omega
          have hpos : (0 : Int) < ((j' + 1 : Nat) : Int) := by omega
          have hj'0 : (0 : Int) ≤ (j' : Int) := by omega
          have hj'1 : (j' : Int) < (n : Int) := by omega
          have hwr : wrap64 (((j' + 1 : Nat) : Int) - 1) = (j' : Int) := by
            rw [IntWalk.wrap64_in _ (by omega)]; omega
          by_cases le : E.getD (j' + 1) 0 ≤ E.getD j' 0
          · have NO : Z = false := ZZ.out.trans (eg_no hjl (fun q => by
              have := q.2 (by omega)
              rw [Nat.add_sub_cancel] at this
              omega))
            subst NO
            clear hlf hw ZZ
            generalize leafN l (E.getD (j' + 1) 0) = lf at *
            generalize E.getD (j' + 1) 0 = x at *
            generalize E.getD j' 0 = y at *
            go_wp2_with (go_at_call 39; refine LFx.out.mono ?_; rintro e w4 ⟨rfl, rfl⟩)
            go_quiet (fail)
            go_wp2_with fail
            go_ret
            exact ⟨rfl, below_drewN BW.out _⟩
          · have EN : ∀ i, i < j' + 1 + 1 → EgP l E i := fun i hi => by
              rcases Nat.lt_or_ge i (j' + 1) with g | g
              · exact EP.out i g
              · have : i = j' + 1 := by omega
                subst this
                exact ⟨hlf, fun _ => by rw [Nat.add_sub_cancel]; omega⟩
            have EN1 := Lib.hid EN
            clear EN hlf hw
            generalize leafN l (E.getD (j' + 1) 0) = lf at *
            generalize E.getD (j' + 1) 0 = x at *
            generalize E.getD j' 0 = y at *
            go_wp2_with (go_at_call 39; refine LFx.out.mono ?_; rintro e w4 ⟨rfl, rfl⟩)
            go_quiet (fail)
            go_wp2_with fail
            go_roundw
            case rel => exact ⟨j' + 1 + 1, by omega, by go_num, EN1, below_drewN BW.out _⟩
            case measure => simp [intOf]; omega
    · obtain rfl : j = n := by omega
      have eu : Z = uniB l := by
        rw [ZZ.out]
        cases hu : uniB l
        · unfold egB; rw [hu]; rfl
        · exact eg_iff.2 ⟨hu, fun i hi => EP.out i (by have := HL.out; omega)⟩
      subst eu
      go_wp2_with (go_at_call 40; refine (IS.out _).mono ?_; rintro e w4 ⟨rfl, rfl⟩)
      go_ret
      exact ⟨rfl, BW.out⟩
set_option maxHeartbeats 3200000 in
theorem rBiLow_any {l : Int} (k i : Int) (A : Option Addr) (n c : Nat) (L : List Nd) (A1 : Option Addr) (n1 c1 : Nat) (E : List Int) (w : World) (h : NodesAt w (.slice A n c) L) (hr : RollC l L) (hn : n ≤ 1000) (hE : IntsAt w (.slice A1 n1 c1) E) (UB : Bds E) (hn1 : n1 ≤ 1000000) (i0 : -1 ≤ i) (i1 : i ≤ n1) :
    Calls Tryz.prog 36 #[.agg #[.int .i64 k, .int .i64 l, .slice A n c], .slice A1 n1 c1, .int .i64 i] w fun e w' => e = .returned (.int .i64 (lwI l L E i)) ∧ Below w.heap.size w w' := by
  have X0 := Lib.hid (tri_nw w 35 (.int .i64 k) (.int .i64 l) (.slice A n c))
  have HB0 : Hid (Below w.heap.size w (w.alloc (.cells #[.int .i64 k, .int .i64 l, .slice A n c] 35))) := (Below.refl _ _).alloc (Nat.le_refl _) _
  obtain ⟨x0, x1, x2, _, _, _, hz⟩ := tri_all X0.out
  have HL := (ints_cells hE).1
  by_cases c0 : i < 0
  · have e : lwI l L E i = 0 := if_pos c0
    rw [e]
    clear e h hr hE UB X0 HL
    go_enter Tryz.func36, Tryz.ntmps36
    go_wp2_with fail
    go_ret
    exact ⟨rfl, HB0.out⟩
  · by_cases c1' : (n1 : Int) ≤ i
    · have e : lwI l L E i = sumC L := by
        unfold lwI lwE
        rw [if_neg c0, if_neg (by omega)]
      rw [e]
      have WT := Lib.hid (rDgWeight_any l k A n c L _ (h.below HB0.out) hr hn)
      clear e h hr hE UB X0 HL
      go_enter Tryz.func36, Tryz.ntmps36
      go_wp2_with (go_at_call 46; refine WT.out.mono ?_; rintro e w2 ⟨rfl, hb2⟩)
      go_ret
      exact ⟨rfl, HB0.out.trans (hb2.mono HB0.out.size)⟩
    · obtain ⟨j, rfl⟩ : ∃ j : Nat, i = (j : Int) := ⟨i.toNat, by omega⟩
      have hj : j < n1 := by omega
      have e : lwI l L E j = lowR l L (E.getD j 0) := by
        rw [lwI_at]; unfold lwE; rw [if_pos (by omega)]
      rw [e]
      have bd := bds_at UB (show j < E.length by omega)
      obtain ⟨b, o, rfl, hbz, e0⟩ := bi_at (hE.below HB0.out) hj
      have LW := Lib.hid (fun v (hb : Below w.heap.size w v) => rRnkLow_any (l := l) (E.getD j 0) A n c L v (h.below hb) hr hn bd.1 bd.2)
      have j0 : (0 : Int) ≤ (j : Int) := Int.natCast_nonneg _
      have j1 : (j : Int) < (n1 : Int) := by omega
      clear e h hr hE UB HL
      generalize E.getD j 0 = x at *
      generalize lowR l L x = y at *
      go_enter Tryz.func36, Tryz.ntmps36
      go_upto_region 5 with fail
      generalize w.alloc (.cells #[.int .i64 k, .int .i64 l, .slice A n c] 35) = W at *
      go_still_tail 10, (by kernel_rfl)
      change wpList _ _ _ _ _ (World.drew W)
      go_wp2_with (go_at_call 74; refine (LW.out _ (HB0.out.trans ((below_drew W).mono HB0.out.size))).mono ?_; rintro e w2 ⟨rfl, hb2⟩)
      go_ret
      exact ⟨rfl, (HB0.out.trans ((below_drew W).mono HB0.out.size)).trans (hb2.mono HB0.out.size)⟩
theorem biInt_info : (Tryz.prog.info? 3).map (fun i => (i.zero, i.size, i.bytes)) = some (some (.int .i64 0), 1, 8) := by kernel_rfl
set_option maxHeartbeats 1600000 in
theorem rBiOf_no {l : Int} (k : Int) (A : Option Addr) (n c : Nat) (A1 : Option Addr) (n1 c1 : Nat) (E : List Int) (w : World) (hE : IntsAt w (.slice A1 n1 c1) E) (UB : Bds E) (hn1 : n1 ≤ 1000000) (L0 : -9223372036854775808 ≤ l) (L1 : l ≤ 9223372036854775807) (he : egB l E = false) :
    Calls Tryz.prog 12 #[.agg #[.int .i64 k, .int .i64 l, .slice A n c], .slice A1 n1 c1] w fun e w' => e = .returned (.tuple #[.slice none 0 0, .int .i64 8]) ∧ Below w.heap.size w w' := by
  have X0 := Lib.hid (tri_nw w 35 (.int .i64 k) (.int .i64 l) (.slice A n c))
  have HB0 : Hid (Below w.heap.size w (w.alloc (.cells #[.int .i64 k, .int .i64 l, .slice A n c] 35))) := (Below.refl _ _).alloc (Nat.le_refl _) _
  obtain ⟨x0, x1, x2, _, _, _, hz⟩ := tri_all X0.out
  have RT := Lib.hid (rBiRight_any l A1 n1 c1 E _ (hE.below HB0.out) UB hn1 L0 L1)
  rw [he] at RT
  clear hE UB he X0
  go_enter Tryz.func12, Tryz.ntmps12
  go_wp2_with (go_at_call 15; refine RT.out.mono ?_; rintro e w2 ⟨rfl, hb2⟩)
  go_ret2
  exact ⟨rfl, HB0.out.trans (hb2.mono HB0.out.size)⟩
set_option maxHeartbeats 6400000 in
theorem rBiOf_yes {l : Int} (k : Int) (A : Option Addr) (n c : Nat) (L : List Nd) (A1 : Option Addr) (n1 c1 : Nat) (E : List Int) (w : World) (h : NodesAt w (.slice A n c) L) (hr : RollC l L) (hn : n ≤ 1000) (hE : IntsAt w (.slice A1 n1 c1) E) (UB : Bds E) (hn1 : n1 ≤ 1000) (L0 : -9223372036854775808 ≤ l) (L1 : l ≤ 9223372036854775807) (he : egB l E = true) :
    Calls Tryz.prog 12 #[.agg #[.int .i64 k, .int .i64 l, .slice A n c], .slice A1 n1 c1] w fun e w' => (∃ A2 n2 c2, e = .returned (.tuple #[.slice A2 n2 c2, .int .i64 0]) ∧ IntsAt w' (.slice A2 n2 c2) (binsN l L E)) ∧ Below w.heap.size w w' := by
  obtain ⟨i0, hi, hz0, hz1, hz2⟩ := info_parts biInt_info
  have X0 := Lib.hid (tri_nw w 35 (.int .i64 k) (.int .i64 l) (.slice A n c))
  have HB0 : Hid (Below w.heap.size w (w.alloc (.cells #[.int .i64 k, .int .i64 l, .slice A n c] 35))) := (Below.refl _ _).alloc (Nat.le_refl _) _
  obtain ⟨x0, x1, x2, _, _, _, hz⟩ := tri_all X0.out
  have RT := Lib.hid (rBiRight_any l A1 n1 c1 E _ (hE.below HB0.out) UB (by omega) L0 L1)
  rw [he] at RT
  have LW := Lib.hid (fun i v (hb : Below w.heap.size w v) a b => rBiLow_any (l := l) k i A n c L A1 n1 c1 E v (h.below hb) hr hn (hE.below hb) UB (by omega) a b)
  have HL := Lib.hid (ints_cells hE).1
  have EC := Lib.hid (eg_yes he)
  have RO := Lib.hid hr
  clear h hr hE UB he
  go_enter Tryz.func12, Tryz.ntmps12
  go_upto_region 1 with fail
  generalize w.alloc (.cells #[.int .i64 k, .int .i64 l, .slice A n c] 35) = W at *
  go_wp2_with fail
  refine RT.out.mono ?_
  rintro e w2 ⟨rfl, hb2⟩
  have B2 := Lib.hid (HB0.out.trans (hb2.mono HB0.out.size))
  have X2 := Lib.hid (own_below X0.out hb2)
  clear hb2 RT x0 x1 x2 hz X0
  go_wp2_with fail
  go_loopw [6, 7] (fun v i wr => ∃ j : Nat, j ≤ n1 + 1 ∧ i = .int .i64 j ∧ OwnI 3 wr w2.heap.size v ((List.range j).map (binW l L E)) ∧ Below w2.heap.size w2 wr) (fun _ i _ => n1 + 1 - (intOf i).toNat)
  case atStart => exact ⟨0, by omega, rfl, ownI_nil .., Below.refl _ _⟩
  case round =>
    obtain ⟨j, hj, rfl, ho, hb⟩ := hrel
    have BW := Lib.hid hb
    have OO := Lib.hid ho
    clear ho hb
    by_cases hlt : j ≤ n1
    · have j0 : (0 : Int) ≤ (j : Int) := Int.natCast_nonneg _
      have j1 : (j : Int) ≤ (n1 : Int) := by omega
      have TK := Lib.hid (range_snoc (binW l L E) j)
      have bb := bin_bd RO.out EC.out j
      have ba := lw_bd RO.out E j
      have bc : 0 ≤ lwI l L E ((j : Int) - 1) ∧ lwI l L E ((j : Int) - 1) ≤ 72057594037927935 := by
        unfold lwI
        split
        · omega
        · exact lw_bd RO.out E _
      rw [binW_lwI] at bb TK
      rw [← lwI_at] at ba
      have TL : ((List.range j).map (binW l L E)).length ≤ 1001 := by simp; omega
      obtain ⟨jm, hjm⟩ : ∃ jm : Int, jm = (j : Int) - 1 := ⟨_, rfl⟩
      have hwj : wrap64 ((j : Int) - 1) = jm := by rw [IntWalk.wrap64_in _ (by omega)]; omega
      have hwj2 : IntKind.i64.wrap ((j : Int) - 1) = jm := by rw [IntKind.wrap_i64]; omega
      rw [← hjm] at bb bc TK
      have LA := Lib.hid (fun v (hb : Below w.heap.size w v) => LW.out (j : Int) v hb (by omega) (by omega))
      have LB := Lib.hid (fun v (hb : Below w.heap.size w v) => LW.out jm v hb (by omega) (by omega))
      have BR := Lib.hid (B2.out.trans (BW.out.mono B2.out.size))
      have XR := Lib.hid (own_below X2.out BW.out)
      clear hjm
      generalize (List.range j).map (binW l L E) = P at *
      generalize lwI l L E jm = y at *
      generalize lwI l L E (j : Int) = x at *
      obtain ⟨x0, x1, x2, _, _, _, hz⟩ := tri_all XR.out
      have wxy : wrap64 (x - y) = x - y := IntWalk.wrap64_in _ (by omega)
      have wxy2 : IntKind.i64.wrap (x - y) = x - y := by rw [IntKind.wrap_i64]; omega
      go_upto_region 7 with fail
      obtain ⟨Av, mv, cv, rfl⟩ := own_slice OO.out
      have sz := BW.out.size
      have s2 := B2.out.size
      have hzw := (tri_all X2.out).2.2.2.2.2.2
      go_region_held3 (fun w' => w'.cell? ⟨w.heap.size, 0, none⟩ = some (.int .i64 k) ∧ w'.cell? ⟨w.heap.size, 1, none⟩ = some (.int .i64 l) ∧ w'.cell? ⟨w.heap.size, 2, none⟩ = some (.slice A n c))
        (first | assumption | (exact ⟨x0, x1, x2⟩) | (exact bi_keep3 ⟨x0, x1, x2⟩ hw1 (by omega)) | (exact bi_keep3 ⟨x0, x1, x2⟩ hw2 (by omega)) | (exact bi_keep3 ⟨x0, x1, x2⟩ (hw2.alloc (by omega) _) (by omega)) | (exact bi_keep3g (bi_keep3 ⟨x0, x1, x2⟩ (hw2.alloc (by omega) _) (by omega)) OO.out hgrow hzw (by simp; omega)))
        (first
          | (go_at_call 36; (with_reducible refine (LA.out _ (BR.out.trans ((below_drew wr).mono BR.out.size))).mono ?_); rintro e v1 ⟨rfl, hb1⟩; have hw1 : Below wr.heap.size wr v1 := (below_drew wr).trans hb1; have hs1 := hw1.size)
          | (go_at_call 36; refine (LB.out _ (BR.out.trans (hw1.mono BR.out.size))).mono ?_; rintro e v2 ⟨rfl, hb2⟩; have hw2 : Below wr.heap.size wr v2 := hw1.trans (hb2.mono hw1.size); have hs2 := hw2.size)
          | (refine step_append_lies _ (by rfl) _ _ _ (by rfl) w2.heap.size 3 i0 _ 1 8 Tryz.underlying27 hi hz0 hz1 hz2 rfl (by omega) (.slice Av mv cv) P.length (ints P) (by rfl) ((own_below OO.out hw2).alloc _) ⟨v2.heap.size, 0, none⟩ 1 1 [.int .i64 (x - y)] (by rfl) (by rfl) (one_new _ _ _ _ rfl) (one_int _) (by omega) (by unfold maxLen; omega) (by omega) (by simp; omega) (v2.heap.size + 1) (by simp) ?_; intro gg cap w4 hown2 hgrow hat2 hlt2))
      have B4 := Lib.hid (((BW.out.trans (hw2.mono BW.out.size)).alloc (by omega) (.cells #[.int .i64 (x - y)] 3)).grown hgrow (by simp; omega) (fun g hg => (World.ownsRow.lt OO.out g hg).1))
      have O4 := Lib.hid (ownI_snoc rfl hown2)
      clear hown2 hgrow hat2
      go_wp2_with fail
      go_roundw
      case rel => exact ⟨j + 1, by omega, by go_num, by rw [TK.out]; exact O4.out, B4.out⟩
      case measure => simp [intOf]; omega
    · obtain rfl : j = n1 + 1 := by omega
      have en : (List.range (n1 + 1)).map (binW l L E) = binsN l L E := by unfold binsN; rw [HL.out]
      rw [en] at OO
      obtain ⟨A3, m3, c3, rfl⟩ := own_slice OO.out
      have I3 := Lib.hid (ownI_ints OO.out)
      have jj : ¬ ((n1 + 1 : Nat) : Int) ≤ (n1 : Int) := by omega
      clear en OO
      go_wp2_with fail
      go_ret2
      exact ⟨⟨_, _, _, rfl, I3.out⟩, B2.out.trans (BW.out.mono B2.out.size)⟩
end Go.Proofs.YtnhagdlpidgkcaaGreat
namespace Go.Proofs.YtnhagdlpidgkcaaGreat
set_option linter.unusedVariables false
set_option maxRecDepth 100000
open Go.RowKit
theorem bnd_be (l : Int) (L : List Nd) (E : List Int) (i : Nat) : bndW l L E i = (beL l L (frE E i) (toE l E i), beH l L (frE E i) (toE l E i)) := by
  unfold bndW beL beH
  split <;> rfl
set_option maxHeartbeats 1600000 in
theorem rBiRun_any (l : Int) (A : Option Addr) (n c : Nat) (E : List Int) (i : Nat) (w : World) (h : IntsAt w (.slice A n c) E) (e : EgC l E) (hn : n ≤ 1000000) (hi : i ≤ n) :
    Calls Tryz.prog 26 #[.int .i64 l, .slice A n c, .int .i64 (i : Int)] w fun e w' => e = .returned (.tuple #[.int .i64 (frE E i), .int .i64 (toE l E i)]) ∧ Below w.heap.size w w' := by
  have HL := (ints_cells h).1
  have u := e.uni
  have p : (2 : Int) ^ l.toNat ≤ 281474976710656 := two_le l.toNat 48 (by omega)
  have p0 : (0 : Int) < 2 ^ l.toNat := two_pos _
  have PW := Lib.hid (fun v => rpower_any l v (by omega) (by omega))
  have i0 : (0 : Int) ≤ (i : Int) := Int.natCast_nonneg _
  by_cases z : i = 0
  · have ef : frE E i = 0 := if_pos z
    have zp : ¬ (0 : Int) < (i : Int) := by omega
    have zp2 : ¬ 0 < i := by omega
    rw [ef]
    by_cases q : i < n
    · have et : toE l E i = E.getD i 0 := if_pos (by omega)
      obtain ⟨b, o, rfl, hbz, e0⟩ := bi_at h q
      have i1 : (i : Int) < (n : Int) := by omega
      rw [et]
      clear ef et e h HL z
      generalize E.getD i 0 = x at *
      go_enter Tryz.func26, Tryz.ntmps26
      go_wp2_with (go_at_call 58; refine (PW.out _).mono ?_; rintro e w1 ⟨rfl, rfl⟩)
      go_ret2
      exact ⟨rfl, Below.refl _ _⟩
    · have et : toE l E i = 2 ^ l.toNat - 1 := if_neg (by omega)
      have i1 : ¬ (i : Int) < (n : Int) := by omega
      have hw : wrap64 (2 ^ l.toNat - 1) = 2 ^ l.toNat - 1 := IntWalk.wrap64_in _ (by omega)
      rw [et]
      clear ef et e h HL z
      generalize (2 : Int) ^ l.toNat = pw at *
      go_enter Tryz.func26, Tryz.ntmps26
      go_wp2_with (go_at_call 58; refine (PW.out _).mono ?_; rintro e w1 ⟨rfl, rfl⟩)
      go_ret2
      exact ⟨rfl, Below.refl _ _⟩
  · obtain ⟨j, hj⟩ : ∃ j, j = i - 1 := ⟨i - 1, rfl⟩
    have ef : frE E i = E.getD j 0 + 1 := by unfold frE; rw [if_neg z, hj]
    obtain ⟨b, o, rfl, hbz, e0⟩ := bi_at h (show j < n by omega)
    have bd := e.at (i := j) (by omega)
    have e0' : w.cell? ⟨b, o + (i - 1), none⟩ = some (.int .i64 (E.getD j 0)) := by rw [← hj]; exact e0
    have hwj : wrap64 ((i : Int) - 1) = (i : Int) - 1 := IntWalk.wrap64_in _ (by omega)
    have j0 : (0 : Int) ≤ (j : Int) := Int.natCast_nonneg _
    have j1 : (j : Int) < (n : Int) := by omega
    have zp : (0 : Int) < (i : Int) := by omega
    have zp2 : 0 < i := by omega
    have hwx : wrap64 (E.getD j 0 + 1) = E.getD j 0 + 1 := IntWalk.wrap64_in _ (by omega)
    rw [ef]
    by_cases q : i < n
    · have et : toE l E i = E.getD i 0 := if_pos (by omega)
      obtain ⟨b2, o2, hbo, hbz2, e2⟩ := bi_at h q
      injection hbo with hbo
      injection hbo with hb2 ho2
      subst hb2 ho2
      have i1 : (i : Int) < (n : Int) := by omega
      rw [et]
      clear ef et e h HL z hbz2 hj
      generalize E.getD i 0 = y at *
      generalize E.getD j 0 = x at *
      generalize (2 : Int) ^ l.toNat = pw at *
      have hw : wrap64 (pw - 1) = pw - 1 := IntWalk.wrap64_in _ (by omega)
      go_enter Tryz.func26, Tryz.ntmps26
      go_wp2_with (go_at_call 58; refine (PW.out _).mono ?_; rintro e w1 ⟨rfl, rfl⟩)
      go_ret2
      exact ⟨rfl, Below.refl _ _⟩
    · have et : toE l E i = 2 ^ l.toNat - 1 := if_neg (by omega)
      have i1 : ¬ (i : Int) < (n : Int) := by omega
      rw [et]
      clear ef et e h HL z hj
      generalize E.getD j 0 = x at *
      generalize (2 : Int) ^ l.toNat = pw at *
      have hw : wrap64 (pw - 1) = pw - 1 := IntWalk.wrap64_in _ (by omega)
      go_enter Tryz.func26, Tryz.ntmps26
      go_wp2_with (go_at_call 58; refine (PW.out _).mono ?_; rintro e w1 ⟨rfl, rfl⟩)
      go_ret2
      exact ⟨rfl, Below.refl _ _⟩
theorem biBoth_info : (Tryz.prog.info? 50).map (fun i => (i.zero, i.size, i.bytes)) = some (some (.agg #[.int .i64 0, .int .i64 0]), 2, 16) := by kernel_rfl
set_option maxHeartbeats 1600000 in
theorem rBiBounds_no {l : Int} (k : Int) (A : Option Addr) (n c : Nat) (A1 : Option Addr) (n1 c1 : Nat) (E : List Int) (w : World) (hE : IntsAt w (.slice A1 n1 c1) E) (UB : Bds E) (hn1 : n1 ≤ 1000000) (L0 : -9223372036854775808 ≤ l) (L1 : l ≤ 9223372036854775807) (he : egB l E = false) :
    Calls Tryz.prog 17 #[.agg #[.int .i64 k, .int .i64 l, .slice A n c], .slice A1 n1 c1] w fun e w' => e = .returned (.tuple #[.slice none 0 0, .int .i64 8]) ∧ Below w.heap.size w w' := by
  have X0 := Lib.hid (tri_nw w 35 (.int .i64 k) (.int .i64 l) (.slice A n c))
  have HB0 : Hid (Below w.heap.size w (w.alloc (.cells #[.int .i64 k, .int .i64 l, .slice A n c] 35))) := (Below.refl _ _).alloc (Nat.le_refl _) _
  obtain ⟨x0, x1, x2, _, _, _, hz⟩ := tri_all X0.out
  have RT := Lib.hid (rBiRight_any l A1 n1 c1 E _ (hE.below HB0.out) UB hn1 L0 L1)
  rw [he] at RT
  clear hE UB he X0
  go_enter Tryz.func17, Tryz.ntmps17
  go_wp2_with (go_at_call 15; refine RT.out.mono ?_; rintro e w2 ⟨rfl, hb2⟩)
  go_ret2
  exact ⟨rfl, HB0.out.trans (hb2.mono HB0.out.size)⟩
set_option maxHeartbeats 6400000 in
theorem rBiBounds_yes {l : Int} (k : Int) (A : Option Addr) (n c : Nat) (L : List Nd) (A1 : Option Addr) (n1 c1 : Nat) (E : List Int) (w : World) (h : NodesAt w (.slice A n c) L) (hr : RollC l L) (hn : n ≤ 1000) (hE : IntsAt w (.slice A1 n1 c1) E) (UB : Bds E) (hn1 : n1 ≤ 1000) (L0 : -9223372036854775808 ≤ l) (L1 : l ≤ 9223372036854775807) (he : egB l E = true) :
    Calls Tryz.prog 17 #[.agg #[.int .i64 k, .int .i64 l, .slice A n c], .slice A1 n1 c1] w fun e w' => (∃ A2 n2 c2, e = .returned (.tuple #[.slice A2 n2 c2, .int .i64 0]) ∧ RunsAt w' (.slice A2 n2 c2) (bndN l L E)) ∧ Below w.heap.size w w' := by
  obtain ⟨i0, hi, hz0, hz1, hz2⟩ := info_parts biBoth_info
  have X0 := Lib.hid (tri_nw w 35 (.int .i64 k) (.int .i64 l) (.slice A n c))
  have HB0 : Hid (Below w.heap.size w (w.alloc (.cells #[.int .i64 k, .int .i64 l, .slice A n c] 35))) := (Below.refl _ _).alloc (Nat.le_refl _) _
  obtain ⟨x0, x1, x2, _, _, _, hz⟩ := tri_all X0.out
  have RT := Lib.hid (rBiRight_any l A1 n1 c1 E _ (hE.below HB0.out) UB (by omega) L0 L1)
  rw [he] at RT
  have HL := Lib.hid (ints_cells hE).1
  have EC := Lib.hid (eg_yes he)
  have RN := Lib.hid (fun i v (hb : Below w.heap.size w v) (hi : i ≤ n1) => rBiRun_any l A1 n1 c1 E i v (hE.below hb) (eg_yes he) (by omega) hi)
  have BT := Lib.hid (fun a b v (hb : Below w.heap.size w v) x y z t => rReBetween_any (l := l) k a b A n c L v (h.below hb) hr hn x y z t)
  have RO := Lib.hid hr
  clear h hr hE UB he
  go_enter Tryz.func17, Tryz.ntmps17
  go_upto_region 1 with fail
  generalize w.alloc (.cells #[.int .i64 k, .int .i64 l, .slice A n c] 35) = W at *
  go_wp2_with fail
  refine RT.out.mono ?_
  rintro e w2 ⟨rfl, hb2⟩
  have B2 := Lib.hid (HB0.out.trans (hb2.mono HB0.out.size))
  have X2 := Lib.hid (own_below X0.out hb2)
  clear hb2 RT x0 x1 x2 hz X0
  go_wp2_with fail
  go_loopw [6, 7] (fun v i wr => ∃ j : Nat, j ≤ n1 + 1 ∧ i = .int .i64 j ∧ OwnP 50 wr w2.heap.size v ((List.range j).map (bndW l L E)) ∧ Below w2.heap.size w2 wr) (fun _ i _ => n1 + 1 - (intOf i).toNat)
  case atStart => exact ⟨0, by omega, rfl, ownP_nil .., Below.refl _ _⟩
  case round =>
    obtain ⟨j, hj, rfl, ho, hb⟩ := hrel
    have BW := Lib.hid hb
    have OO := Lib.hid ho
    clear ho hb
    by_cases hlt : j ≤ n1
    · have j0 : (0 : Int) ≤ (j : Int) := Int.natCast_nonneg _
      have j1 : (j : Int) ≤ (n1 : Int) := by omega
      have TK := Lib.hid (range_snoc (bndW l L E) j)
      have rb := run_bd EC.out (i := j) (by have := HL.out; omega)
      have RNj := Lib.hid (fun v hb => RN.out j v hb hlt)
      have BTj := Lib.hid (fun v hb => BT.out (frE E j) (toE l E j) v hb (by omega) (by omega) (by omega) (by omega))
      rw [bnd_be] at TK
      have TL : ((List.range j).map (bndW l L E)).length ≤ 1001 := by simp; omega
      have BR := Lib.hid (B2.out.trans (BW.out.mono B2.out.size))
      have XR := Lib.hid (own_below X2.out BW.out)
      clear rb
      generalize (List.range j).map (bndW l L E) = P at *
      generalize beL l L (frE E j) (toE l E j) = x at *
      generalize beH l L (frE E j) (toE l E j) = y at *
      generalize beE (frE E j) (toE l E j) = ee at *
      generalize frE E j = fr at *
      generalize toE l E j = tt at *
      obtain ⟨x0, x1, x2, _, _, _, hz⟩ := tri_all XR.out
      go_wp2_with fail
      refine (RNj.out _ BR.out).mono ?_
      rintro e w3 ⟨rfl, hb3⟩
      have BR3 := Lib.hid (BR.out.trans (hb3.mono BR.out.size))
      have W3 := Lib.hid hb3
      clear x0 x1 x2 hz hb3
      obtain ⟨x0, x1, x2, _, _, _, hz⟩ := tri_all (own_below XR.out W3.out)
      go_wp2_with fail
      refine (BTj.out _ BR3.out).mono ?_
      rintro e w4 ⟨rfl, hb4⟩
      have W4 := Lib.hid (W3.out.trans (hb4.mono W3.out.size))
      have EB := Lib.hid (box2 w4 50 (.int .i64 x) (.int .i64 y))
      have WA := Lib.hid (W4.out.alloc W4.out.size (.cells #[.int .i64 x, .int .i64 y] 50))
      clear x0 x1 x2 hz hb4
      go_upto_region 9 with fail
      generalize w4.alloc (.cells #[.int .i64 x, .int .i64 y] 50) = W4' at *
      obtain ⟨y0, y1, _, _, hy⟩ := box_cells EB.out
      have O4 := Lib.hid (own_below OO.out WA.out)
      have s4 := WA.out.size
      have sz := BW.out.size
      go_wp2_with (at_builtin; refine wpList_append_own _ rfl _ _ 44 rfl w2.heap.size 50 i0 (.agg #[.int .i64 0, .int .i64 0]) 2 16 Tryz.underlying44 hi hz0 hz1 hz2 rfl (by decide) _ P.length (pairs P) rfl (World.ownsRow.alloc O4.out _) ⟨W4'.heap.size, 0, none⟩ 1 1 [.int .i64 x, .int .i64 y] rfl rfl (two_new _ _ _ _ _ rfl) (two_cell _ _) (by unfold maxLen; omega) (by omega) (by simp; omega) ?_)
      intro v' w5 hown hgrow hnil
      have B5 := Lib.hid (((BW.out.trans (WA.out.mono BW.out.size)).alloc (by omega) (.cells #[.int .i64 x, .int .i64 y] 50)).grown hgrow (by simp; omega) (fun g hg => (World.ownsRow.lt OO.out g hg).1))
      have O5 := Lib.hid (ownP_snoc hown)
      clear hown hgrow hnil
      go_wp2_with fail
      go_roundw
      case rel => exact ⟨j + 1, by omega, by go_num, by rw [TK.out]; exact O5.out, B5.out⟩
      case measure => simp [intOf]; omega
    · obtain rfl : j = n1 + 1 := by omega
      have en : (List.range (n1 + 1)).map (bndW l L E) = bndN l L E := by unfold bndN; rw [HL.out]
      rw [en] at OO
      obtain ⟨A3, m3, c3, rfl⟩ := own_slice OO.out
      have I3 := Lib.hid (ownP_runs OO.out)
      have jj : ¬ ((n1 + 1 : Nat) : Int) ≤ (n1 : Int) := by omega
      clear en OO
      go_wp2_with fail
      go_ret2
      exact ⟨⟨_, _, _, rfl, I3.out⟩, B2.out.trans (BW.out.mono B2.out.size)⟩
end Go.Proofs.YtnhagdlpidgkcaaGreat
namespace Go.Proofs.YtnhagdlpidgkcaaGreat
set_option linter.unusedVariables false
set_option maxRecDepth 100000
open Go.RowKit
/-- of some parts of all, the rank of each -/
theorem partUp_in {s i p : Int} (s1 : 1 ≤ s) (s2 : s ≤ 72057594037927935) (i1 : 1 ≤ i) (ip : i ≤ p) : 1 ≤ partUpN s i p ∧ partUpN s i p ≤ s := by
  have pc : partC s i p := ⟨by omega, by omega, by omega⟩
  have m0 : 0 < s * i := Int.mul_pos (by omega) (by omega)
  have m1 : s * i ≤ s * p := Int.mul_le_mul_of_nonneg_left ip (by omega)
  have m2 : s * p < 9223372036854775808 * p := Int.mul_lt_mul_of_pos_right (by omega) (by omega)
  have lt : s * i < 9223372036854775808 * p := by omega
  have pn : partN s i p = s * i / p := by rw [(part_yes pc).1]; exact if_pos lt
  have q0 : 0 ≤ s * i / p := Int.ediv_nonneg (by omega) (by omega)
  have q1 : s * i / p ≤ s := Int.ediv_le_of_le_mul (by omega) m1
  have dm := Int.mul_ediv_add_emod (s * i) p
  have r0 := Int.emod_nonneg (s * i) (show p ≠ 0 by omega)
  have rr := (part_yes pc).2.1
  cases hr : partR s i p
  · rw [(partUp_flat hr).1, pn]
    refine ⟨?_, q1⟩
    rw [hr] at rr
    have rz : s * i % p = 0 := by
      unfold quotR at rr
      have := rr.symm
      simp only [decide_eq_true lt, Bool.true_and] at this
      simpa using this
    rcases Int.lt_or_le 0 (s * i / p) with g | g
    · omega
    · have e : s * i / p = 0 := by omega
      rw [e, rz] at dm
      omega
  · rw [(partUp_more hr (by rw [pn]; omega)).1, pn]
    rw [hr] at rr
    have rn : s * i % p ≠ 0 := by
      unfold quotR at rr
      simp only [Bool.true_eq, Bool.and_eq_true] at rr
      exact of_decide_eq_true rr.2
    rcases Int.lt_or_le (s * i / p) s with g | g
    · omega
    · exfalso
      have e : s * i / p = s := by omega
      rw [e, Int.mul_comm p] at dm
      omega
/-- a value of the universe, as it stands in a list of even parts -/
theorem ev_bd {l : Int} {L : List Nd} (h : RollC l L) (s1 : 1 ≤ sumC L) {p : Int} : ∀ {k : Nat}, (k : Int) ≤ p → ∀ x ∈ evF l L p k, 0 ≤ x ∧ x < 281474976710656
  | 0, _, x, hx => by simp [evF] at hx
  | k + 1, hk, x, hx => by
    have u : 1 ≤ l ∧ l ≤ 48 := of_decide_eq_true h.1
    have p2 : (2 : Int) ^ l.toNat ≤ 281474976710656 := two_le l.toNat 48 (by omega)
    have s2 : sumC L ≤ 72057594037927935 := h.2.2.2.2
    have pu := partUp_in s1 s2 (i := (k : Int) + 1) (p := p) (by omega) (by omega)
    have a := at_is h pu.1 pu.2
    have ih := ev_bd h s1 (p := p) (k := k) (by omega)
    simp only [evF, evS] at hx
    split at hx
    · rcases List.mem_append.1 hx with q | q
      · exact ih x q
      · rw [List.mem_singleton.1 q]; omega
    · exact ih x hx
set_option maxHeartbeats 6400000 in
theorem rBiEven_any {l : Int} (k p : Int) (A : Option Addr) (n c : Nat) (L : List Nd) (w : World) (h : NodesAt w (.slice A n c) L) (hr : RollC l L) (hn : n ≤ 1000) (P0 : -9223372036854775808 ≤ p) (P1 : p ≤ 9223372036854775807) :
    Calls Tryz.prog 19 #[.agg #[.int .i64 k, .int .i64 l, .slice A n c], .int .i64 p] w fun e w' => (∃ A2 n2 c2, e = .returned (.tuple #[.slice A2 n2 c2, .int .i64 (evE L p)]) ∧ IntsAt w' (.slice A2 n2 c2) (if evE L p = 0 then evF l L p (p.toNat - 1) else [])) ∧ Below w.heap.size w w' := by
  obtain ⟨i0, hi, hz0, hz1, hz2⟩ := info_parts biInt_info
  have X0 := Lib.hid (tri_nw w 35 (.int .i64 k) (.int .i64 l) (.slice A n c))
  have HB0 : Hid (Below w.heap.size w (w.alloc (.cells #[.int .i64 k, .int .i64 l, .slice A n c] 35))) := (Below.refl _ _).alloc (Nat.le_refl _) _
  have WT := Lib.hid (fun v (hb : Below w.heap.size w v) => rDgWeight_any l k A n c L v (h.below hb) hr hn)
  have nn := good_nonneg (roll_good hr)
  have s0 : 0 ≤ sumC L := Int.le_trans (sum_le nn 0).1 (sum_le nn 0).2
  have s2 : sumC L ≤ 72057594037927935 := hr.2.2.2.2
  have EE : Hid (evE L p = if sumC L = 0 then 7 else if p < 1 ∨ 1000 < p then 2 else 0) := rfl
  by_cases z : sumC L = 0
  · have e : evE L p = 7 := by rw [EE.out, if_pos z]
    rw [e, if_neg (by omega)]
    rw [z] at WT
    clear e z EE h hr nn s0 s2
    go_enter Tryz.func19, Tryz.ntmps19
    obtain ⟨x0, x1, x2, _, _, _, hz⟩ := tri_all X0.out
    go_wp2_with (go_at_call 46; refine (WT.out _ HB0.out).mono ?_; rintro e w1 ⟨rfl, hb1⟩)
    go_ret2
    exact ⟨⟨none, 0, 0, rfl, ints_nil _⟩, HB0.out.trans (hb1.mono HB0.out.size)⟩
  by_cases c1 : p < 1 ∨ 1000 < p
  · have e : evE L p = 2 := by rw [EE.out, if_neg z, if_pos c1]
    rw [e, if_neg (by omega)]
    have z1 : (sumC L == 0) = false := beq_eq_false_iff_ne.2 z
    clear e z EE h hr nn
    generalize sumC L = s at *
    rcases (show p < 1 ∨ (¬ p < 1 ∧ 1000 < p) by omega) with c2 | ⟨c2, c3⟩
    all_goals
      clear c1
      go_enter Tryz.func19, Tryz.ntmps19
      obtain ⟨x0, x1, x2, _, _, _, hz⟩ := tri_all X0.out
      go_wp2_with (go_at_call 46; refine (WT.out _ HB0.out).mono ?_; rintro e w1 ⟨rfl, hb1⟩)
      go_ret2
      exact ⟨⟨none, 0, 0, rfl, ints_nil _⟩, HB0.out.trans (hb1.mono HB0.out.size)⟩
  · have e : evE L p = 0 := by rw [EE.out, if_neg z, if_neg c1]
    rw [e, if_pos rfl]
    have z1 : (sumC L == 0) = false := beq_eq_false_iff_ne.2 z
    have PU := Lib.hid (fun (j : Nat) (h1 : (j : Int) + 1 < p) v => rfPartUp_any (sumC L) ((j : Int) + 1) p v (by omega) (by omega) (by omega) (by omega) (by omega) (by omega))
    have AT := Lib.hid (fun (j : Nat) (h1 : (j : Int) + 1 < p) v (hb : Below w.heap.size w v) => by
      have pu := partUp_in (s := sumC L) (i := (j : Int) + 1) (p := p) (by omega) s2 (by omega) (by omega)
      have a := rQuAt_any (partUpN (sumC L) ((j : Int) + 1) p) l k A n c L v (h.below hb) hr hn (by omega) (by omega)
      rw [qaA_yes (wrE_yes pu.1 pu.2), wrE_yes pu.1 pu.2] at a
      exact a)
    have ED := Lib.hid (fun (j : Nat) (h1 : (j : Int) ≤ p) => ev_bd hr (show 1 ≤ sumC L by omega) (p := p) (k := j) h1)
    have AD := Lib.hid (fun (j : Nat) (h1 : (j : Int) + 1 < p) => by
      have u : 1 ≤ l ∧ l ≤ 48 := of_decide_eq_true hr.1
      have p2 : (2 : Int) ^ l.toNat ≤ 281474976710656 := two_le l.toNat 48 (by omega)
      have pu := partUp_in (s := sumC L) (i := (j : Int) + 1) (p := p) (by omega) s2 (by omega) (by omega)
      have a := at_is hr pu.1 pu.2
      exact (show 0 ≤ atN l L (partUpN (sumC L) ((j : Int) + 1) p) ∧ atN l L (partUpN (sumC L) ((j : Int) + 1) p) < 281474976710656 by omega))
    have c2 : ¬ p < 1 := by omega
    have c3 : ¬ 1000 < p := by omega
    obtain ⟨m, hm⟩ : ∃ m : Nat, m = p.toNat - 1 := ⟨_, rfl⟩
    have PM : Hid (p = (m : Int) + 1) := by show _ = _; omega
    rw [← hm]
    clear e z EE h hr nn c1 hm
    go_enter Tryz.func19, Tryz.ntmps19
    go_upto_region 1 with fail
    obtain ⟨x0, x1, x2, _, _, _, hz⟩ := tri_all X0.out
    generalize w.alloc (.cells #[.int .i64 k, .int .i64 l, .slice A n c] 35) = W at *
    go_wp2_with fail
    refine (WT.out _ HB0.out).mono ?_
    rintro e w2 ⟨rfl, hb2⟩
    have B2 := Lib.hid (HB0.out.trans (hb2.mono HB0.out.size))
    have X2 := Lib.hid (own_below X0.out hb2)
    clear hb2 x0 x1 x2 hz X0
    go_wp2_with fail
    go_loopw [6, 7] (fun v i wr => ∃ j : Nat, j ≤ m ∧ i = .int .i64 ((j : Int) + 1) ∧ OwnI 3 wr w2.heap.size v (evF l L p j) ∧ Below w2.heap.size w2 wr) (fun _ i _ => m + 1 - (intOf i).toNat)
    case atStart => exact ⟨0, by omega, by rfl, ownI_nil .., Below.refl _ _⟩
    case round =>
      obtain ⟨j, hj, rfl, ho, hb⟩ := hrel
      have BW := Lib.hid hb
      have OO := Lib.hid ho
      clear ho hb
      by_cases hlt : j < m
      · have hjp : (j : Int) + 1 < p := by have := PM.out; omega
        have BR := Lib.hid (B2.out.trans (BW.out.mono B2.out.size))
        have XR := Lib.hid (own_below X2.out BW.out)
        have PUj := Lib.hid (PU.out j hjp)
        have ATj := Lib.hid (AT.out j hjp)
        have ad := AD.out j hjp
        have ed := ED.out j (by omega)
        have TS : Hid (evF l L p (j + 1) = evS (evF l L p j) (atN l L (partUpN (sumC L) ((j : Int) + 1) p))) := rfl
        have el := ev_len l L p j
        obtain ⟨P2, hP2⟩ : ∃ P2, P2 = evF l L p (j + 1) := ⟨_, rfl⟩
        rw [← hP2] at TS
        have HP2 := Lib.hid hP2
        clear hP2
        generalize evF l L p j = P at *
        generalize atN l L (partUpN (sumC L) ((j : Int) + 1) p) = x at *
        generalize partUpN (sumC L) ((j : Int) + 1) p = r at *
        generalize partUpB (sumC L) ((j : Int) + 1) p = rb at *
        obtain ⟨i1, hi1⟩ : ∃ i1 : Int, i1 = (j : Int) + 1 := ⟨_, rfl⟩
        rw [← hi1] at hjp PUj ⊢
        have HI1 := Lib.hid hi1
        clear hi1
        obtain ⟨x0, x1, x2, _, _, _, hz⟩ := tri_all XR.out
        go_wp2_with fail
        refine (WT.out _ BR.out).mono ?_
        rintro e w3 ⟨rfl, hb3⟩
        have W3 := Lib.hid (BW.out.trans (hb3.mono BW.out.size))
        have BR3 := Lib.hid (BR.out.trans (hb3.mono BR.out.size))
        have O3 := Lib.hid (own_below OO.out hb3)
        have X3 := Lib.hid (own_below XR.out hb3)
        clear x0 x1 x2 hz hb3 OO
        obtain ⟨x0, x1, x2, _, _, _, hz⟩ := tri_all X3.out
        go_wp2_with fail
        refine (PUj.out _).mono ?_
        rintro e w4 ⟨rfl, hb4⟩
        have W4 := Lib.hid (W3.out.trans (hb4.mono W3.out.size))
        have BR4 := Lib.hid (BR3.out.trans (hb4.mono BR3.out.size))
        have O4 := Lib.hid (own_below O3.out hb4)
        have X4 := Lib.hid (own_below X3.out hb4)
        clear x0 x1 x2 hz hb4 O3
        obtain ⟨x0, x1, x2, _, _, _, hz⟩ := tri_all X4.out
        go_wp2_with fail
        refine (ATj.out _ BR4.out).mono ?_
        rintro e w5 ⟨rfl, hb5⟩
        have W5 := Lib.hid (W4.out.trans (hb5.mono W4.out.size))
        have O5 := Lib.hid (own_below O4.out hb5)
        clear x0 x1 x2 hz hb5 O4
        have s5 := W5.out.size
        obtain ⟨Av, mv, cv, rfl⟩ := own_slice O5.out
        have hmv := (ints_cells (ownI_ints O5.out)).1
        have HM := Lib.hid hmv
        have hb1 : wrap64 (i1 + 1) = ((j + 1 : Nat) : Int) + 1 := by have := HI1.out; rw [IntWalk.wrap64_in _ (by omega)]; omega
        have HI2 : Hid (Value.int .i64 (wrap64 (i1 + 1)) = .int .i64 (((j + 1 : Nat) : Int) + 1)) := by show _ = _; rw [hb1]
        have sz := BW.out.size
        have pl : P.length ≤ 1000 := by have := PM.out; omega
        by_cases m0 : mv = 0
        · have EV : Hid (P2 = P ++ [x]) := by
            show _ = _
            rw [TS.out]
            exact if_pos (.inl (by omega))
          have m1 : (mv : Int) = 0 := by omega
          have m2 : ((mv : Int) == 0) = true := beq_iff_eq.2 m1
          clear m0 hmv
          go_wp2_with (at_builtin; refine wpList_append_own _ rfl _ _ 27 rfl w2.heap.size 3 i0 (.int .i64 0) 1 8 Tryz.underlying27 hi hz0 hz1 hz2 rfl (by decide) _ P.length (ints P) rfl (World.ownsRow.alloc O5.out _) ⟨w5.heap.size, 0, none⟩ 1 1 [.int .i64 x] rfl rfl (one_new _ _ _ _ rfl) (one_int _) (by unfold maxLen; omega) (by omega) (by simp; omega) ?_)
          intro v' w6 hown hgrow hnil
          have B6 := Lib.hid ((W5.out.alloc (by omega) (.cells #[.int .i64 x] 3)).grown hgrow (by simp; omega) (fun g hg => (World.ownsRow.lt O5.out g hg).1))
          have O6 := Lib.hid (ownI_snoc rfl hown)
          rw [← EV.out] at O6
          clear hown hgrow hnil
          go_wp2_with fail
          go_roundw
          case rel => exact ⟨j + 1, by omega, HI2.out, by rw [← HP2.out]; exact O6.out, B6.out⟩
          case measure => have h1 := HI1.out; simp [intOf, hb1]; omega
        · obtain ⟨b, o, rfl, hbz, e0⟩ := bi_at (ownI_ints O5.out) (show mv - 1 < mv by omega)
          have m2 : ((mv : Int) == 0) = false := beq_eq_false_iff_ne.2 (by omega)
          have hwm : wrap64 ((mv : Int) - 1) = (mv : Int) - 1 := IntWalk.wrap64_in _ (by omega)
          have n0 : 0 ≤ (mv : Int) - 1 := by omega
          have n1 : (mv : Int) - 1 < (mv : Int) := by omega
          have n2 : 0 < mv := by omega
          rw [hmv] at e0
          have yb := ed (P.getD (P.length - 1) 0) (getD_mem (by omega))
          by_cases lt : P.getD (P.length - 1) 0 < x
          · have EV : Hid (P2 = P ++ [x]) := by
              show _ = _
              rw [TS.out]
              exact if_pos (.inr lt)
            rw [← hmv] at e0 lt yb
            generalize P.getD (mv - 1) 0 = y at *
            clear m0 hmv
            go_wp2_with (at_builtin; refine wpList_append_own _ rfl _ _ 27 rfl w2.heap.size 3 i0 (.int .i64 0) 1 8 Tryz.underlying27 hi hz0 hz1 hz2 rfl (by decide) _ P.length (ints P) rfl (World.ownsRow.alloc O5.out _) ⟨w5.heap.size, 0, none⟩ 1 1 [.int .i64 x] rfl rfl (one_new _ _ _ _ rfl) (one_int _) (by unfold maxLen; omega) (by omega) (by simp; omega) ?_)
            intro v' w6 hown hgrow hnil
            have B6 := Lib.hid ((W5.out.alloc (by omega) (.cells #[.int .i64 x] 3)).grown hgrow (by simp; omega) (fun g hg => (World.ownsRow.lt O5.out g hg).1))
            have O6 := Lib.hid (ownI_snoc rfl hown)
            rw [← EV.out] at O6
            clear hown hgrow hnil
            go_wp2_with fail
            go_roundw
            case rel => exact ⟨j + 1, by omega, HI2.out, by rw [← HP2.out]; exact O6.out, B6.out⟩
            case measure => have h1 := HI1.out; simp [intOf, hb1]; omega
          · have EV : Hid (P2 = P) := by
              show _ = _
              rw [TS.out]
              exact if_neg (by omega)
            rw [← hmv] at e0 lt yb
            generalize P.getD (mv - 1) 0 = y at *
            rw [← EV.out] at O5
            clear m0 hmv
            go_wp2_with fail
            go_roundw
            case rel => exact ⟨j + 1, by omega, HI2.out, by rw [← HP2.out]; exact O5.out, W5.out⟩
            case measure => have h1 := HI1.out; simp [intOf, hb1]; omega
      · obtain rfl : j = m := by omega
        obtain ⟨A3, m3, c3, rfl⟩ := own_slice OO.out
        have I3 := Lib.hid (ownI_ints OO.out)
        have jj : ¬ (j : Int) + 1 < p := by have := PM.out; omega
        clear OO
        go_wp2_with fail
        go_ret2
        exact ⟨⟨_, _, _, rfl, I3.out⟩, B2.out.trans (BW.out.mono B2.out.size)⟩
end Go.Proofs.YtnhagdlpidgkcaaGreat
namespace Go.Proofs.YtnhagdlpidgkcaaGreat
set_option linter.unusedVariables false
set_option maxRecDepth 100000
open Go.RowKit
theorem bar_no {T : List Int} {w : Int} {i : Nat} (h : i < T.length) (g : T.getD i 0 < 0) : barB T w = false := by
  unfold barB
  cases hw : decide (0 ≤ w)
  · rfl
  · rw [Bool.true_and]
    cases e : T.all fun x => decide (0 ≤ x)
    · rfl
    · have q := List.all_eq_true.1 e (T.getD i 0) (getD_mem h)
      have := of_decide_eq_true q
      omega
theorem bar_wid {T : List Int} {w : Int} (h : w < 0) : barB T w = false := by
  unfold barB
  rw [decide_eq_false (by omega)]; rfl
theorem bar_yes {T : List Int} {w : Int} (h : 0 ≤ w) (g : ∀ i, i < T.length → 0 ≤ T.getD i 0) : barB T w = true := by
  unfold barB
  rw [decide_eq_true h, Bool.true_and]
  refine List.all_eq_true.2 fun x hx => decide_eq_true ?_
  obtain ⟨i, hi, e⟩ := List.mem_iff_getElem.1 hx
  have q := g i hi
  have : T.getD i 0 = x := by simp [List.getD_eq_getElem?_getD, hi, e]
  omega
theorem bars_len (T : List Int) (w : Int) : (barsN T w).length = T.length := by simp [barsN]
theorem bi_two {w : World} {A : Option Addr} {n c i j : Nat} {S : List Int} (h : IntsAt w (.slice A n c) S) (hi : i < n) (hj : j < n) : ∃ b o, A = some ⟨b, o, none⟩ ∧ b < w.heap.size ∧ w.cell? ⟨b, o + i, none⟩ = some (.int .i64 (S.getD i 0)) ∧ w.cell? ⟨b, o + j, none⟩ = some (.int .i64 (S.getD j 0)) := by
  obtain ⟨e, hc⟩ := ints_cells h
  obtain ⟨b, o, h1, h2, h3⟩ := hc (by omega)
  exact ⟨b, o, h1, h2, h3 i (by omega), h3 j (by omega)⟩
theorem bi_keep2 {W a b : World} {p1 p2 : Addr} {x1 x2 : Value} (h : a.cell? p1 = some x1 ∧ a.cell? p2 = some x2 ∧ Below W.heap.size W a) (hb : Below a.heap.size a b)
    (h1 : p1.block < W.heap.size) (h2 : p2.block < W.heap.size) : b.cell? p1 = some x1 ∧ b.cell? p2 = some x2 ∧ Below W.heap.size W b := by
  obtain ⟨a1, a2, a7⟩ := h
  have hz := a7.size
  exact ⟨(hb.cell (by omega)).trans a1, (hb.cell (by omega)).trans a2, a7.trans (hb.mono hz)⟩
set_option maxHeartbeats 3200000 in
theorem rBiHeav_any (A : Option Addr) (n c : Nat) (T : List Int) (w : World) (h : IntsAt w (.slice A n c) T) (hn : n ≤ 1000000) :
    Calls Tryz.prog 21 #[.slice A n c] w fun e w' => e = .returned (.tuple #[.int .i64 (hvA T T.length : Nat), .bool (decide (0 < T.length))]) ∧ Below w.heap.size w w' := by
  have HL := Lib.hid (ints_cells h).1
  have HA := Lib.hid h
  have LE := Lib.hid (hv_le T)
  obtain ⟨Z1, hZ1⟩ : ∃ Z1, Z1 = hvA T T.length := ⟨_, rfl⟩
  obtain ⟨Z2, hZ2⟩ : ∃ Z2, Z2 = decide (0 < T.length) := ⟨_, rfl⟩
  rw [← hZ1, ← hZ2]
  have ZA := Lib.hid hZ1
  have ZB := Lib.hid hZ2
  clear h hZ1 hZ2
  go_enter Tryz.func21, Tryz.ntmps21
  go_wp2_with fail
  go_loopw [4, 5] (fun a i wr => ∃ j : Nat, j ≤ n ∧ i = .int .i64 j ∧ a = .int .i64 (hvA T j : Nat) ∧ Below w.heap.size w wr) (fun _ i _ => n - (intOf i).toNat)
  case atStart => exact ⟨0, by omega, rfl, rfl, Below.refl _ _⟩
  case round =>
    obtain ⟨j, hj, rfl, rfl, hb⟩ := hrel
    have BW := Lib.hid hb
    clear hb
    by_cases hlt : j < n
    · have hh : hvA T j < n := by have := LE.out j; omega
      obtain ⟨b, o, rfl, hbz, e0, e1⟩ := bi_two (HA.out.below BW.out) hlt hh
      have HS : Hid (hvA T (j + 1) = if T.getD (hvA T j) 0 < T.getD j 0 then j else hvA T j) := rfl
      have j0 : (0 : Int) ≤ (j : Int) := Int.natCast_nonneg _
      have j1 : (j : Int) < (n : Int) := by omega
      have g0 : (0 : Int) ≤ (hvA T j : Int) := Int.natCast_nonneg _
      have g1 : (hvA T j : Int) < (n : Int) := by omega
      obtain ⟨N, hN⟩ : ∃ N, N = hvA T (j + 1) := ⟨_, rfl⟩
      rw [← hN] at HS
      have HN := Lib.hid hN
      clear hN
      by_cases lt : T.getD (hvA T j) 0 < T.getD j 0
      · have q := HS.out
        rw [if_pos lt] at q
        have QN := Lib.hid q
        clear q HS
        generalize T.getD (hvA T j) 0 = y at *
        generalize T.getD j 0 = x at *
        generalize hvA T j = g at *
        go_wp2_with fail
        go_quiet (fail)
        go_wp2_with fail
        go_roundw
        case rel => exact ⟨j + 1, by omega, by go_num, by rw [← HN.out, QN.out], below_drewN BW.out _⟩
        case measure => simp [intOf]; omega
      · have q := HS.out
        rw [if_neg lt] at q
        have QN := Lib.hid q
        clear q HS
        generalize T.getD (hvA T j) 0 = y at *
        generalize T.getD j 0 = x at *
        obtain ⟨g, hg⟩ : ∃ g, g = hvA T j := ⟨_, rfl⟩
        rw [← hg] at QN g0 g1 hh e1 ⊢
        clear hg
        go_wp2_with fail
        go_quiet (fail)
        go_wp2_with fail
        go_roundw
        case rel => exact ⟨j + 1, by omega, by go_num, by rw [← HN.out, QN.out], below_drewN BW.out _⟩
        case measure => simp [intOf]; omega
    · obtain rfl : j = n := by omega
      have e : hvA T j = Z1 := by rw [ZA.out, ← HL.out]
      have e2 : Z2 = decide (0 < j) := by rw [ZB.out, ← HL.out]
      rw [e]
      subst e2
      clear e ZA ZB
      go_wp2_with fail
      go_ret2
      exact ⟨rfl, BW.out⟩
set_option maxHeartbeats 6400000 in
theorem rBiBars_any (A : Option Addr) (n c : Nat) (T : List Int) (wd : Int) (w : World) (h : IntsAt w (.slice A n c) T) (UB : Bds T) (hn : n ≤ 1000) (P0 : -9223372036854775808 ≤ wd) (P1 : wd ≤ 9223372036854775807) :
    Calls Tryz.prog 23 #[.slice A n c, .int .i64 wd] w fun e w' => (∃ A2 n2 c2, e = .returned (.tuple #[.slice A2 n2 c2, .bool (barB T wd)]) ∧ IntsAt w' (.slice A2 n2 c2) (if barB T wd = true then barsN T wd else [])) ∧ Below w.heap.size w w' := by
  obtain ⟨i0, hi, hz0, hz1, hz2⟩ := info_parts biInt_info
  have HL := Lib.hid (ints_cells h).1
  have HA := Lib.hid h
  have HV := Lib.hid (rBiHeav_any A n c T w h (by omega))
  have LE := Lib.hid (hv_le T T.length)
  have HB := Lib.hid UB
  have PT := Lib.hid (fun a m v x y z t => rfPart_any a wd m v x y P0 P1 z t)
  obtain ⟨Z, hZ⟩ : ∃ Z, Z = barB T wd := ⟨_, rfl⟩
  rw [← hZ]
  have ZZ := Lib.hid hZ
  clear h UB hZ
  have BWd : Hid (∀ i, barW T wd i = if 0 < T.getD (hvA T T.length) 0 ∧ 0 ≤ wd then partN (T.getD i 0) wd (T.getD (hvA T T.length) 0) else 0) := fun _ => rfl
  obtain ⟨g, hg⟩ : ∃ g, g = hvA T T.length := ⟨_, rfl⟩
  rw [← hg] at HV BWd LE
  clear hg
  go_enter Tryz.func23, Tryz.ntmps23
  go_wp2_with fail
  refine HV.out.mono ?_
  rintro e w2 ⟨rfl, hb2⟩
  have B2 := Lib.hid hb2
  clear hb2 HV
  go_wp2_with fail
  go_loopw [6, 9] (fun v i wr => ∃ j : Nat, j ≤ n ∧ i = .int .i64 j ∧ Hid (∀ i, i < j → 0 ≤ T.getD i 0) ∧ OwnI 3 wr w2.heap.size v ((List.range j).map (barW T wd)) ∧ Below w2.heap.size w2 wr) (fun _ i _ => n - (intOf i).toNat)
  case atStart => exact ⟨0, by omega, rfl, Lib.hid (fun i hi => absurd hi (by omega)), ownI_nil .., Below.refl _ _⟩
  case round =>
    obtain ⟨j, hj, rfl, hp, ho, hb⟩ := hrel
    have BW := Lib.hid hb
    have OO := Lib.hid ho
    have HP := Lib.hid hp.out
    have BR := Lib.hid (B2.out.trans (BW.out.mono B2.out.size))
    clear ho hb hp
    by_cases hlt : j < n
    · have hjl : j < T.length := by have := HL.out; omega
      have hgn : g < n := by have := LE.out; have := HL.out; omega
      obtain ⟨b, o, rfl, hbz, e0, e1⟩ := bi_two (HA.out.below BR.out) hlt hgn
      have j0 : (0 : Int) ≤ (j : Int) := Int.natCast_nonneg _
      have j1 : (j : Int) < (n : Int) := by omega
      have g0 : (0 : Int) ≤ (g : Int) := Int.natCast_nonneg _
      have g1 : (g : Int) < (n : Int) := by omega
      by_cases neg : T.getD j 0 < 0
      · have hz : Z = false := ZZ.out.trans (bar_no hjl neg)
        subst hz
        clear ZZ
        generalize T.getD j 0 = x at *
        go_wp2_with fail
        go_ret2
        exact ⟨⟨none, 0, 0, rfl, ints_nil _⟩, BR.out⟩
      · have HP2 : Hid (∀ i, i < j + 1 → 0 ≤ T.getD i 0) := fun i hi => by
          rcases Nat.lt_or_ge i j with q | q
          · exact HP.out i q
          · have : i = j := by omega
            subst this; omega
        have TK := Lib.hid (range_snoc (barW T wd) j)
        have BJ := Lib.hid (BWd.out j)
        have TL : ((List.range j).map (barW T wd)).length ≤ 1000 := by simp; omega
        have bd := bds_at HB.out hjl
        have bg := bds_at HB.out (show g < T.length by have := HL.out; omega)
        have PTj := Lib.hid (fun v => PT.out (T.getD j 0) (T.getD g 0) v bd.1 bd.2 bg.1 bg.2)
        generalize (List.range j).map (barW T wd) = P at *
        generalize barW T wd j = r at *
        generalize T.getD j 0 = x at *
        generalize T.getD g 0 = y at *
        generalize partN x wd y = pn at *
        generalize partB x wd y = pb at *
        have sz := BW.out.size
        have s2 := B2.out.size
        by_cases c0 : 0 < y ∧ 0 ≤ wd
        · have er : r = pn := by have q := BJ.out; rwa [if_pos c0] at q
          subst er
          obtain ⟨c1, c2⟩ := c0
          go_upto_region 10 with fail
          go_region_held3 (fun w' => w'.cell? ⟨b, o + j, none⟩ = some (.int .i64 x) ∧ w'.cell? ⟨b, o + g, none⟩ = some (.int .i64 y) ∧ Below wr.heap.size wr w')
            (first | assumption | (exact bi_keep2 (by assumption) (by assumption) hbz hbz) | (exact ⟨e0, e1, below_drew _⟩))
            (first | (go_at_call 52; refine (PTj.out _).mono ?_; rintro e w4 ⟨rfl, hb4⟩))
          rename_i hH
          have h4 := hH.2.2
          have W4 := Lib.hid (BW.out.trans (h4.mono BW.out.size))
          have O4 := Lib.hid (own_below OO.out h4)
          clear hH h4 hb4
          have s4 := W4.out.size
          go_wp2_with (at_builtin; refine wpList_append_own _ rfl _ _ 27 rfl w2.heap.size 3 i0 (.int .i64 0) 1 8 Tryz.underlying27 hi hz0 hz1 hz2 rfl (by decide) _ P.length (ints P) rfl (World.ownsRow.alloc O4.out _) ⟨w4.heap.size, 0, none⟩ 1 1 [.int .i64 r] rfl rfl (one_new _ _ _ _ rfl) (one_int _) (by unfold maxLen; omega) (by omega) (by simp; omega) ?_)
          intro v' w6 hown hgrow hnil
          have B6 := Lib.hid ((W4.out.alloc (by omega) (.cells #[.int .i64 r] 3)).grown hgrow (by simp; omega) (fun g hg => (World.ownsRow.lt O4.out g hg).1))
          have O6 := Lib.hid (ownI_snoc rfl hown)
          clear hown hgrow hnil
          go_wp2_with fail
          go_roundw
          case rel => exact ⟨j + 1, by omega, by go_num, HP2, by rw [TK.out]; exact O6.out, B6.out⟩
          case measure => simp [intOf]; omega
        · have er : r = 0 := by have q := BJ.out; rwa [if_neg c0] at q
          subst er
          rcases (show ¬ 0 < y ∨ (0 < y ∧ ¬ 0 ≤ wd) by omega) with c1 | ⟨c1, c2⟩
          all_goals
            clear c0
            go_wp2_with (at_builtin; refine wpList_append_own _ rfl _ _ 27 rfl w2.heap.size 3 i0 (.int .i64 0) 1 8 Tryz.underlying27 hi hz0 hz1 hz2 rfl (by decide) _ P.length (ints P) rfl (World.ownsRow.alloc OO.out _) ⟨wr.heap.size, 0, none⟩ 1 1 [.int .i64 0] rfl rfl (one_new _ _ _ _ rfl) (one_int _) (by unfold maxLen; omega) (by omega) (by simp; omega) ?_)
            intro v' w6 hown hgrow hnil
            have B6 := Lib.hid ((BW.out.alloc (by omega) (.cells #[.int .i64 0] 3)).grown hgrow (by simp; omega) (fun g hg => (World.ownsRow.lt OO.out g hg).1))
            have O6 := Lib.hid (ownI_snoc rfl hown)
            clear hown hgrow hnil
            go_wp2_with fail
            go_roundw
            case rel => exact ⟨j + 1, by omega, by go_num, HP2, by rw [TK.out]; exact O6.out, B6.out⟩
            case measure => simp [intOf]; omega
    · obtain rfl : j = n := by omega
      by_cases wn : wd < 0
      · have hz : Z = false := ZZ.out.trans (bar_wid wn)
        subst hz
        clear ZZ OO
        go_wp2_with fail
        go_ret2
        exact ⟨⟨none, 0, 0, rfl, ints_nil _⟩, BR.out⟩
      · have hz : Z = true := ZZ.out.trans (bar_yes (by omega) (fun i hi => HP.out i (by have := HL.out; omega)))
        subst hz
        have en : (List.range j).map (barW T wd) = barsN T wd := by unfold barsN; rw [HL.out]
        rw [en] at OO
        obtain ⟨A3, m3, c3, rfl⟩ := own_slice OO.out
        have I3 := Lib.hid (ownI_ints OO.out)
        clear en OO ZZ
        go_wp2_with fail
        go_ret2
        exact ⟨⟨_, _, _, rfl, I3.out⟩, BR.out⟩
end Go.Proofs.YtnhagdlpidgkcaaGreat
