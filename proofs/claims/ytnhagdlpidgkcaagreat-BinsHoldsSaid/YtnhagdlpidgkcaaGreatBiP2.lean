/- The project's package bins: Bars. -/
import Derived.Test.YtnhagdlpidgkcaaGreatBiP1
import Derived.Test.YtnhagdlpidgkcaaGreatReBt
import Derived.Test.YtnhagdlpidgkcaaGreatQuQ
namespace Go.Proofs.YtnhagdlpidgkcaaGreat
set_option linter.unusedVariables false
set_option maxRecDepth 100000
open Go.RowKit
/-- a row of which so many have been put, by place -/
def brR (f : Nat → Int) (n j : Nat) : List Int := (List.range j).map f ++ List.replicate (n - j) 0
theorem brR_len (f : Nat → Int) {n j : Nat} (h : j ≤ n) : (brR f n j).length = n := by
  unfold brR; rw [List.length_append, List.length_map, List.length_range, List.length_replicate]; omega
theorem brR_zero (f : Nat → Int) (n : Nat) : brR f n 0 = List.replicate n 0 := by simp [brR]
theorem brR_all (f : Nat → Int) (n : Nat) : brR f n n = (List.range n).map f := by simp [brR]
theorem brR_set (f : Nat → Int) {n j : Nat} (h : j < n) : (ints (brR f n j)).set j (.int .i64 (f j)) = ints (brR f n (j + 1)) := by
  have e : List.replicate (n - j) (0 : Int) = 0 :: List.replicate (n - (j + 1)) 0 := by
    rw [show n - j = n - (j + 1) + 1 by omega, List.replicate_succ]
  have l : (ints ((List.range j).map f)).length = j := by rw [ints_len, List.length_map, List.length_range]
  unfold brR
  rw [e, range_snoc, List.append_assoc, ints_app, List.set_append_right _ _ (by omega), l, Nat.sub_self, ints_app]
  rfl
/-- a bar, as the program reckons it -/
theorem bar_is {T : List Int} {wd : Int} {i : Nat} (h : barB T wd = true) (hk : hvA T T.length < T.length) : barW T wd i = partN (T.getD i 0) wd (T.getD (hvA T T.length) 0) := by
  unfold barB at h
  simp only [Bool.and_eq_true, decide_eq_true_eq, List.all_eq_true] at h
  have m0 := h.2 _ (getD_mem hk)
  unfold barW
  by_cases z : 0 < T.getD (hvA T T.length) 0
  · rw [if_pos ⟨z, h.1⟩]
  · rw [if_neg (fun q => z q.1)]
    have e : T.getD (hvA T T.length) 0 = 0 := by omega
    rw [e]
    exact (part_no (by unfold partC; omega)).1.symm
theorem biNeg_any (x : Int) (w : World) : Calls Tryz.prog 50 #[.int .i64 x] w fun e w' => e = .returned (.bool (decide (x < 0))) ∧ w = w' := by
  by_cases h : x < 0
  · have h1 : decide (x < 0) = true := decide_eq_true h
    rw [h1]
    go_enter Tryz.func50, Tryz.ntmps50
    go_wp2_with fail
    go_ret
    exact ⟨rfl, rfl⟩
  · have h1 : decide (x < 0) = false := decide_eq_false h
    rw [h1]
    go_enter Tryz.func50, Tryz.ntmps50
    go_wp2_with fail
    go_ret
    exact ⟨rfl, rfl⟩
set_option maxHeartbeats 3200000 in
theorem biIdx_any {A : Option Addr} {n c : Nat} {T : List Int} (w : World) (h : IntsAt w (.slice A n c) T) (UB : Bds T) (hn : n ≤ 1000) (b : Bool) (hb : b = T.all fun x => decide (0 ≤ x)) :
    Calls Tryz.prog 92 #[.slice A n c, .func (.func 50) #[] #[]] w fun e w' => (∃ z : Int, e = .returned (.int .i64 z) ∧ (b = true → z = -1) ∧ (b = false → 0 ≤ z ∧ z ≤ 1000)) ∧ Below w.heap.size w w' := by
  have EG := enters_of Tryz.func50 (by kernel_rfl) rfl
  have HL := Lib.hid (ints_cells h).1
  have HA := Lib.hid h
  have HB := Lib.hid hb
  clear h UB hb
  go_enter Tryz.func92, Tryz.ntmps92
  go_wp2_with fail
  go_loopw [8] (fun i wr => ∃ j : Nat, j ≤ n ∧ i = .int .i64 j ∧ Hid (∀ i, i < j → 0 ≤ T.getD i 0) ∧ Below w.heap.size w wr) (fun i _ => n - (intOf i).toNat)
  case atStart => exact ⟨0, by omega, rfl, Lib.hid (fun i hi => absurd hi (by omega)), Below.refl _ _⟩
  case round =>
    obtain ⟨j, hj, rfl, hz, hbw⟩ := hrel
    have BW := Lib.hid hbw
    have EP := Lib.hid hz.out
    clear hz hbw
    by_cases hlt : j < n
    · have hjl : j < T.length := by have := HL.out; omega
      obtain ⟨bb, o, rfl, hbz, e0⟩ := biInts_at (HA.out.below BW.out) hlt
      have MM := Lib.hid (getD_mem hjl)
      have EX : Hid (∀ i, i < j + 1 → 0 ≤ T.getD j 0 → 0 ≤ T.getD i 0) := fun i hi h0 => by
        rcases Nat.lt_or_ge i j with q | q
        · exact EP.out i q
        · have : i = j := by omega
          subst this; exact h0
      have j0 : (0 : Int) ≤ (j : Int) := Int.natCast_nonneg _
      have j1 : (j : Int) < (n : Int) := by omega
      have NG := Lib.hid (fun v => biNeg_any (T.getD j 0) v)
      by_cases hx : T.getD j 0 < 0
      · have bf : b = false := by
          rw [HB.out]
          cases q : T.all fun x => decide (0 ≤ x)
          · rfl
          · have q2 := of_decide_eq_true (List.all_eq_true.1 q _ MM.out)
            omega
        rw [decide_eq_true hx] at NG
        clear EX MM EP HB
        generalize T.getD j 0 = x at *
        go_wp2_with (go_at_call 50; refine (NG.out _).mono ?_; rintro e w4 ⟨rfl, rfl⟩)
        go_ret
        exact ⟨⟨_, rfl, fun q => (by rw [bf] at q; cases q), fun _ => ⟨by omega, by omega⟩⟩, BW.out⟩
      · have EN : Hid (∀ i, i < j + 1 → 0 ≤ T.getD i 0) := fun i hi => EX.out i hi (by omega)
        rw [decide_eq_false hx] at NG
        clear EX MM EP
        generalize T.getD j 0 = x at *
        go_wp2_with (go_at_call 50; refine (NG.out _).mono ?_; rintro e w4 ⟨rfl, rfl⟩)
        go_roundw
        case rel => exact ⟨j + 1, by omega, by go_num, EN, BW.out⟩
        case measure => simp [intOf]; omega
    · obtain rfl : j = n := by omega
      have bt : b = true := by
        rw [HB.out]
        refine List.all_eq_true.2 fun x hx => ?_
        obtain ⟨i, hi, e⟩ := List.mem_iff_getElem.1 hx
        have := EP.out i (by have := HL.out; omega)
        have g : T.getD i 0 = x := by simp [List.getD_eq_getElem?_getD, hi, e]
        rw [g] at this
        exact decide_eq_true this
      clear EP HB
      go_wp2_with fail
      go_ret
      exact ⟨⟨_, rfl, fun _ => rfl, fun q => (by rw [bt] at q; cases q)⟩, BW.out⟩
theorem biHas_any {A : Option Addr} {n c : Nat} {T : List Int} (w : World) (h : IntsAt w (.slice A n c) T) (UB : Bds T) (hn : n ≤ 1000) (b : Bool) (hb : b = T.all fun x => decide (0 ≤ x)) :
    Calls Tryz.prog 49 #[.slice A n c, .func (.func 50) #[] #[]] w fun e w' => e = .returned (.bool (!b)) ∧ Below w.heap.size w w' := by
  have IX := Lib.hid (biIdx_any w h UB hn b hb)
  clear h UB hb
  go_enter Tryz.func49, Tryz.ntmps49
  go_wp2_with fail
  refine IX.out.mono ?_
  rintro e w1 ⟨⟨z, rfl, z1, z2⟩, hb1⟩
  cases b
  · obtain ⟨z3, z4⟩ := z2 rfl
    have z5 : decide (0 ≤ z) = true := decide_eq_true z3
    clear z1 z2
    go_wp2_with fail
    go_ret
    exact ⟨rfl, hb1⟩
  · have z3 := z1 rfl
    subst z3
    clear z1 z2
    go_wp2_with fail
    go_ret
    exact ⟨rfl, hb1⟩
set_option maxHeartbeats 6400000 in
theorem biBars_any {A : Option Addr} {n c : Nat} {T : List Int} (wd : Int) (w : World) (h : IntsAt w (.slice A n c) T) (UB : Bds T) (hn : n ≤ 1000) (W0 : -9223372036854775808 ≤ wd) (W1 : wd ≤ 9223372036854775807) :
    Calls Tryz.prog 22 #[.slice A n c, .int .i64 wd] w fun e w' => (∃ A2 n2 c2, e = .returned (.tuple #[.slice A2 n2 c2, .bool (barB T wd)]) ∧ IntsAt w' (.slice A2 n2 c2) (if barB T wd = true then barsN T wd else [])) ∧ Below w.heap.size w w' := by
  obtain ⟨i0, hi, hz0, hz1, hz2⟩ := info_parts rkInt_info
  have hmk := make_all (P := Tryz.prog) Tryz.underlying27 hi hz0 hz1 hz2 n n (Nat.mul_one _) (n : Int) rfl (by omega) (by omega)
  have HL := Lib.hid (ints_cells h).1
  have HA := Lib.hid h
  have HB := Lib.hid UB
  have BE : Hid (barB T wd = (decide (0 ≤ wd) && T.all fun x => decide (0 ≤ x))) := rfl
  obtain ⟨b, hb⟩ : ∃ b, b = T.all fun x => decide (0 ≤ x) := ⟨_, rfl⟩
  have HS := Lib.hid (biHas_any w h UB hn b hb)
  have HV := Lib.hid (fun v (hv : Below w.heap.size w v) => biHeav_any v (h.below hv) UB hn)
  rw [← hb] at BE
  clear h UB hb
  by_cases hw : wd < 0
  · have bf : barB T wd = false := by rw [BE.out, decide_eq_false (by omega)]; rfl
    rw [bf, if_neg (by decide)]
    have w1 : decide (wd < 0) = true := decide_eq_true hw
    clear BE bf hw
    go_enter Tryz.func22, Tryz.ntmps22
    go_wp2_with fail
    go_ret2
    exact ⟨⟨none, 0, 0, rfl, ints_nil _⟩, Below.refl _ _⟩
  have w1 : decide (wd < 0) = false := decide_eq_false hw
  cases b
  · have bf : barB T wd = false := by rw [BE.out]; simp
    rw [bf, if_neg (by decide)]
    clear BE bf hw
    go_enter Tryz.func22, Tryz.ntmps22
    go_wp2_with (go_at_call 49; refine HS.out.mono ?_; rintro e w1 ⟨rfl, hb1⟩)
    go_ret2
    exact ⟨⟨none, 0, 0, rfl, ints_nil _⟩, hb1⟩
  · have bt : barB T wd = true := by rw [BE.out, decide_eq_true (by omega)]; rfl
    have BI := Lib.hid (fun (i : Nat) (hk : hvA T T.length < T.length) => bar_is (i := i) bt hk)
    rw [bt, if_pos rfl]
    rw [← HL.out] at BI HV
    have hvl : hvA T n ≤ n - 1 := hv_le T n
    have VB : Hid (n ≠ 0 → -9223372036854775808 ≤ T.getD (hvA T n) 0 ∧ T.getD (hvA T n) 0 ≤ 9223372036854775807) := fun q => bds_at HB.out (by have := HL.out; omega)
    have BN : Hid (barsN T wd = (List.range n).map (barW T wd)) := by show _ = _; unfold barsN; rw [HL.out]
    have MX := Lib.hid (fun (q : n ≠ 0) (v : World) (hv : Below w.heap.size w v) => biInts_at (HA.out.below hv) (show hvA T n < n by omega))
    generalize hvA T n = hv at *
    obtain ⟨Bs, hBs⟩ : ∃ Bs, Bs = barsN T wd := ⟨_, rfl⟩
    rw [← hBs] at BN ⊢
    clear BE bt hw hBs
    go_enter Tryz.func22, Tryz.ntmps22
    go_wp2_with (first | (go_at_call 49; refine HS.out.mono ?_; rintro e w1 ⟨rfl, hb1⟩; have B1 := Lib.hid hb1; clear hb1) | fail)
    refine (HV.out _ B1.out).mono ?_
    rintro e w2 ⟨rfl, hb2⟩
    have B2 := Lib.hid (B1.out.trans (hb2.mono B1.out.size))
    clear hb2
    have z2 := B2.out.size
    have O3 := World.ownsRow_lit (base := w2.heap.size) (e := 3) (size := 1) w2 (blank (.int .i64 0) n) n (Nat.le_refl _) (by unfold maxLen; omega) (by rw [blank_size]; simp)
    rw [blank_ints, show List.replicate n (0 : Int) = brR (barW T wd) n 0 by rw [brR_zero]] at O3
    have HO := Lib.hid O3
    have BA := Lib.hid ((Below.refl w2.heap.size w2).alloc (Nat.le_refl _) (.cells (blank (.int .i64 0) n) 3))
    clear O3
    go_upto_region 5 with fail
    obtain ⟨gg, hgg⟩ : ∃ gg, gg = w2.heap.size := ⟨_, rfl⟩
    generalize w2.alloc (.cells (blank (.int .i64 0) n) 3) = W3 at *
    rw [← hgg] at HO ⊢
    have GG := Lib.hid hgg
    clear hgg
    go_wp2_with fail
    go_loopw [27] (fun i wr => ∃ i1 : Nat, i1 ≤ n ∧ i = .int .i64 i1 ∧ wr.ownsRow gg 3 1 (.slice (some ⟨gg, 0, none⟩) n n) n (ints (brR (barW T wd) n i1)) ∧ Below gg w2 wr) (fun i _ => n - (intOf i).toNat)
    case atStart => exact ⟨0, by omega, rfl, HO.out, by rw [GG.out]; exact BA.out⟩
    case round =>
      obtain ⟨i1, hj, rfl, ho, hbw⟩ := hrel
      have OO := Lib.hid ho
      have BW := Lib.hid (show Below w2.heap.size w2 wr by rw [← GG.out]; exact hbw)
      clear ho hbw
      by_cases hlt : i1 < n
      · have hjl : i1 < T.length := by have := HL.out; omega
        have n0 : n ≠ 0 := by omega
        have BR := Lib.hid (B2.out.trans (BW.out.mono z2))
        obtain ⟨bb, o, rfl, hbz, e0⟩ := biInts_at (HA.out.below BR.out) hlt
        obtain ⟨b', o', hbo, _, e1⟩ := MX.out n0 _ BR.out
        injection hbo with hbo
        injection hbo with hb1 hb2
        subst hb1 hb2
        have MS := Lib.hid (brR_set (barW T wd) (n := n) hlt)
        rw [BI.out i1 (by have := HL.out; omega)] at MS
        have bx := bds_at HB.out hjl
        have bm := VB.out n0
        have PT := Lib.hid (fun v => rePart_any (T.getD i1 0) wd (T.getD hv 0) v bx.1 bx.2 W0 W1 bm.1 bm.2)
        have ML := brR_len (barW T wd) (n := n) (j := i1) (by omega)
        have HG : gg < wr.heap.size := (World.ownsRow.lt OO.out gg rfl).2
        have k0 : (0 : Int) ≤ (hv : Int) := Int.natCast_nonneg _
        have k1 : (hv : Int) < (n : Int) := by omega
        have j0 : (0 : Int) ≤ (i1 : Int) := Int.natCast_nonneg _
        have j1 : (i1 : Int) < (n : Int) := by omega
        generalize brR (barW T wd) n i1 = P at *
        obtain ⟨P2, hP2⟩ : ∃ P2, P2 = brR (barW T wd) n (i1 + 1) := ⟨_, rfl⟩
        rw [← hP2] at MS
        have HP2 := Lib.hid hP2
        clear hP2 BI
        generalize partN (T.getD i1 0) wd (T.getD hv 0) = y at *
        generalize partB (T.getD i1 0) wd (T.getD hv 0) = yb at *
        generalize T.getD i1 0 = x at *
        generalize T.getD hv 0 = mx at *
        go_wp2_with fail
        refine (PT.out _).mono ?_
        rintro e w5 ⟨rfl, hb5⟩
        have O5 := Lib.hid (own_below OO.out hb5)
        have S5 := O5.out.stored i1 (.int .i64 y)
        rw [MS.out] at S5
        have SS := Lib.hid S5.1
        have B5 := Lib.hid (show Below gg w2 (w5.setCell ⟨gg, i1, none⟩ (.int .i64 y)) by
          have a := BW.out.trans (hb5.mono BW.out.size)
          rw [GG.out]
          exact a.setCell (p := ⟨w2.heap.size, i1, none⟩) (Nat.le_refl _) _)
        obtain ⟨pv, cc⟩ : ∃ pv, w5.cell? ⟨gg, i1, none⟩ = some (.int .i64 pv) := ⟨P.getD i1 0, by
          have hp : i1 < P.length := by omega
          rw [O5.out.cellAt i1 (by omega)]
          simp [ints, List.getD_eq_getElem?_getD, hp]⟩
        have ff := O5.out.frozenAt i1
        have gz := Nat.lt_of_lt_of_le HG hb5.size
        clear hb5 S5
        go_wp2_with fail
        go_roundw
        case rel => exact ⟨i1 + 1, by omega, by go_num, by rw [← HP2.out]; exact SS.out, B5.out⟩
        case measure => simp [intOf]; omega
      · obtain rfl : i1 = n := by omega
        have e : brR (barW T wd) i1 i1 = Bs := by rw [BN.out]; exact brR_all _ _
        have e2 : Bs.length = i1 := by rw [BN.out]; simp
        rw [e] at OO
        have I5 := Lib.hid (ownI_ints (e := 3) (B := gg) (w := wr) (v := .slice (some ⟨gg, 0, none⟩) i1 i1) (T := Bs) (by unfold OwnI; rw [e2]; exact OO.out))
        have B5 := Lib.hid (B2.out.trans (BW.out.mono z2))
        clear e e2
        go_wp2_with fail
        go_ret2
        exact ⟨⟨_, _, _, rfl, I5.out⟩, B5.out⟩
theorem biBr : BiBr := ⟨fun wd w h u hn a b => biBars_any wd w h u hn a b⟩
end Go.Proofs.YtnhagdlpidgkcaaGreat
