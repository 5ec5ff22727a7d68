/- The project's package dense: Add and Take of a store that lies in memory: what each tells, and the list that is there behind it. -/
import Derived.Test.YtfilmblpikcpnaaGreatDs
namespace Go.Proofs.YtfilmblpikcpnaaGreat
set_option linter.unusedVariables false
open Go.RowKit

theorem len_le_sum {L : List Nd} (h : Good L) : (L.length : Int) ≤ sumC L := by
  induction L with
  | nil => simp [sumC]
  | cons n L ih =>
    have := ih (nd_tail h)
    have := h.pos n (by simp)
    simp only [List.length_cons, sumC]; omega
theorem sum_bd {l : Int} {L : List Nd} (h : RollC l L) : 0 ≤ (L.length : Int) ∧ (L.length : Int) ≤ sumC L ∧ 0 ≤ sumC L ∧ sumC L ≤ 72057594037927935 :=
  ⟨Int.natCast_nonneg _, len_le_sum (roll_good h), sumC_nonneg h.2.2.2.1, h.2.2.2.2⟩
theorem addW_other {L : List Nd} {k : Nat} {c : Int} : ∀ i : Int, i ≠ (k : Int) → sumAt i (addW L (k : Int) c) = sumAt i L := fun i hi => by
  rw [addW_sum, if_neg (by omega)]; omega
theorem remW_other {L : List Nd} {k : Nat} : ∀ i : Int, i ≠ (k : Int) → sumAt i (remW L (k : Int)) = sumAt i L := fun i hi => by
  rw [rem_sum, if_neg (by omega)]

theorem sumAdd_ok {a b : Int} (w : World) (h : 0 ≤ a ∧ 0 ≤ b ∧ a + b ≤ 9223372036854775807) : Calls Tryz.prog 122 #[.int .i64 a, .int .i64 b] w fun e w' => e = .returned (.tuple #[.int .i64 (a + b), .bool true]) ∧ Below w.heap.size w w' := by
  have q := add_any a b w (by omega) (by omega) (by omega) (by omega)
  rw [(sum_yes h).1, (sum_yes h).2] at q
  exact q
theorem sumAdd_no {a b : Int} (w : World) (h : ¬ (0 ≤ a ∧ 0 ≤ b ∧ a + b ≤ 9223372036854775807)) (A0 : -9223372036854775808 ≤ a) (A1 : a ≤ 9223372036854775807) (B0 : -9223372036854775808 ≤ b) (B1 : b ≤ 9223372036854775807) : Calls Tryz.prog 122 #[.int .i64 a, .int .i64 b] w fun e w' => e = .returned (.tuple #[.int .i64 0, .bool false]) ∧ Below w.heap.size w w' := by
  have q := add_any a b w A0 A1 B0 B1
  rw [(sum_no h).1, (sum_no h).2] at q
  exact q
/-- what a call that may write leaves (136) -/
def DsPost (B g h : Nat) (l : Int) (M : List Nd) (n : Int) (w : World) (e : Ending) (w' : World) : Prop := e = .returned (.int .i64 n) ∧ DsA w' B g h l M ∧ Chg g h w w'
set_option maxHeartbeats 3200000 in
theorem dsAdd_any {B g h : Nat} {l : Int} {L : List Nd} (a b : Int) (w : World) (d : DsA w B g h l L) (hr : RollC l L) (L1 : l ≤ 16) (A0 : -9223372036854775808 ≤ a) (A1 : a ≤ 9223372036854775807) (B0 : -9223372036854775808 ≤ b) (B1 : b ≤ 9223372036854775807) :
    Calls Tryz.prog 101 #[.pointer (some ⟨g, 0, none⟩), .int .i64 a, .int .i64 b] w (DsPost B g h l (addS l L a b) (addE l L a b) w) := by
  have D : Hid (DsA w B g h l L) := d
  have R := Lib.hid hr
  have hu : 1 ≤ l := (of_decide_eq_true hr.1).1
  obtain ⟨n0, n1, s0, s1⟩ := sum_bd hr
  obtain ⟨c0, _, c2, _⟩ := d.cells
  by_cases hb : b < 0
  · have H := Lib.hid (add_arg (l := l) (L := L) (id := a) (c := b) (.inr hb))
    clear d hr
    go_enter Tryz.func101, Tryz.ntmps101
    go_wp2_with (go_at_call 106; refine (right_any _ _ _ (by omega) (by omega) A0 A1).mono ?_; rintro e w1 ⟨rfl, rfl⟩)
    all_goals (go_ret; exact ⟨ret_i (by rw [H.out.1]), by rw [H.out.2]; exact D.out, Chg.refl ..⟩)
  · cases hq : rightB l a
    · have H := Lib.hid (add_arg (l := l) (L := L) (id := a) (c := b) (.inl hq))
      clear d hr
      go_enter Tryz.func101, Tryz.ntmps101
      go_wp2_with (go_at_call 106; refine (right_any _ _ _ (by omega) (by omega) A0 A1).mono ?_; rintro e w1 ⟨rfl, rfl⟩)
      go_ret
      exact ⟨ret_i (by rw [H.out.1]), by rw [H.out.2]; exact D.out, Chg.refl ..⟩
    · obtain ⟨p0, p1⟩ := right_plc hq
      obtain ⟨k, rfl⟩ := Int.eq_ofNat_of_zero_le (show 0 ≤ a by omega)
      have hk : k < plcN l := by omega
      have hkk : (k : Int) < (plcN l : Int) := by omega
      by_cases hf : 72057594037927935 < sumC L + b
      · have H := Lib.hid (add_full hq hb hf)
        by_cases hm : sumC L + b ≤ 9223372036854775807
        · have S := Lib.hid (show 0 ≤ sumC L ∧ 0 ≤ b ∧ sumC L + b ≤ 9223372036854775807 from ⟨s0, by omega, hm⟩)
          clear d hr
          go_enter Tryz.func101, Tryz.ntmps101
          go_wp2_with (first | (go_at_call 106; refine (right_any _ _ _ (by omega) (by omega) A0 A1).mono ?_; rintro e w1 ⟨rfl, rfl⟩) | (go_at_call 122; refine (sumAdd_ok _ S.out).mono ?_; rintro e w1 ⟨rfl, hb1⟩))
          go_ret
          exact ⟨ret_i (by rw [H.out.1]), by rw [H.out.2]; exact D.out.below hb1, Chg.of hb1⟩
        · have S := Lib.hid (show ¬ (0 ≤ sumC L ∧ 0 ≤ b ∧ sumC L + b ≤ 9223372036854775807) from fun q => hm q.2.2)
          clear d hr
          go_enter Tryz.func101, Tryz.ntmps101
          go_wp2_with (first | (go_at_call 106; refine (right_any _ _ _ (by omega) (by omega) A0 A1).mono ?_; rintro e w1 ⟨rfl, rfl⟩) | (go_at_call 122; refine (sumAdd_no _ S.out (by omega) (by omega) B0 B1).mono ?_; rintro e w1 ⟨rfl, hb1⟩))
          go_ret
          exact ⟨ret_i (by rw [H.out.1]), by rw [H.out.2]; exact D.out.below hb1, Chg.of hb1⟩
      · have H := Lib.hid (add_ok hq hb hf)
        have LN : Hid ((sumAt (k : Int) L = 0 ∧ 0 < b → ((addW L (k : Int) b).length : Int) = (L.length : Int) + 1) ∧ (¬ (sumAt (k : Int) L = 0 ∧ 0 < b) → (addW L (k : Int) b).length = L.length)) := by
          have q := addW_len (id := (k : Int)) (c := b) (roll_good hr) (by omega)
          exact ⟨fun g => by rw [if_pos g] at q; exact q, fun g => by rw [if_neg g] at q; omega⟩
        have SM : Hid (sumAt (k : Int) (addW L (k : Int) b) = sumAt (k : Int) L + b) := by
          have q := addW_sum (k : Int) L (k : Int) b
          rw [if_pos rfl] at q; exact q
        have TT := Lib.hid (addW_tot L (k : Int) b)
        have sx := sum_le hr.2.2.2.1 (k : Int)
        have LT := Lib.hid d.lt
        have hgh : ¬ g = h := d.ne
        have hhg : ¬ h = g := fun e => d.ne e.symm
        have FP := Lib.hid (fun w1 (q : DsA w1 B g h l L) => (⟨q.cells, q.free, q.place hk⟩ : (w1.cell? ⟨g, 0, none⟩ = some (.int .i64 l) ∧ w1.cell? ⟨g, 1, none⟩ = some (.int .i64 (L.length : Int)) ∧ w1.cell? ⟨g, 2, none⟩ = some (.int .i64 (sumC L)) ∧ w1.cell? ⟨g, 3, none⟩ = some (.slice (some ⟨h, 0, none⟩) (plcN l) (plcN l))) ∧ (∀ k, w1.frozen? ⟨g, k, none⟩ = false ∧ w1.frozen? ⟨h, k, none⟩ = false) ∧ w1.cell? ⟨h, k, none⟩ = some (.int .i64 (sumAt (k : Int) L))))
        clear d hr
        generalize hx : sumAt (k : Int) L = x at *
        generalize hn : (L.length : Int) = n at *
        generalize hs : sumC L = s at *
        have HX := Lib.hid hx
        have HN := Lib.hid hn
        have HS := Lib.hid hs
        have S := Lib.hid (show 0 ≤ s ∧ 0 ≤ b ∧ s + b ≤ 9223372036854775807 from ⟨s0, by omega, by omega⟩)
        clear hx hn hs
        by_cases hy : x = 0 ∧ 0 < b
        · obtain ⟨hy1, hy2⟩ := hy
          subst hy1
          go_enter Tryz.func101, Tryz.ntmps101
          go_wp2_with (first | (go_at_call 106; refine (right_any _ _ _ (by omega) (by omega) A0 A1).mono ?_; rintro e w1 ⟨rfl, rfl⟩) | (go_at_call 122; refine (sumAdd_ok _ S.out).mono ?_; rintro e w1 ⟨rfl, hb1⟩; obtain ⟨⟨d0, d1, d2, d3⟩, df, dk⟩ := FP.out w1 (D.out.below hb1); have f1 := (df 1).1; have f2 := (df 2).1; have f3 := (df k).2; clear df))
          go_ret
          have e1 : ((addW L (k : Int) b).length : Int) = n + 1 := LN.out.1 ⟨by trivial, hy2⟩
          have e2 : sumAt (k : Int) (addW L (k : Int) b) = b := by have q := SM.out; omega
          have e3 : sumC (addW L (k : Int) b) = s + b := TT.out
          have Q := DsAt.put1 (D.out.below hb1) hk e1 e2 e3 addW_other
          exact ⟨ret_i (by rw [H.out.1]), by rw [H.out.2]; exact Q.1, (Chg.of hb1).trans Q.2⟩
        · have hy' : (x == 0 && decide (0 < b)) = false := by
            rw [Bool.and_eq_false_iff, beq_eq_false_iff_ne, decide_eq_false_iff_not]
            omega
          have HY : Hid (¬ (x = 0 ∧ 0 < b)) := hy
          by_cases hx0 : x = 0
          · subst hx0
            have hb0 : b = 0 := by omega
            subst hb0
            clear hy hy'
            go_enter Tryz.func101, Tryz.ntmps101
            go_wp2_with (first | (go_at_call 106; refine (right_any _ _ _ (by omega) (by omega) A0 A1).mono ?_; rintro e w1 ⟨rfl, rfl⟩) | (go_at_call 122; refine (sumAdd_ok _ S.out).mono ?_; rintro e w1 ⟨rfl, hb1⟩; obtain ⟨⟨d0, d1, d2, d3⟩, df, dk⟩ := FP.out w1 (D.out.below hb1); have f1 := (df 1).1; have f2 := (df 2).1; have f3 := (df k).2; clear df))
            go_ret
            have e1 : (addW L (k : Int) 0).length = L.length := rfl
            have e2 : sumAt (k : Int) (addW L (k : Int) 0) = 0 := HX.out
            have e3 : sumC (addW L (k : Int) 0) = s := by have q := TT.out; omega
            have Q := DsAt.put0 (D.out.below hb1) hk e1 e2 e3 addW_other
            exact ⟨ret_i (by rw [H.out.1]), by rw [H.out.2]; exact Q.1, (Chg.of hb1).trans Q.2⟩
          · have hx0' : (x == 0) = false := by simpa using hx0
            clear hy hy' hx0
            go_enter Tryz.func101, Tryz.ntmps101
            go_wp2_with (first | (go_at_call 106; refine (right_any _ _ _ (by omega) (by omega) A0 A1).mono ?_; rintro e w1 ⟨rfl, rfl⟩) | (go_at_call 122; refine (sumAdd_ok _ S.out).mono ?_; rintro e w1 ⟨rfl, hb1⟩; obtain ⟨⟨d0, d1, d2, d3⟩, df, dk⟩ := FP.out w1 (D.out.below hb1); have f1 := (df 1).1; have f2 := (df 2).1; have f3 := (df k).2; clear df))
            go_ret
            have e1 : (addW L (k : Int) b).length = L.length := LN.out.2 HY.out
            have e2 : sumAt (k : Int) (addW L (k : Int) b) = x + b := SM.out
            have e3 : sumC (addW L (k : Int) b) = s + b := TT.out
            have Q := DsAt.put0 (D.out.below hb1) hk e1 e2 e3 addW_other
            exact ⟨ret_i (by rw [H.out.1]), by rw [H.out.2]; exact Q.1, (Chg.of hb1).trans Q.2⟩
set_option maxHeartbeats 3200000 in
theorem dsTake_any {B g h : Nat} {l : Int} {L : List Nd} (a : Int) (w : World) (d : DsA w B g h l L) (hr : RollC l L) (L1 : l ≤ 16) (A0 : -9223372036854775808 ≤ a) (A1 : a ≤ 9223372036854775807) :
    Calls Tryz.prog 152 #[.pointer (some ⟨g, 0, none⟩), .int .i64 a] w (DsPost B g h l (remW L a) (sumAt a L) w) := by
  have D : Hid (DsA w B g h l L) := d
  have R := Lib.hid hr
  have sx := sum_le hr.2.2.2.1 a
  obtain ⟨n0, n1, s0, s1⟩ := sum_bd hr
  by_cases hx0 : sumAt a L = 0
  · have H := Lib.hid (rem_zero (roll_good hr) hx0)
    have HX := Lib.hid hx0
    clear d hr sx hx0
    go_enter Tryz.func152, Tryz.ntmps152
    go_wp2_with (go_at_call 99; refine (dsGet_any _ _ D.out R.out L1 A0 A1).mono ?_; rw [HX.out]; rintro e w1 ⟨rfl, rfl⟩)
    go_ret
    exact ⟨ret_i (by rw [HX.out]), by rw [H.out]; exact D.out, Chg.refl ..⟩
  · have hq : rightB l a = true := by
      cases q : rightB l a
      · exact absurd (sumAt_none fun n hn e => by have := (hr.2.2.1 n hn).1; rw [e, q] at this; simp at this) hx0
      · rfl
    obtain ⟨p0, p1⟩ := right_plc hq
    obtain ⟨k, rfl⟩ := Int.eq_ofNat_of_zero_le (show 0 ≤ a by omega)
    have hk : k < plcN l := by omega
    have hkk : (k : Int) < (plcN l : Int) := by omega
    have LN : Hid (((remW L (k : Int)).length : Int) = (L.length : Int) - 1) := by
      have q := rem_len (id := (k : Int)) (roll_good hr)
      rw [if_neg hx0] at q; exact q
    have SM : Hid (sumAt (k : Int) (remW L (k : Int)) = 0) := by
      have q := rem_sum (k : Int) L (k : Int)
      rw [if_pos rfl] at q; exact q
    have TT := Lib.hid (rem_tot L (k : Int))
    have hl1 : 1 ≤ (L.length : Int) := by
      rcases (show L.length = 0 ∨ 1 ≤ L.length by omega) with q | q
      · exfalso; rw [List.eq_nil_of_length_eq_zero q] at hx0; exact hx0 rfl
      · omega
    have hgh : ¬ g = h := d.ne
    have hhg : ¬ h = g := fun e => d.ne e.symm
    obtain ⟨⟨d0, d1, d2, d3⟩, df, dk⟩ := (⟨d.cells, d.free, d.place hk⟩ : (w.cell? ⟨g, 0, none⟩ = some (.int .i64 l) ∧ w.cell? ⟨g, 1, none⟩ = some (.int .i64 (L.length : Int)) ∧ w.cell? ⟨g, 2, none⟩ = some (.int .i64 (sumC L)) ∧ w.cell? ⟨g, 3, none⟩ = some (.slice (some ⟨h, 0, none⟩) (plcN l) (plcN l))) ∧ (∀ k, w.frozen? ⟨g, k, none⟩ = false ∧ w.frozen? ⟨h, k, none⟩ = false) ∧ w.cell? ⟨h, k, none⟩ = some (.int .i64 (sumAt (k : Int) L)))
    have f1 := (df 1).1
    have f2 := (df 2).1
    have f3 := (df k).2
    clear d df hr
    generalize hx : sumAt (k : Int) L = x at *
    generalize hn : (L.length : Int) = n at *
    generalize hs : sumC L = s at *
    have HX := Lib.hid hx
    have HN := Lib.hid hn
    have HS := Lib.hid hs
    have hx0' : (x == 0) = false := by simpa using hx0
    have HX0 := Lib.hid hx0
    clear hx hn hs hx0
    go_enter Tryz.func152, Tryz.ntmps152
    go_wp2_with (go_at_call 99; refine (dsGet_any _ _ D.out R.out L1 A0 A1).mono ?_; rw [HX.out]; rintro e w1 ⟨rfl, rfl⟩)
    go_ret
    have e1 : ((remW L (k : Int)).length : Int) = n - 1 := LN.out
    have e2 : sumAt (k : Int) (remW L (k : Int)) = 0 := SM.out
    have e3 : sumC (remW L (k : Int)) = s - x := TT.out
    have Q := DsAt.put2 D.out hk e1 e2 e3 remW_other
    exact ⟨rfl, Q.1, Q.2⟩

end Go.Proofs.YtfilmblpikcpnaaGreat
