/- Texts laid together: Ds, Ds2, Ds3. -/
import Derived.Test.YtkhacpapkalkiaaGreatMmy
import Derived.Test.YtkhacpapkalkiaaGreatTw
import Derived.Test.YtkhacpapkalkiaaGreatRk
import Derived.Laws.MakeOwn
import Derived.Test.YtkhacpapkalkiaaGreatRoQ
import Derived.Laws.CopyOwn
import Derived.StillTailTactics
import Derived.RegionTactic
import Derived.WalkSpells
/- The project's package dense: New, L, Len, Total, Get, Add, Take, of a store that lies in memory and of nil: each answers what the plain list says, and nothing else that was there is changed. -/
namespace Go.Proofs.YtkhacpapkalkiaaGreat
set_option linter.unusedVariables false
open Go.RowKit

/-- make of n elements: the cells stand for themselves -/
theorem make_all {P : Program} {t e : TypeId} {i : TypeInfo} {z : Value} (ht : P.underlying t = some (.slice e)) (hi : P.info? e = some i) (hz : i.zero = some z) {size bytes : Nat} (hs : i.size = size) (hb : i.bytes = bytes)
    (n k : Nat) (hk : n * size = k) (m : Int) (hm : m = (n : Int)) (hbytes : bytes * n ≤ 281474976710656) (h63 : n ≤ 9223372036854775807) (w : World) :
    (Instr.makeSlice t (.int .i64 m) (.int .i64 m)).run P w = .ok (.slice (some ⟨w.heap.size, 0, none⟩) n n) (w.alloc (.cells (blank z k) e)) := by
  subst hm hk
  have hbi : (i.bytes : Int) * (n : Int) ≤ 281474976710656 := by
    have h : ((bytes * n : Nat) : Int) ≤ 281474976710656 := by omega
    rw [hb]; rwa [Int.natCast_mul] at h
  have h := run_make (P := P) w t e i z ht hi hz .i64 .i64 n n (by omega) (Int.le_refl _) hbi (by omega)
  simp only [Int.toNat_natCast, hs] at h
  exact h
theorem blank_ints (n : Nat) : (blank (.int .i64 0) n).toList = ints (List.replicate n 0) := by
  have h : (Value.int .i64 0).cells = #[.int .i64 0] := rfl
  unfold blank
  rw [h, toList_madeCells_one]
  simp [ints]
/-- a store that was made just now -/
theorem ds_new {TD TI : TypeId} {w : World} {l : Int} (h16 : l ≤ 16) :
    DsAt TD TI ((w.alloc (.cells (blank (.int .i64 0) (plcN l)) TI)).alloc (.cells #[.int .i64 l, .int .i64 0, .int .i64 0, .slice (some ⟨w.heap.size, 0, none⟩) (plcN l) (plcN l)] TD)) w.heap.size (w.heap.size + 1) w.heap.size l [] := by
  have hp := plc_bd h16
  have a := World.ownsRow_lit (base := w.heap.size) (e := TI) (size := 1) w (blank (.int .i64 0) (plcN l)) (plcN l) (Nat.le_refl _) (by unfold maxLen; omega) (by rw [blank_size]; omega)
  have hs : (w.alloc (.cells (blank (.int .i64 0) (plcN l)) TI)).heap.size = w.heap.size + 1 := by simp
  have b := World.ownsRow_lit (base := w.heap.size) (e := TD) (size := 4) (w.alloc (.cells (blank (.int .i64 0) (plcN l)) TI)) #[.int .i64 l, .int .i64 0, .int .i64 0, .slice (some ⟨w.heap.size, 0, none⟩) (plcN l) (plcN l)] 1 (by omega) (by unfold maxLen; omega) rfl
  rw [hs] at b
  refine ⟨b, ?_, by omega⟩
  rw [tab_nil, ← blank_ints]
  exact a.alloc _
theorem dint_info : (Tryz.prog.info? 3).map (fun i => (i.zero, i.size, i.bytes)) = some (some (.int .i64 0), 1, 8) := by kernel_rfl
set_option maxHeartbeats 800000 in
theorem dsNew_no (l : Int) (w : World) (h : ¬ (1 ≤ l ∧ l ≤ 16)) : Calls Tryz.prog 142 #[.int .i64 l] w fun e w' => e = .returned (.tuple #[.pointer none, .int .i64 2]) ∧ w = w' := by
  by_cases h1 : l < 1
  · go_enter Tryz.func142, Tryz.ntmps142
    go_wp2_with fail
    go_ret2
    exact ⟨rfl, rfl⟩
  · have h2 : 16 < l := by omega
    clear h
    go_enter Tryz.func142, Tryz.ntmps142
    go_wp2_with fail
    go_ret2
    exact ⟨rfl, rfl⟩
set_option maxHeartbeats 800000 in
theorem dsNew_any (l : Int) (w : World) (h1 : 1 ≤ l) (h2 : l ≤ 16) : Calls Tryz.prog 142 #[.int .i64 l] w fun e w' =>
    ∃ g h, e = .returned (.tuple #[.pointer (some ⟨g, 0, none⟩), .int .i64 0]) ∧ DsAt 175 3 w' w.heap.size g h l [] ∧ Below w.heap.size w w' := by
  obtain ⟨i0, hi, hz0, hz1, hz2⟩ := info_parts dint_info
  have hp := plc_bd h2
  have b0 : (0 : Int) < 2 ^ l.toNat := two_pos _
  have b1 : (2 : Int) ^ l.toNat ≤ 65536 := two_le l.toNat 16 (by omega)
  have e3 : Hid ((2 : Int) * 2 ^ l.toNat = (plcN l : Nat)) := by show _ = _; unfold plcN; push_cast; rfl
  have hmk := make_all (P := Tryz.prog) Tryz.underlying49 hi hz0 hz1 hz2 (plcN l) (plcN l) (Nat.mul_one _) _ e3.out (by omega) (by omega)
  have D : Hid _ := ds_new (TD := 175) (TI := 3) (w := w) h2
  clear hi hp
  go_enter Tryz.func142, Tryz.ntmps142
  go_wp2_with fail
  go_ret2
  exact ⟨_, _, rfl, D.out, ((Below.refl _ _).alloc (Nat.le_refl _) _).alloc (by simp) _⟩

/-! ### nil -/
theorem dsL_nil (w : World) : Calls Tryz.prog 155 #[.pointer none] w fun e w' => e = .returned (.int .i64 0) ∧ w = w' := by
  go_enter Tryz.func155, Tryz.ntmps155
  go_wp2_with fail
  go_ret
  exact ⟨rfl, rfl⟩
theorem dsLen_nil (w : World) : Calls Tryz.prog 149 #[.pointer none] w fun e w' => e = .returned (.int .i64 0) ∧ w = w' := by
  go_enter Tryz.func149, Tryz.ntmps149
  go_wp2_with fail
  go_ret
  exact ⟨rfl, rfl⟩
theorem dsTotal_nil (w : World) : Calls Tryz.prog 87 #[.pointer none] w fun e w' => e = .returned (.int .i64 0) ∧ w = w' := by
  go_enter Tryz.func87, Tryz.ntmps87
  go_wp2_with fail
  go_ret
  exact ⟨rfl, rfl⟩
theorem dsSnap_nil (w : World) : Calls Tryz.prog 128 #[.pointer none] w fun e w' => e = .returned (.slice none 0 0) ∧ w = w' := by
  go_enter Tryz.func128, Tryz.ntmps128
  go_wp2_with fail
  go_ret
  exact ⟨rfl, rfl⟩
theorem dsAdd_nil (a b : Int) (w : World) : Calls Tryz.prog 147 #[.pointer none, .int .i64 a, .int .i64 b] w fun e w' => e = .returned (.int .i64 1) ∧ w = w' := by
  go_enter Tryz.func147, Tryz.ntmps147
  go_wp2_with fail
  go_ret
  exact ⟨rfl, rfl⟩
set_option maxHeartbeats 800000 in
theorem dsGet_nil (a : Int) (w : World) (A0 : -9223372036854775808 ≤ a) (A1 : a ≤ 9223372036854775807) : Calls Tryz.prog 162 #[.pointer none, .int .i64 a] w fun e w' => e = .returned (.int .i64 0) ∧ w = w' := by
  have hr := right_no (l := 0) (id := a) (fun g => by have := g.1; omega)
  go_enter Tryz.func162, Tryz.ntmps162
  go_wp2_with (first | (go_at_call 155; refine (dsL_nil _).mono ?_; rintro e w1 ⟨rfl, rfl⟩) | (go_at_call 92; refine (right_any _ _ _ (by omega) (by omega) A0 A1).mono ?_; rintro e w1 ⟨rfl, rfl⟩))
  go_ret
  exact ⟨rfl, rfl⟩
set_option maxHeartbeats 800000 in
theorem dsTake_nil (a : Int) (w : World) (A0 : -9223372036854775808 ≤ a) (A1 : a ≤ 9223372036854775807) : Calls Tryz.prog 208 #[.pointer none, .int .i64 a] w fun e w' => e = .returned (.int .i64 0) ∧ w = w' := by
  go_enter Tryz.func208, Tryz.ntmps208
  go_wp2_with (go_at_call 162; refine (dsGet_nil _ _ A0 A1).mono ?_; rintro e w1 ⟨rfl, rfl⟩)
  go_ret
  exact ⟨rfl, rfl⟩

/-! ### a store that lies in memory -/
abbrev DsA (w : World) (B g h : Nat) (l : Int) (L : List Nd) : Prop := DsAt 175 3 w B g h l L
theorem dsL_any {B g h : Nat} {l : Int} {L : List Nd} (w : World) (d : DsA w B g h l L) : Calls Tryz.prog 155 #[.pointer (some ⟨g, 0, none⟩)] w fun e w' => e = .returned (.int .i64 l) ∧ w = w' := by
  have c0 := d.cells.1
  clear d
  go_enter Tryz.func155, Tryz.ntmps155
  go_wp2_with fail
  go_ret
  exact ⟨rfl, rfl⟩
theorem dsLen_any {B g h : Nat} {l : Int} {L : List Nd} (w : World) (d : DsA w B g h l L) : Calls Tryz.prog 149 #[.pointer (some ⟨g, 0, none⟩)] w fun e w' => e = .returned (.int .i64 (L.length : Int)) ∧ w = w' := by
  have c0 := d.cells.2.1
  clear d
  go_enter Tryz.func149, Tryz.ntmps149
  go_wp2_with fail
  go_ret
  exact ⟨rfl, rfl⟩
theorem dsTotal_any {B g h : Nat} {l : Int} {L : List Nd} (w : World) (d : DsA w B g h l L) : Calls Tryz.prog 87 #[.pointer (some ⟨g, 0, none⟩)] w fun e w' => e = .returned (.int .i64 (sumC L)) ∧ w = w' := by
  have c0 := d.cells.2.2.1
  clear d
  go_enter Tryz.func87, Tryz.ntmps87
  go_wp2_with fail
  go_ret
  exact ⟨rfl, rfl⟩
set_option maxHeartbeats 800000 in
theorem dsGet_any {B g h : Nat} {l : Int} {L : List Nd} (a : Int) (w : World) (d : DsA w B g h l L) (hr : RollC l L) (L1 : l ≤ 16) (A0 : -9223372036854775808 ≤ a) (A1 : a ≤ 9223372036854775807) :
    Calls Tryz.prog 162 #[.pointer (some ⟨g, 0, none⟩), .int .i64 a] w fun e w' => e = .returned (.int .i64 (sumAt a L)) ∧ w = w' := by
  have D : Hid (DsA w B g h l L) := d
  have hu : 1 ≤ l := (of_decide_eq_true hr.1).1
  cases hq : rightB l a
  · have H : Hid (sumAt a L = 0) := sumAt_none fun n hn e => by have := (hr.2.2.1 n hn).1; rw [e, hq] at this; simp at this
    clear d hr
    go_enter Tryz.func162, Tryz.ntmps162
    go_wp2_with (first | (go_at_call 155; refine (dsL_any _ D.out).mono ?_; rintro e w1 ⟨rfl, rfl⟩) | (go_at_call 92; refine (right_any _ _ _ (by omega) (by omega) A0 A1).mono ?_; rintro e w1 ⟨rfl, rfl⟩))
    go_ret
    exact ⟨ret_i (by rw [H.out]), rfl⟩
  · obtain ⟨p0, p1⟩ := right_plc hq
    obtain ⟨k, rfl⟩ := Int.eq_ofNat_of_zero_le (show 0 ≤ a by omega)
    have hk : k < plcN l := by omega
    have c0 := d.place hk
    have c3 := d.cells.2.2.2
    clear d hr
    go_enter Tryz.func162, Tryz.ntmps162
    go_wp2_with (first | (go_at_call 155; refine (dsL_any _ D.out).mono ?_; rintro e w1 ⟨rfl, rfl⟩) | (go_at_call 92; refine (right_any _ _ _ (by omega) (by omega) A0 A1).mono ?_; rintro e w1 ⟨rfl, rfl⟩))
    go_ret
    exact ⟨rfl, rfl⟩

end Go.Proofs.YtkhacpapkalkiaaGreat

/- The project's package dense: Add and Take of a store that lies in memory: what each tells, and the list that is there behind it. -/
namespace Go.Proofs.YtkhacpapkalkiaaGreat
set_option linter.unusedVariables false
open Go.RowKit

theorem len_le_sum {L : List Nd} (h : Good L) : (L.length : Int) ≤ sumC L := by
  induction L with
  | nil => simp [sumC]
  | cons n L ih =>
    have := ih (nd_tail h)
    have := h.pos n (by simp)
    simp only [List.length_cons, sumC]; omega
theorem sum_bd {l : Int} {L : List Nd} (h : RollC l L) : 0 ≤ (L.length : Int) ∧ (L.length : Int) ≤ sumC L ∧ 0 ≤ sumC L ∧ sumC L ≤ 72057594037927935 :=
  ⟨Int.natCast_nonneg _, len_le_sum (roll_good h), sumC_nonneg h.2.2.2.1, h.2.2.2.2⟩
theorem addW_other {L : List Nd} {k : Nat} {c : Int} : ∀ i : Int, i ≠ (k : Int) → sumAt i (addW L (k : Int) c) = sumAt i L := fun i hi => by
  rw [addW_sum, if_neg (by omega)]; omega
theorem remW_other {L : List Nd} {k : Nat} : ∀ i : Int, i ≠ (k : Int) → sumAt i (remW L (k : Int)) = sumAt i L := fun i hi => by
  rw [rem_sum, if_neg (by omega)]

theorem sumAdd_ok {a b : Int} (w : World) (h : 0 ≤ a ∧ 0 ≤ b ∧ a + b ≤ 9223372036854775807) : Calls Tryz.prog 73 #[.int .i64 a, .int .i64 b] w fun e w' => e = .returned (.tuple #[.int .i64 (a + b), .bool true]) ∧ Below w.heap.size w w' := by
  have q := add_any a b w (by omega) (by omega) (by omega) (by omega)
  rw [(sum_yes h).1, (sum_yes h).2] at q
  exact q
theorem sumAdd_no {a b : Int} (w : World) (h : ¬ (0 ≤ a ∧ 0 ≤ b ∧ a + b ≤ 9223372036854775807)) (A0 : -9223372036854775808 ≤ a) (A1 : a ≤ 9223372036854775807) (B0 : -9223372036854775808 ≤ b) (B1 : b ≤ 9223372036854775807) : Calls Tryz.prog 73 #[.int .i64 a, .int .i64 b] w fun e w' => e = .returned (.tuple #[.int .i64 0, .bool false]) ∧ Below w.heap.size w w' := by
  have q := add_any a b w A0 A1 B0 B1
  rw [(sum_no h).1, (sum_no h).2] at q
  exact q
/-- what a call that may write leaves (175) -/
def DsPost (B g h : Nat) (l : Int) (M : List Nd) (n : Int) (w : World) (e : Ending) (w' : World) : Prop := e = .returned (.int .i64 n) ∧ DsA w' B g h l M ∧ Chg g h w w'
set_option maxHeartbeats 3200000 in
theorem dsAdd_any {B g h : Nat} {l : Int} {L : List Nd} (a b : Int) (w : World) (d : DsA w B g h l L) (hr : RollC l L) (L1 : l ≤ 16) (A0 : -9223372036854775808 ≤ a) (A1 : a ≤ 9223372036854775807) (B0 : -9223372036854775808 ≤ b) (B1 : b ≤ 9223372036854775807) :
    Calls Tryz.prog 147 #[.pointer (some ⟨g, 0, none⟩), .int .i64 a, .int .i64 b] w (DsPost B g h l (addS l L a b) (addE l L a b) w) := by
  have D : Hid (DsA w B g h l L) := d
  have R := Lib.hid hr
  have hu : 1 ≤ l := (of_decide_eq_true hr.1).1
  obtain ⟨n0, n1, s0, s1⟩ := sum_bd hr
  obtain ⟨c0, _, c2, _⟩ := d.cells
  by_cases hb : b < 0
  · have H := Lib.hid (add_arg (l := l) (L := L) (id := a) (c := b) (.inr hb))
    clear d hr
    go_enter Tryz.func147, Tryz.ntmps147
    go_wp2_with (go_at_call 92; refine (right_any _ _ _ (by omega) (by omega) A0 A1).mono ?_; rintro e w1 ⟨rfl, rfl⟩)
    all_goals (go_ret; exact ⟨ret_i (by rw [H.out.1]), by rw [H.out.2]; exact D.out, Chg.refl ..⟩)
  · cases hq : rightB l a
    · have H := Lib.hid (add_arg (l := l) (L := L) (id := a) (c := b) (.inl hq))
      clear d hr
      go_enter Tryz.func147, Tryz.ntmps147
      go_wp2_with (go_at_call 92; refine (right_any _ _ _ (by omega) (by omega) A0 A1).mono ?_; rintro e w1 ⟨rfl, rfl⟩)
      go_ret
      exact ⟨ret_i (by rw [H.out.1]), by rw [H.out.2]; exact D.out, Chg.refl ..⟩
    · obtain ⟨p0, p1⟩ := right_plc hq
      obtain ⟨k, rfl⟩ := Int.eq_ofNat_of_zero_le (show 0 ≤ a by omega)
      have hk : k < plcN l := by omega
      have hkk : (k : Int) < (plcN l : Int) := by omega
      by_cases hf : 72057594037927935 < sumC L + b
      · have H := Lib.hid (add_full hq hb hf)
        by_cases hm : sumC L + b ≤ 9223372036854775807
        · have S := Lib.hid (show 0 ≤ sumC L ∧ 0 ≤ b ∧ sumC L + b ≤ 9223372036854775807 from ⟨s0, by omega, hm⟩)
          clear d hr
          go_enter Tryz.func147, Tryz.ntmps147
          go_wp2_with (first | (go_at_call 92; refine (right_any _ _ _ (by omega) (by omega) A0 A1).mono ?_; rintro e w1 ⟨rfl, rfl⟩) | (go_at_call 73; refine (sumAdd_ok _ S.out).mono ?_; rintro e w1 ⟨rfl, hb1⟩))
          go_ret
          exact ⟨ret_i (by rw [H.out.1]), by rw [H.out.2]; exact D.out.below hb1, Chg.of hb1⟩
        · have S := Lib.hid (show ¬ (0 ≤ sumC L ∧ 0 ≤ b ∧ sumC L + b ≤ 9223372036854775807) from fun q => hm q.2.2)
          clear d hr
          go_enter Tryz.func147, Tryz.ntmps147
          go_wp2_with (first | (go_at_call 92; refine (right_any _ _ _ (by omega) (by omega) A0 A1).mono ?_; rintro e w1 ⟨rfl, rfl⟩) | (go_at_call 73; refine (sumAdd_no _ S.out (by omega) (by omega) B0 B1).mono ?_; rintro e w1 ⟨rfl, hb1⟩))
          go_ret
          exact ⟨ret_i (by rw [H.out.1]), by rw [H.out.2]; exact D.out.below hb1, Chg.of hb1⟩
      · have H := Lib.hid (add_ok hq hb hf)
        have LN : Hid ((sumAt (k : Int) L = 0 ∧ 0 < b → ((addW L (k : Int) b).length : Int) = (L.length : Int) + 1) ∧ (¬ (sumAt (k : Int) L = 0 ∧ 0 < b) → (addW L (k : Int) b).length = L.length)) := by
          have q := addW_len (id := (k : Int)) (c := b) (roll_good hr) (by omega)
          exact ⟨fun g => by rw [if_pos g] at q; exact q, fun g => by rw [if_neg g] at q; omega⟩
        have SM : Hid (sumAt (k : Int) (addW L (k : Int) b) = sumAt (k : Int) L + b) := by
          have q := addW_sum (k : Int) L (k : Int) b
          rw [if_pos rfl] at q; exact q
        have TT := Lib.hid (addW_tot L (k : Int) b)
        have sx := sum_le hr.2.2.2.1 (k : Int)
        have LT := Lib.hid d.lt
        have hgh : ¬ g = h := d.ne
        have hhg : ¬ h = g := fun e => d.ne e.symm
        have FP := Lib.hid (fun w1 (q : DsA w1 B g h l L) => (⟨q.cells, q.free, q.place hk⟩ : (w1.cell? ⟨g, 0, none⟩ = some (.int .i64 l) ∧ w1.cell? ⟨g, 1, none⟩ = some (.int .i64 (L.length : Int)) ∧ w1.cell? ⟨g, 2, none⟩ = some (.int .i64 (sumC L)) ∧ w1.cell? ⟨g, 3, none⟩ = some (.slice (some ⟨h, 0, none⟩) (plcN l) (plcN l))) ∧ (∀ k, w1.frozen? ⟨g, k, none⟩ = false ∧ w1.frozen? ⟨h, k, none⟩ = false) ∧ w1.cell? ⟨h, k, none⟩ = some (.int .i64 (sumAt (k : Int) L))))
        clear d hr
        generalize hx : sumAt (k : Int) L = x at *
        generalize hn : (L.length : Int) = n at *
        generalize hs : sumC L = s at *
        have HX := Lib.hid hx
        have HN := Lib.hid hn
        have HS := Lib.hid hs
        have S := Lib.hid (show 0 ≤ s ∧ 0 ≤ b ∧ s + b ≤ 9223372036854775807 from ⟨s0, by omega, by omega⟩)
        clear hx hn hs
        by_cases hy : x = 0 ∧ 0 < b
        · obtain ⟨hy1, hy2⟩ := hy
          subst hy1
          go_enter Tryz.func147, Tryz.ntmps147
          go_wp2_with (first | (go_at_call 92; refine (right_any _ _ _ (by omega) (by omega) A0 A1).mono ?_; rintro e w1 ⟨rfl, rfl⟩) | (go_at_call 73; refine (sumAdd_ok _ S.out).mono ?_; rintro e w1 ⟨rfl, hb1⟩; obtain ⟨⟨d0, d1, d2, d3⟩, df, dk⟩ := FP.out w1 (D.out.below hb1); have f1 := (df 1).1; have f2 := (df 2).1; have f3 := (df k).2; clear df))
          go_ret
          have e1 : ((addW L (k : Int) b).length : Int) = n + 1 := LN.out.1 ⟨by trivial, hy2⟩
          have e2 : sumAt (k : Int) (addW L (k : Int) b) = b := by have q := SM.out; omega
          have e3 : sumC (addW L (k : Int) b) = s + b := TT.out
          have Q := DsAt.put1 (D.out.below hb1) hk e1 e2 e3 addW_other
          exact ⟨ret_i (by rw [H.out.1]), by rw [H.out.2]; exact Q.1, (Chg.of hb1).trans Q.2⟩
        · have hy' : (x == 0 && decide (0 < b)) = false := by
            rw [Bool.and_eq_false_iff, beq_eq_false_iff_ne, decide_eq_false_iff_not]
            omega
          have HY : Hid (¬ (x = 0 ∧ 0 < b)) := hy
          by_cases hx0 : x = 0
          · subst hx0
            have hb0 : b = 0 := by omega
            subst hb0
            clear hy hy'
            go_enter Tryz.func147, Tryz.ntmps147
            go_wp2_with (first | (go_at_call 92; refine (right_any _ _ _ (by omega) (by omega) A0 A1).mono ?_; rintro e w1 ⟨rfl, rfl⟩) | (go_at_call 73; refine (sumAdd_ok _ S.out).mono ?_; rintro e w1 ⟨rfl, hb1⟩; obtain ⟨⟨d0, d1, d2, d3⟩, df, dk⟩ := FP.out w1 (D.out.below hb1); have f1 := (df 1).1; have f2 := (df 2).1; have f3 := (df k).2; clear df))
            go_ret
            have e1 : (addW L (k : Int) 0).length = L.length := rfl
            have e2 : sumAt (k : Int) (addW L (k : Int) 0) = 0 := HX.out
            have e3 : sumC (addW L (k : Int) 0) = s := by have q := TT.out; omega
            have Q := DsAt.put0 (D.out.below hb1) hk e1 e2 e3 addW_other
            exact ⟨ret_i (by rw [H.out.1]), by rw [H.out.2]; exact Q.1, (Chg.of hb1).trans Q.2⟩
          · have hx0' : (x == 0) = false := by simpa using hx0
            clear hy hy' hx0
            go_enter Tryz.func147, Tryz.ntmps147
            go_wp2_with (first | (go_at_call 92; refine (right_any _ _ _ (by omega) (by omega) A0 A1).mono ?_; rintro e w1 ⟨rfl, rfl⟩) | (go_at_call 73; refine (sumAdd_ok _ S.out).mono ?_; rintro e w1 ⟨rfl, hb1⟩; obtain ⟨⟨d0, d1, d2, d3⟩, df, dk⟩ := FP.out w1 (D.out.below hb1); have f1 := (df 1).1; have f2 := (df 2).1; have f3 := (df k).2; clear df))
            go_ret
            have e1 : (addW L (k : Int) b).length = L.length := LN.out.2 HY.out
            have e2 : sumAt (k : Int) (addW L (k : Int) b) = x + b := SM.out
            have e3 : sumC (addW L (k : Int) b) = s + b := TT.out
            have Q := DsAt.put0 (D.out.below hb1) hk e1 e2 e3 addW_other
            exact ⟨ret_i (by rw [H.out.1]), by rw [H.out.2]; exact Q.1, (Chg.of hb1).trans Q.2⟩
set_option maxHeartbeats 3200000 in
theorem dsTake_any {B g h : Nat} {l : Int} {L : List Nd} (a : Int) (w : World) (d : DsA w B g h l L) (hr : RollC l L) (L1 : l ≤ 16) (A0 : -9223372036854775808 ≤ a) (A1 : a ≤ 9223372036854775807) :
    Calls Tryz.prog 208 #[.pointer (some ⟨g, 0, none⟩), .int .i64 a] w (DsPost B g h l (remW L a) (sumAt a L) w) := by
  have D : Hid (DsA w B g h l L) := d
  have R := Lib.hid hr
  have sx := sum_le hr.2.2.2.1 a
  obtain ⟨n0, n1, s0, s1⟩ := sum_bd hr
  by_cases hx0 : sumAt a L = 0
  · have H := Lib.hid (rem_zero (roll_good hr) hx0)
    have HX := Lib.hid hx0
    clear d hr sx hx0
    go_enter Tryz.func208, Tryz.ntmps208
    go_wp2_with (go_at_call 162; refine (dsGet_any _ _ D.out R.out L1 A0 A1).mono ?_; rw [HX.out]; rintro e w1 ⟨rfl, rfl⟩)
    go_ret
    exact ⟨ret_i (by rw [HX.out]), by rw [H.out]; exact D.out, Chg.refl ..⟩
  · have hq : rightB l a = true := by
      cases q : rightB l a
      · exact absurd (sumAt_none fun n hn e => by have := (hr.2.2.1 n hn).1; rw [e, q] at this; simp at this) hx0
      · rfl
    obtain ⟨p0, p1⟩ := right_plc hq
    obtain ⟨k, rfl⟩ := Int.eq_ofNat_of_zero_le (show 0 ≤ a by omega)
    have hk : k < plcN l := by omega
    have hkk : (k : Int) < (plcN l : Int) := by omega
    have LN : Hid (((remW L (k : Int)).length : Int) = (L.length : Int) - 1) := by
      have q := rem_len (id := (k : Int)) (roll_good hr)
      rw [if_neg hx0] at q; exact q
    have SM : Hid (sumAt (k : Int) (remW L (k : Int)) = 0) := by
      have q := rem_sum (k : Int) L (k : Int)
      rw [if_pos rfl] at q; exact q
    have TT := Lib.hid (rem_tot L (k : Int))
    have hl1 : 1 ≤ (L.length : Int) := by
      rcases (show L.length = 0 ∨ 1 ≤ L.length by omega) with q | q
      · exfalso; rw [List.eq_nil_of_length_eq_zero q] at hx0; exact hx0 rfl
      · omega
    have hgh : ¬ g = h := d.ne
    have hhg : ¬ h = g := fun e => d.ne e.symm
    obtain ⟨⟨d0, d1, d2, d3⟩, df, dk⟩ := (⟨d.cells, d.free, d.place hk⟩ : (w.cell? ⟨g, 0, none⟩ = some (.int .i64 l) ∧ w.cell? ⟨g, 1, none⟩ = some (.int .i64 (L.length : Int)) ∧ w.cell? ⟨g, 2, none⟩ = some (.int .i64 (sumC L)) ∧ w.cell? ⟨g, 3, none⟩ = some (.slice (some ⟨h, 0, none⟩) (plcN l) (plcN l))) ∧ (∀ k, w.frozen? ⟨g, k, none⟩ = false ∧ w.frozen? ⟨h, k, none⟩ = false) ∧ w.cell? ⟨h, k, none⟩ = some (.int .i64 (sumAt (k : Int) L)))
    have f1 := (df 1).1
    have f2 := (df 2).1
    have f3 := (df k).2
    clear d df hr
    generalize hx : sumAt (k : Int) L = x at *
    generalize hn : (L.length : Int) = n at *
    generalize hs : sumC L = s at *
    have HX := Lib.hid hx
    have HN := Lib.hid hn
    have HS := Lib.hid hs
    have hx0' : (x == 0) = false := by simpa using hx0
    have HX0 := Lib.hid hx0
    clear hx hn hs hx0
    go_enter Tryz.func208, Tryz.ntmps208
    go_wp2_with (go_at_call 162; refine (dsGet_any _ _ D.out R.out L1 A0 A1).mono ?_; rw [HX.out]; rintro e w1 ⟨rfl, rfl⟩)
    go_ret
    have e1 : ((remW L (k : Int)).length : Int) = n - 1 := LN.out
    have e2 : sumAt (k : Int) (remW L (k : Int)) = 0 := SM.out
    have e3 : sumC (remW L (k : Int)) = s - x := TT.out
    have Q := DsAt.put2 D.out hk e1 e2 e3 remW_other
    exact ⟨rfl, Q.1, Q.2⟩

end Go.Proofs.YtkhacpapkalkiaaGreat

/- The project's package dense: Snap and Clone of a store that lies in memory. -/
namespace Go.Proofs.YtkhacpapkalkiaaGreat
set_option linter.unusedVariables false
open Go.RowKit

theorem roll_snap {l : Int} {L : List Nd} (h : RollC l L) : snapN L (plcN l) = L :=
  snap_all (roll_good h) fun n hn => by have := right_plc (h.2.2.1 n hn).1; omega
theorem roll_len {l : Int} {L : List Nd} (h : RollC l L) : L.length ≤ plcN l := by
  have := snap_len L (plcN l)
  rwa [roll_snap h] at this
/-- what a list handed out leaves -/
def ListPost (L : List Nd) (w : World) (e : Ending) (w' : World) : Prop := ∃ A m c, e = .returned (.slice A m c) ∧ NodesAt w' (.slice A m c) L ∧ Below w.heap.size w w'
theorem list_post {T : TypeId} {B : Nat} {L : List Nd} {v : Value} {w w' : World} (h : OwnNd T w' B v L) (hb : Below w.heap.size w w') : ListPost L w (.returned v) w' := by
  have hn := ownNd_nodes h
  have hf := hn
  obtain ⟨A, c, rfl, _⟩ := hn
  exact ⟨A, L.length, c, rfl, hf, hb⟩
/-- .. a row of its own -/
def ListOwn (T : TypeId) (L : List Nd) (w : World) (e : Ending) (w' : World) : Prop := ∃ A m c, e = .returned (.slice A m c) ∧ OwnNd T w' w.heap.size (.slice A m c) L ∧ Below w.heap.size w w'
theorem list_own {T : TypeId} {L : List Nd} {v : Value} {w w' : World} (h : OwnNd T w' w.heap.size v L) (hb : Below w.heap.size w w') : ListOwn T L w (.returned v) w' := by
  have hn := ownNd_nodes h
  obtain ⟨A, c, rfl, _⟩ := hn
  exact ⟨A, L.length, c, rfl, h, hb⟩
theorem list_forget {T : TypeId} {L : List Nd} {w w' : World} {e : Ending} (h : ListOwn T L w e w') : ListPost L w e w' := by
  obtain ⟨A, m, c, a, b, d⟩ := h
  exact ⟨A, m, c, a, ownNd_nodes b, d⟩
theorem splice_all {α : Type} (X Y : List α) (h : X.length = Y.length) : splice X 0 Y = Y := by
  unfold splice
  rw [List.take_zero, List.nil_append, List.drop_of_length_le (by omega), List.append_nil]
theorem own_of_heap {w : World} {B h N : Nat} {TI : TypeId} {ys : List Value} (hb : B ≤ h) (hN : N ≤ maxLen) (hl : ys.length = N) (hg : w.heap[h]? = some (.cells ys.toArray TI (0, 0))) : w.ownsRow B TI 1 (.slice (some ⟨h, 0, none⟩) N N) N ys :=
  ⟨by omega, .inr ⟨h, N, ys.toArray, rfl, hb, hg, Nat.le_refl _, hN, by simp; omega, by simp [← hl]⟩⟩

set_option maxHeartbeats 3200000 in
set_option maxRecDepth 100000 in
theorem dsSnap_own {B g h : Nat} {l : Int} {L : List Nd} (w : World) (d : DsA w B g h l L) (hr : RollC l L) (L1 : l ≤ 16) :
    Calls Tryz.prog 128 #[.pointer (some ⟨g, 0, none⟩)] w (ListOwn 83 L w) := by
  obtain ⟨i0, hi, hz0, hz1, hz2⟩ := info_parts node_info
  have hp := plc_bd L1
  have hll := roll_len hr
  obtain ⟨d0, d1, d2, d3⟩ := d.cells
  have hlt := d.lt
  have PL := Lib.hid (fun k (hk : k < plcN l) => d.place hk)
  have SN := Lib.hid (roll_snap hr)
  have SL := Lib.hid (snap_len L)
  have NN := Lib.hid (sum_le hr.2.2.2.1)
  have S1 := Lib.hid hr.2.2.2.2
  clear d hr d0 d2
  have hmk := make_room (P := Tryz.prog) Tryz.underlying24 hi hz0 hz1 hz2 L.length (by omega) (by omega) w
  generalize plcN l = N at *
  generalize L.length = n at *
  go_enter Tryz.func128, Tryz.ntmps128
  go_wp2_with fail
  clear hmk
  go_loopw [3, 18] (fun v i wr => ∃ k : Nat, k ≤ N ∧ i = .int .i64 k ∧ OwnNd 83 wr w.heap.size v (snapN L k) ∧ Below w.heap.size w wr) (fun _ i _ => N - (intOf i).toNat)
  case atStart => exact ⟨0, by omega, rfl, room_own (Nat.le_refl _) (by unfold maxLen; omega), (Below.refl _ _).alloc (Nat.le_refl _) _⟩
  case round =>
    rename_i wr
    obtain ⟨k, hk, rfl, hown, hb⟩ := hrel
    have HO := Lib.hid hown
    have hsz := hb.size
    clear hown
    by_cases hlt2 : k < N
    · have hbh : h < w.heap.size := hlt.2.2.2
      have e0 := (hb.cell (p := ⟨h, k, none⟩) hbh).trans (PL.out k hlt2)
      have hsl := SL.out k
      have hx0 := (NN.out (k : Int)).1
      have hx1 := (NN.out (k : Int)).2
      have hx2 := S1.out
      have YS := Lib.hid (fun q => snap_yes (L := L) (k := k) q)
      have NS := Lib.hid (fun q => snap_no (L := L) (k := k) q)
      generalize sumAt (k : Int) L = x at *
      by_cases q : 0 < x
      · have Y := Lib.hid (YS.out q)
        have X1 : Hid (x ≤ 9223372036854775807) := by show x ≤ _; omega
        clear YS NS hx1 hx2
        go_wp2_with (at_builtin; refine wpList_append_own _ rfl _ _ 24 rfl w.heap.size 83 i0 (.agg #[.int .i64 0, .int .i64 0]) 2 16 Tryz.underlying24 hi hz0 hz1 hz2 rfl (by decide) _ (snapN L k).length (nods (snapN L k)) rfl (World.ownsRow.alloc HO.out _) ⟨wr.heap.size, 0, none⟩ 1 1 [.int .i64 k, .int .i64 x] rfl rfl (two_new _ _ _ _ _ (by simp)) (two_cell _ _) (by unfold maxLen; omega) (by omega) (by simp; omega) ?_)
        intro v' w3 hown2 hgrow _
        have hb3 : Below w.heap.size w w3 := (hb.alloc (by omega) _).grown hgrow (by simp; omega) (fun g hg => (World.ownsRow.lt HO.out g hg).1)
        have HO2 := Lib.hid (ownNd_snoc hown2)
        clear hown2 hgrow
        go_wp2_with fail
        go_roundw
        case rel => exact ⟨k + 1, by omega, by go_num, by rw [Y.out]; exact HO2.out, hb3⟩
        case measure => simp [intOf]; omega
      · have Y := Lib.hid (NS.out q)
        clear YS NS
        go_wp2_with fail
        go_roundw
        case rel => exact ⟨k + 1, by omega, by go_num, by rw [Y.out]; exact HO.out, hb⟩
        case measure => simp [intOf]; omega
    · have hkn : k = N := by omega
      subst hkn
      have HO2 := Lib.hid (show OwnNd 83 wr w.heap.size _ L from by have q := HO.out; rw [SN.out] at q; exact q)
      go_wp2_with fail
      go_ret
      exact list_own HO2.out hb
theorem dsSnap_any {B g h : Nat} {l : Int} {L : List Nd} (w : World) (d : DsA w B g h l L) (hr : RollC l L) (L1 : l ≤ 16) :
    Calls Tryz.prog 128 #[.pointer (some ⟨g, 0, none⟩)] w (ListPost L w) := (dsSnap_own w d hr L1).mono fun _ _ q => list_forget q
theorem clone_facts {TD TI : TypeId} {B g h N : Nat} {l : Int} {L : List Nd} {w : World} {a b c : Value} (h3 : w.cell? ⟨g, 3, none⟩ = some (.slice (some ⟨h, 0, none⟩) N N)) (hg : g < w.heap.size) (hh : h < w.heap.size) :
    ((w.alloc (.cells #[a, b, c, .slice (some ⟨w.heap.size + 1, 0, none⟩) N N] TD)).alloc (.cells (blank (.int .i64 0) N) TI)).cell? ⟨w.heap.size, 3, none⟩ = some (.slice (some ⟨w.heap.size + 1, 0, none⟩) N N) ∧
    ((w.alloc (.cells #[a, b, c, .slice (some ⟨w.heap.size + 1, 0, none⟩) N N] TD)).alloc (.cells (blank (.int .i64 0) N) TI)).cell? ⟨g, 3, none⟩ = some (.slice (some ⟨h, 0, none⟩) N N) ∧
    ((w.alloc (.cells #[a, b, c, .slice (some ⟨w.heap.size + 1, 0, none⟩) N N] TD)).alloc (.cells (blank (.int .i64 0) N) TI)).heap[w.heap.size + 1]? = some (.cells (blank (.int .i64 0) N) TI (0, 0)) ∧
    Below w.heap.size w ((w.alloc (.cells #[a, b, c, .slice (some ⟨w.heap.size + 1, 0, none⟩) N N] TD)).alloc (.cells (blank (.int .i64 0) N) TI)) ∧
    ((w.alloc (.cells #[a, b, c, .slice (some ⟨w.heap.size + 1, 0, none⟩) N N] TD)).alloc (.cells (blank (.int .i64 0) N) TI)).ownsRow w.heap.size TD 4 (.slice (some ⟨w.heap.size, 0, none⟩) 1 1) 1 [a, b, c, .slice (some ⟨w.heap.size + 1, 0, none⟩) N N] ∧
    ((w.alloc (.cells #[a, b, c, .slice (some ⟨w.heap.size + 1, 0, none⟩) N N] TD)).alloc (.cells (blank (.int .i64 0) N) TI)).heap.size = w.heap.size + 2 := by
  have o := World.ownsRow_lit (base := w.heap.size) (e := TD) (size := 4) w #[a, b, c, .slice (some ⟨w.heap.size + 1, 0, none⟩) N N] 1 (Nat.le_refl _) (by unfold maxLen; omega) rfl
  have o2 := o.alloc (.cells (blank (.int .i64 0) N) TI)
  have hb : Below w.heap.size w ((w.alloc (.cells #[a, b, c, .slice (some ⟨w.heap.size + 1, 0, none⟩) N N] TD)).alloc (.cells (blank (.int .i64 0) N) TI)) := ((Below.refl _ _).alloc (Nat.le_refl _) _).alloc (by simp) _
  refine ⟨o2.cellAt 3 (by omega), (hb.cell (p := ⟨g, 3, none⟩) hg).trans h3, ?_, hb, o2, by simp⟩
  have q := heap_alloc_new (w.alloc (.cells #[a, b, c, .slice (some ⟨w.heap.size + 1, 0, none⟩) N N] TD)) (.cells (blank (.int .i64 0) N) TI)
  have e : (w.alloc (.cells #[a, b, c, .slice (some ⟨w.heap.size + 1, 0, none⟩) N N] TD)).heap.size = w.heap.size + 1 := by simp
  rw [e] at q
  exact q
end Go.Proofs.YtkhacpapkalkiaaGreat
