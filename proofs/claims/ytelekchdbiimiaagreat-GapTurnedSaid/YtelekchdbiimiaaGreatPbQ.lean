/- Texts laid together: Pb, Pb2, Pb3, Pb4, Pb5, Pb6, Pb7, Pb9. -/
import Derived.Test.YtelekchdbiimiaaGreatMmy
import Derived.Test.YtelekchdbiimiaaGreatRoQ
import Derived.BigQuiet
import Derived.WalkMore
import Derived.Deep.QuietTactic
import Derived.Laws.OwnMore
import Derived.BigRegion
namespace Go.Proofs.YtelekchdbiimiaaGreat
set_option linter.unusedVariables false
open Go.RowKit
theorem div_two (x m : Nat) : ((x : Nat) : Int) / (2 : Int) ^ m = ((x / 2 ^ m : Nat) : Int) := by rw [Int.natCast_ediv, Int.natCast_pow]; rfl
theorem mix_word {k : Nat} (h2 : k ≤ 9223372036854775807) : IntKind.u64.wrap ((k : Int) * 11400714819323198485) = ((k * 11400714819323198485 % 18446744073709551616 : Nat) : Int) := by rw [IntKind.wrap_u64]; omega
theorem home_word {b : Nat} {id : Int} (h1 : 1 ≤ id) (h2 : id ≤ 9223372036854775807) (hb1 : 1 ≤ b) (hb : b ≤ 62) :
    wrap64 (IntKind.u64.wrap (id * 11400714819323198485) / 2 ^ (64 - b)) = (homeN b id : Nat) := by
  have hh := home_lt hb id
  have hp : 2 ^ b ≤ 2 ^ 62 := Nat.pow_le_pow_right (by omega) hb
  have hq : (2 : Nat) ^ 62 = 4611686018427387904 := by decide
  obtain ⟨k, rfl⟩ := Int.eq_ofNat_of_zero_le (show 0 ≤ id by omega)
  rw [mix_word (by omega), div_two]
  have e : homeN b (k : Int) = k * 11400714819323198485 % 18446744073709551616 / 2 ^ (64 - b) := by unfold homeN; rw [Int.toNat_natCast]
  rw [← e]
  generalize homeN b (k : Int) = x at *
  unfold wrap64
  omega
set_option maxHeartbeats 800000 in
theorem pbHome_any (b id : Int) (w : World) (B0 : -9223372036854775808 ≤ b) (B1 : b ≤ 9223372036854775807) (A0 : -9223372036854775808 ≤ id) (A1 : id ≤ 9223372036854775807) :
    Calls Tryz.prog 212 #[.int .i64 b, .int .i64 id] w fun e w' => e = .returned (.int .i64 (homeV b id)) ∧ w = w' := by
  by_cases h : b < 1 ∨ 62 < b ∨ id < 1
  · have H := Lib.hid (homeV_no h)
    rcases (show b < 1 ∨ (1 ≤ b ∧ 62 < b) ∨ (1 ≤ b ∧ b ≤ 62 ∧ id < 1) by omega) with q | ⟨q1, q2⟩ | ⟨q1, q2, q3⟩
    all_goals
      clear h
      go_enter Tryz.func212, Tryz.ntmps212
      go_wp2_with fail
      go_ret
      exact ⟨ret_i (by rw [H.out]), rfl⟩
  · have h1 : 1 ≤ b := by omega
    have h2 : b ≤ 62 := by omega
    have h3 : 1 ≤ id := by omega
    have H := Lib.hid (homeV_yes h1 h2 h3)
    obtain ⟨k, rfl⟩ := Int.eq_ofNat_of_zero_le (show 0 ≤ b by omega)
    have HW := Lib.hid (home_word (b := k) h3 A1 (by omega) (by omega))
    clear h
    go_enter Tryz.func212, Tryz.ntmps212
    go_wp2_with fail
    go_ret
    refine ⟨ret_i ?_, rfl⟩
    rw [H.out, Int.toNat_natCast]; exact HW.out
theorem blank_nodes (n : Nat) : (blank (.agg #[.int .i64 0, .int .i64 0]) (n * 2)).toList = nods (List.replicate n nz) := by
  have h : (Value.agg #[.int .i64 0, .int .i64 0]).cells = #[.int .i64 0, .int .i64 0] := rfl
  have e : nods (List.replicate n nz) = List.replicate (n * 2) (.int .i64 0) := by
    induction n with
    | zero => rfl
    | succ n ih =>
      have e1 : (n + 1) * 2 = n * 2 + 1 + 1 := by omega
      rw [List.replicate_succ, e1, List.replicate_succ, List.replicate_succ, ← ih]
      rfl
  rw [e]
  unfold blank
  rw [h]
  refine List.ext_getElem? fun i => ?_
  by_cases hj : i < n * 2
  · rcases (show i % 2 = 0 ∨ i % 2 = 1 by omega) with q | q
    · simp [madeCells, hj, q]
    · simp [madeCells, hj, q]
  · simp [madeCells, hj]
/-- a table that was made just now -/
theorem ps_new {TD TN : TypeId} {w : World} {l n t : Int} {b : Nat} (hb : b ≤ 40) :
    PbM TD TN ((w.alloc (.cells (blank (.agg #[.int .i64 0, .int .i64 0]) (2 ^ b * 2)) TN)).alloc (.cells #[.int .i64 l, .int .i64 n, .int .i64 t, .int .i64 (b : Int), .slice (some ⟨w.heap.size, 0, none⟩) (2 ^ b) (2 ^ b)] TD)) w.heap.size (w.heap.size + 1) w.heap.size l n t b (List.replicate (2 ^ b) nz) := by
  have hp : 2 ^ b ≤ 2 ^ 40 := Nat.pow_le_pow_right (by omega) hb
  have hq : (2 : Nat) ^ 40 = 1099511627776 := by decide
  have a := World.ownsRow_lit (base := w.heap.size) (e := TN) (size := 2) w (blank (.agg #[.int .i64 0, .int .i64 0]) (2 ^ b * 2)) (2 ^ b) (Nat.le_refl _) (by unfold maxLen; omega) (by rw [blank_size])
  have hs : (w.alloc (.cells (blank (.agg #[.int .i64 0, .int .i64 0]) (2 ^ b * 2)) TN)).heap.size = w.heap.size + 1 := by simp
  have c := World.ownsRow_lit (base := w.heap.size) (e := TD) (size := 5) (w.alloc (.cells (blank (.agg #[.int .i64 0, .int .i64 0]) (2 ^ b * 2)) TN)) #[.int .i64 l, .int .i64 n, .int .i64 t, .int .i64 (b : Int), .slice (some ⟨w.heap.size, 0, none⟩) (2 ^ b) (2 ^ b)] 1 (by omega) (by unfold maxLen; omega) rfl
  rw [hs] at c
  refine ⟨c, ?_, by omega⟩
  rw [← blank_nodes]
  exact a.alloc _
abbrev PbA (w : World) (B g h : Nat) (l n t : Int) (b : Nat) (S : List Nd) : Prop := PbM 180 77 w B g h l n t b S
set_option maxHeartbeats 800000 in
theorem pbNew_no (l : Int) (w : World) (h : ¬ (1 ≤ l ∧ l ≤ 48)) : Calls Tryz.prog 130 #[.int .i64 l] w fun e w' => e = .returned (.tuple #[.pointer none, .int .i64 2]) ∧ w = w' := by
  by_cases h1 : l < 1
  · go_enter Tryz.func130, Tryz.ntmps130
    go_wp2_with fail
    go_ret2
    exact ⟨rfl, rfl⟩
  · have h2 : 48 < l := by omega
    clear h
    go_enter Tryz.func130, Tryz.ntmps130
    go_wp2_with fail
    go_ret2
    exact ⟨rfl, rfl⟩
set_option maxHeartbeats 800000 in
theorem pbNew_any (l : Int) (w : World) (h1 : 1 ≤ l) (h2 : l ≤ 48) : Calls Tryz.prog 130 #[.int .i64 l] w fun e w' =>
    ∃ g h, e = .returned (.tuple #[.pointer (some ⟨g, 0, none⟩), .int .i64 0]) ∧ PbA w' w.heap.size g h l 0 0 3 (List.replicate 8 nz) ∧ Below w.heap.size w w' := by
  obtain ⟨i0, hi, hz0, hz1, hz2⟩ := info_parts node_info
  have hmk := make_all (P := Tryz.prog) Tryz.underlying24 hi hz0 hz1 hz2 8 16 rfl 8 rfl (by omega) (by omega)
  have D : Hid _ := ps_new (TD := 180) (TN := 77) (w := w) (l := l) (n := 0) (t := 0) (b := 3) (by omega)
  clear hi
  go_enter Tryz.func130, Tryz.ntmps130
  go_wp2_with fail
  go_ret2
  exact ⟨_, _, rfl, D.out, ((Below.refl _ _).alloc (Nat.le_refl _) _).alloc (by simp) _⟩
theorem pbClone_nil (w : World) : Calls Tryz.prog 82 #[.pointer none] w fun e w' => e = .returned (.pointer none) ∧ w = w' := by
  go_enter Tryz.func82, Tryz.ntmps82
  go_wp2_with fail
  go_ret
  exact ⟨rfl, rfl⟩
section
variable {B g h b : Nat} {l n t : Int} {S : List Nd}
theorem pbL_any (w : World) (d : PbA w B g h l n t b S) : Calls Tryz.prog 142 #[.pointer (some ⟨g, 0, none⟩)] w fun e w' => e = .returned (.int .i64 l) ∧ w = w' := by
  have c0 := d.cells.1
  clear d
  go_enter Tryz.func142, Tryz.ntmps142
  go_wp2_with fail
  go_ret
  exact ⟨rfl, rfl⟩
theorem pbLen_any (w : World) (d : PbA w B g h l n t b S) : Calls Tryz.prog 135 #[.pointer (some ⟨g, 0, none⟩)] w fun e w' => e = .returned (.int .i64 n) ∧ w = w' := by
  have c0 := d.cells.2.1
  clear d
  go_enter Tryz.func135, Tryz.ntmps135
  go_wp2_with fail
  go_ret
  exact ⟨rfl, rfl⟩
theorem pbTotal_any (w : World) (d : PbA w B g h l n t b S) : Calls Tryz.prog 84 #[.pointer (some ⟨g, 0, none⟩)] w fun e w' => e = .returned (.int .i64 t) ∧ w = w' := by
  have c0 := d.cells.2.2.1
  clear d
  go_enter Tryz.func84, Tryz.ntmps84
  go_wp2_with fail
  go_ret
  exact ⟨rfl, rfl⟩
set_option maxHeartbeats 800000 in
theorem pbBehind_any (w : World) (d : PbA w B g h l n t b S) (a : Nat) (ha : a < 2 ^ b) (hb : b ≤ 40) : Calls Tryz.prog 213 #[.pointer (some ⟨g, 0, none⟩), .int .i64 (a : Int)] w fun e w' => e = .returned (.int .i64 (tNx (2 ^ b) a : Nat)) ∧ w = w' := by
  have c0 := d.cells.2.2.2.2
  have hp : 2 ^ b ≤ 2 ^ 40 := Nat.pow_le_pow_right (by omega) hb
  have hq : (2 : Nat) ^ 40 = 1099511627776 := by decide
  clear d
  generalize 2 ^ b = N at *
  have nx := nx_is ha
  have E : Hid (((a : Int) + 1) % (N : Int) = (tNx N a : Nat)) := by
    show _ = _
    rcases nx.2 with q | ⟨q, q2⟩
    · rw [q, Int.emod_eq_of_lt (by omega) (by omega)]; omega
    · rw [q, show (a : Int) + 1 = (N : Int) by omega, Int.emod_self]; rfl
  have hN : (N : Int) ≠ 0 := by omega
  go_enter Tryz.func213, Tryz.ntmps213
  go_wp2_with fail
  go_ret
  exact ⟨ret_i (by rw [← E.out]), rfl⟩
set_option maxHeartbeats 1600000 in
theorem pbSteps_any (w : World) (d : PbA w B g h l n t b S) (a c : Nat) (ha : a < 2 ^ b) (hc : c < 2 ^ b) (hb : b ≤ 40) : Calls Tryz.prog 225 #[.pointer (some ⟨g, 0, none⟩), .int .i64 (a : Int), .int .i64 (c : Int)] w fun e w' => e = .returned (.int .i64 (tDs (2 ^ b) a c : Nat)) ∧ ∃ q, w' = w.drewN q := by
  have c0 := d.cells.2.2.2.2
  have hp : 2 ^ b ≤ 2 ^ 40 := Nat.pow_le_pow_right (by omega) hb
  have hq : (2 : Nat) ^ 40 = 1099511627776 := by decide
  clear d
  generalize 2 ^ b = N at *
  have nx := ds_is ha hc
  have E : Hid (((c : Int) - (a : Int) + (N : Int)) % (N : Int) = (tDs N a c : Nat)) := by
    show _ = _
    rcases nx.2 with q | q
    · rw [show (c : Int) - (a : Int) + (N : Int) = (tDs N a c : Int) + N by omega, Int.add_emod_right, Int.emod_eq_of_lt (by omega) (by omega)]
    · rw [show (c : Int) - (a : Int) + (N : Int) = (tDs N a c : Int) by omega, Int.emod_eq_of_lt (by omega) (by omega)]
  have hN : (N : Int) ≠ 0 := by omega
  go_enter Tryz.func225, Tryz.ntmps225
  go_wp2_with fail
  go_quiet (fail)
  go_wp2_with fail
  go_ret
  exact ⟨ret_i (by rw [← E.out]), _, rfl⟩
end
end Go.Proofs.YtelekchdbiimiaaGreat
namespace Go.Proofs.YtelekchdbiimiaaGreat
set_option linter.unusedVariables false
open Go.RowKit
section
variable {B g h b : Nat} {l n t : Int} {S : List Nd}
theorem pow_40 {b : Nat} (h : b ≤ 40) : 2 ^ b ≤ 1099511627776 := by
  have hp : 2 ^ b ≤ 2 ^ 40 := Nat.pow_le_pow_right (by omega) h
  have hq : (2 : Nat) ^ 40 = 1099511627776 := by decide
  omega
set_option maxHeartbeats 1600000 in
/-- where looking ends, and how many slots are looked at (the home is a number of its own: the kernel must not meet what it is) -/
theorem pbLook_core (w : World) (d : PbA w B g h l n t b S) (id : Int) (k hm p N : Nat) (HN : Hid (2 ^ b = N)) (hb1 : 1 ≤ b) (hb : b ≤ 40) (h1 : 1 ≤ id) (A1 : id ≤ 9223372036854775807) (HV : Hid (homeV (b : Int) id = (hm : Nat))) (hh : hm < N) (E : Hid (Ends S id N hm k)) (HP : Hid (tAv N hm k = p)) :
    Calls Tryz.prog 197 #[.pointer (some ⟨g, 0, none⟩), .int .i64 id] w fun e w' => e = .returned (.tuple #[.int .i64 (p : Int), .int .i64 ((k : Int) + 1)]) ∧ w = w' := by
  have c3 := d.cells.2.2.2.1
  have c4 := d.cells.2.2.2.2
  have SL := Lib.hid (fun (i : Nat) (hi : i < 2 ^ b) => (d.slot hi).1)
  have BH := Lib.hid (fun (a : Nat) (ha : a < 2 ^ b) => pbBehind_any w d a ha hb)
  have hp := pow_40 hb
  have kl := E.out.lt
  clear d
  rw [HN.out] at c4 SL BH hp
  go_enter Tryz.func197, Tryz.ntmps197
  go_wp2_with fail
  go_step3
  go_wp2_with (go_at_call 212; refine (pbHome_any _ _ _ (by omega) (by omega) (by omega) A1).mono ?_; rw [HV.out]; rintro e w1 ⟨rfl, rfl⟩)
  go_step3
  go_wp2_with fail
  go_loopw [4, 5] (fun a c wr => ∃ j : Nat, j ≤ k ∧ a = .int .i64 (tAv N hm j : Nat) ∧ c = .int .i64 (j : Int) ∧ wr = w) (fun _ c _ => k + 1 - (intOf c).toNat)
  case atStart => exact ⟨0, by omega, by rw [av_zero hh], rfl, rfl⟩
  case round =>
    rename_i wr
    obtain ⟨j, hj, rfl, rfl, rfl⟩ := hrel
    have ha := (av_is hh (show j < N by omega)).1
    have e0 := SL.out _ ha
    by_cases hjk : j < k
    · obtain ⟨s1, s2⟩ := E.out.go j hjk
      have nx := Lib.hid (av_next hh (show j + 1 < N by omega))
      generalize tAv N hm j = a at *
      generalize (tAt S a).1 = x at *
      have hx1 : (x != id) = true := by simpa using s1
      have hx2 : (x != 0) = true := by simpa using s2
      go_wp2_with (go_at_call 213; refine (BH.out a ha).mono ?_; rintro e w1 ⟨rfl, rfl⟩)
      go_roundw
      case rel => exact ⟨j + 1, by omega, by rw [nx.out], by go_num, by trivial⟩
      case measure => simp [intOf]; omega
    · have hjk2 : j = k := by omega
      subst hjk2
      have st := E.out.stop
      rw [HP.out] at st ha e0 ⊢
      generalize (tAt S p).1 = x at *
      by_cases q : x = id
      · subst q
        go_wp2_with fail
        go_ret2
        exact ⟨rfl, rfl⟩
      · have q2 : x = 0 := by omega
        subst q2
        go_wp2_with fail
        go_ret2
        exact ⟨rfl, rfl⟩
end
end Go.Proofs.YtelekchdbiimiaaGreat
namespace Go.Proofs.YtelekchdbiimiaaGreat
set_option linter.unusedVariables false
open Go.RowKit
section
variable {B g h b : Nat} {l n t : Int} {S : List Nd}
theorem right_mx {l id : Int} (h : rightB l id = true) : 1 ≤ id ∧ id ≤ 9223372036854775807 := ⟨right_pos h, right_max h⟩
/-- where looking ends, by numbers that tell nothing of themselves -/
theorem look_has {L : List Nd} (T : Tb l b S L) (hb : b ≤ 40) {id : Int} (h1 : 1 ≤ id) (A1 : id ≤ 9223372036854775807) : ∃ p k : Nat, Hid (posOf b S id = p) ∧ Hid (kOf b S id = k) ∧ p < 2 ^ b ∧
    ∀ (w : World) (B g h : Nat) (l n t : Int), PbA w B g h l n t b S → Calls Tryz.prog 197 #[.pointer (some ⟨g, 0, none⟩), .int .i64 id] w fun e w' => e = .returned (.tuple #[.int .i64 (p : Int), .int .i64 ((k : Int) + 1)]) ∧ w = w' := by
  have h3 := T.tab.b3
  have HV : Hid (homeV (b : Int) id = (homeN b id : Nat)) := by
    show _ = _
    rw [homeV_yes (by omega) (by omega) h1, Int.toNat_natCast]
  refine ⟨posOf b S id, kOf b S id, rfl, rfl, T.pos id, fun w B g h l n t d => ?_⟩
  exact pbLook_core w d id _ _ _ (2 ^ b) rfl (by omega) hb h1 A1 HV (home_lt (by omega) id) (T.ends id) rfl
set_option maxHeartbeats 800000 in
theorem pbGet_any {L : List Nd} (a : Int) (w : World) (d : PbA w B g h l n t b S) (T : Tb l b S L) (hb : b ≤ 40) (A0 : -9223372036854775808 ≤ a) (A1 : a ≤ 9223372036854775807) :
    Calls Tryz.prog 167 #[.pointer (some ⟨g, 0, none⟩), .int .i64 a] w fun e w' => e = .returned (.int .i64 (sumAt a L)) ∧ w = w' := by
  have D : Hid (PbA w B g h l n t b S) := d
  have hu : 1 ≤ l ∧ l ≤ 48 := of_decide_eq_true T.roll.1
  have h3 := T.tab.b3
  cases hq : rightB l a
  · have H := Lib.hid (rem_wrong T.roll hq).2.2
    clear d T
    go_enter Tryz.func167, Tryz.ntmps167
    go_wp2_with (first | (go_at_call 142; refine (pbL_any _ D.out).mono ?_; rintro e w1 ⟨rfl, rfl⟩) | (go_at_call 131; refine (right_any _ _ _ (by omega) (by omega) A0 A1).mono ?_; rintro e w1 ⟨rfl, rfl⟩))
    go_ret
    exact ⟨ret_i (by rw [H.out]), rfl⟩
  · obtain ⟨p0, p1⟩ := right_mx hq
    have c4 := d.cells.2.2.2.2
    have HG := T.get (show a ≠ 0 by omega)
    obtain ⟨p, k, hp, hk, hps, lk⟩ := look_has T hb p0 p1
    have LK := Lib.hid (lk w B g h l n t d)
    have hc := (d.slot hps).2
    rw [hp.out] at HG
    rw [HG] at hc
    clear d T lk hp hk HG hb h3
    obtain ⟨N, hN⟩ : ∃ N, N = 2 ^ b := ⟨_, rfl⟩
    rw [← hN] at c4 hps
    clear hN
    go_enter Tryz.func167, Tryz.ntmps167
    go_wp2_with (first | (go_at_call 142; refine (pbL_any _ D.out).mono ?_; rintro e w1 ⟨rfl, rfl⟩) | (go_at_call 131; refine (right_any _ _ _ (by omega) (by omega) A0 A1).mono ?_; rintro e w1 ⟨rfl, rfl⟩) | (go_at_call 197; refine LK.out.mono ?_; rintro e w1 ⟨rfl, rfl⟩))
    go_ret
    exact ⟨rfl, rfl⟩
end
end Go.Proofs.YtelekchdbiimiaaGreat
namespace Go.Proofs.YtelekchdbiimiaaGreat
set_option linter.unusedVariables false
open Go.RowKit
section
variable {B g h b : Nat} {l n t : Int} {S : List Nd}
set_option maxHeartbeats 3200000 in
theorem pbClose_any (w : World) (d : PbA w B g h l n t b S) (z q N : Nat) (HN : Hid (2 ^ b = N)) (hb : b ≤ 40) (H : Hole b S z (tNx N z) q) (AB : ∀ i, (tAt S i).1 ≤ 9223372036854775807) :
    Calls Tryz.prog 224 #[.pointer (some ⟨g, 0, none⟩), .int .i64 (z : Int)] w fun e w' => e = .returned (.tuple #[]) ∧ PbA w' B g h l n t b (closeF b N S z (tNx N z)) ∧ Chg g h w w' := by
  have D : Hid (PbA w B g h l n t b S) := d
  have hp := pow_40 hb
  have zl := H.zl
  have BH := Lib.hid (fun (w : World) (S : List Nd) (d : PbA w B g h l n t b S) (a : Nat) (ha : a < 2 ^ b) => pbBehind_any w d a ha hb)
  have ST := Lib.hid (fun (w : World) (S : List Nd) (d : PbA w B g h l n t b S) (a c : Nat) (ha : a < 2 ^ b) (hc : c < 2 ^ b) => pbSteps_any w d a c ha hc hb)
  have CF : Hid (∀ (w : World) (S : List Nd), PbA w B g h l n t b S → w.cell? ⟨g, 3, none⟩ = some (.int .i64 (b : Int)) ∧ w.cell? ⟨g, 4, none⟩ = some (.slice (some ⟨h, 0, none⟩) (2 ^ b) (2 ^ b)) ∧ (∀ i, i < 2 ^ b → w.cell? ⟨h, i * 2, none⟩ = some (.int .i64 (tAt S i).1) ∧ w.cell? ⟨h, i * 2 + 1, none⟩ = some (.int .i64 (tAt S i).2)) ∧ ∀ i, w.frozen? ⟨h, i, none⟩ = false) := fun w S d => ⟨d.cells.2.2.2.1, d.cells.2.2.2.2, fun i hi => d.slot hi, fun i => (d.free i).2⟩
  have HV := Lib.hid (fun (x : Int) (hx : 1 ≤ x) => (homeV_yes (bits := (b : Int)) (by have := H.b3; omega) (by omega) hx))
  have HH := Lib.hid H
  have AB2 := Lib.hid AB
  have hne : ¬ g = h := d.ne
  clear d H AB
  rw [HN.out] at hp zl BH ST CF
  go_enter Tryz.func224, Tryz.ntmps224
  go_wp2_with (go_at_call 213; refine (BH.out w S D.out z zl).mono ?_; rintro e w1 ⟨rfl, rfl⟩)
  go_loopw [4, 1] (fun av zv wr => ∃ (S2 : List Nd) (z2 a2 f : Nat), av = .int .i64 (a2 : Int) ∧ zv = .int .i64 (z2 : Int) ∧ Hole b S2 z2 a2 q ∧ closeF b f S2 z2 a2 = closeF b N S z (tNx N z) ∧ tDs N a2 q ≤ f ∧ (∀ i, (tAt S2 i).1 ≤ 9223372036854775807) ∧ PbA wr B g h l n t b S2 ∧ Chg g h w wr) (fun av _ _ => tDs N (intOf av).toNat q)
  case atStart =>
    have d1 := ds_is (N := N) (nx_is zl).1 (by rw [← HN.out]; exact HH.out.ql)
    exact ⟨S, z, tNx N z, N, rfl, rfl, HH.out, rfl, by omega, AB2.out, D.out, Chg.refl ..⟩
  case round =>
    rename_i wr
    obtain ⟨S2, z2, a2, f, rfl, rfl, hole, hcl, hf, hab, hd, hc⟩ := hrel
    have HO := Lib.hid hole
    have CL := Lib.hid hcl
    have DD : Hid (PbA wr B g h l n t b S2) := hd
    have HC := Lib.hid hc
    have al : a2 < N := by rw [← HN.out]; exact hole.al
    have zl2 : z2 < N := by rw [← HN.out]; exact hole.zl
    obtain ⟨k3, k4, ks, kf⟩ := CF.out _ _ hd
    obtain ⟨s0, s1⟩ := ks a2 al
    have hx1 := hab a2
    have hx0 := hole.slot a2
    have NXL := (nx_is al).1
    have HAB := Lib.hid hab
    clear hole hcl hd hc hab ks
    by_cases h0 : (tAt S2 a2).1 = 0
    · have RES := Lib.hid (close_end (b := b) (z := z2) h0 f)
      rw [h0] at s0
      go_wp2_with fail
      go_end0
      exact ⟨rfl, by rw [← CL.out, RES.out]; exact DD.out, HC.out⟩
    · have hx2 : 1 ≤ (tAt S2 a2).1 := by
        rcases hx0 with q | q
        · rw [q] at h0; exact absurd rfl h0
        · exact q.1
      have h0' : ((tAt S2 a2).1 != 0) = true := by simpa using h0
      obtain ⟨hm, HM⟩ : ∃ hm : Nat, Hid (hm = homeN b (tAt S2 a2).1) := ⟨_, rfl⟩
      have hml : hm < N := by rw [← HN.out, HM.out]; exact home_lt (by omega) _
      have HV2 : Hid (homeV (b : Int) (tAt S2 a2).1 = (hm : Nat)) := by
        show _ = _
        rw [HV.out _ hx2, Int.toNat_natCast, HM.out]
      clear hx0
      have XX : Hid (∃ x, x = tAt S2 a2) := ⟨_, rfl⟩
      obtain ⟨x, hx⟩ := XX.out
      rw [← hx] at s0 s1 hx1 hx2 h0' HV2
      have HX := Lib.hid hx
      have H0 := Lib.hid h0
      obtain ⟨x1, x2⟩ := x
      simp only at s0 s1 hx1 hx2 h0' HV2
      have HQ : Hid (∀ w, Calls Tryz.prog 212 #[.int .i64 (b : Int), .int .i64 x1] w fun e w' => e = .returned (.int .i64 (hm : Int)) ∧ w' = w) := fun w => (pbHome_any _ _ w (by omega) (by omega) (by omega) hx1).mono fun e w' q => ⟨by rw [q.1, HV2.out], q.2.symm⟩
      clear hx h0 HV2
      go_wp2_with fail
      go_quiet ((go_at_call 212; exact Calls.quiet_of_same (HQ.out _)))
      have DN : Hid (∀ k, PbA (wr.drewN k) B g h l n t b S2) := fun k => DD.out.below (drewN_below (Below.refl _ _) k)
      obtain ⟨d1, D1⟩ : ∃ d, Hid (tDs N hm z2 = d) := ⟨_, rfl⟩
      obtain ⟨d2, D2⟩ : ∃ d, Hid (tDs N hm a2 = d) := ⟨_, rfl⟩
      have ST1 : Hid (∀ k, Calls Tryz.prog 225 #[.pointer (some ⟨g, 0, none⟩), .int .i64 (hm : Int), .int .i64 (z2 : Int)] (wr.drewN k) fun e w' => e = .returned (.int .i64 (d1 : Int)) ∧ ∃ q, w' = wr.drewN q) := fun k => (ST.out _ S2 (DN.out k) hm z2 hml zl2).mono fun e w' q => ⟨by rw [q.1, D1.out], by obtain ⟨_, m, rfl⟩ := q; exact ⟨_, World.drewN_drewN _ _ _⟩⟩
      have ST2 : Hid (∀ k, Calls Tryz.prog 225 #[.pointer (some ⟨g, 0, none⟩), .int .i64 (hm : Int), .int .i64 (a2 : Int)] (wr.drewN k) fun e w' => e = .returned (.int .i64 (d2 : Int)) ∧ ∃ q, w' = wr.drewN q) := fun k => (ST.out _ S2 (DN.out k) hm a2 hml al).mono fun e w' q => ⟨by rw [q.1, D2.out], by obtain ⟨_, m, rfl⟩ := q; exact ⟨_, World.drewN_drewN _ _ _⟩⟩
      have hza : ¬ z2 = a2 := HO.out.za
      have haz : ¬ a2 = z2 := fun e => hza e.symm
      have SZ : Hid (tAt S2 z2 = nz) := by
        rcases HO.out.slot z2 with q | q
        · exact q
        · have := HO.out.ez; omega
      by_cases hle : d1 ≤ d2
      · have HM2 := Lib.hid (hole_move HO.out H0.out (by rw [← HM.out, HN.out, D1.out, D2.out]; exact hle))
        have hf1 : ∃ f2, f = f2 + 1 := ⟨f - 1, by have := HM2.out.2.1; rw [HN.out] at this; omega⟩
        obtain ⟨f2, rfl⟩ := hf1
        have MV := Lib.hid (close_move (b := b) (f := f2) (z := z2) H0.out (by rw [← HM.out, HN.out, D1.out, D2.out]; exact hle))
        have hf3 : Hid (tDs N (tNx N a2) q + 1 = tDs N a2 q) := by have := HM2.out.2.1; rw [HN.out] at this; exact this
        go_wp2_with (first | (go_at_call 225; with_reducible refine (ST1.out _).mono ?_; rintro e w1 ⟨rfl, q1, rfl⟩) | (go_at_call 225; with_reducible refine (ST2.out _).mono ?_; rintro e w1 ⟨rfl, q2, rfl⟩))
        have DW := Lib.hid (DN.out q2)
        have CW : Hid (Chg g h w (wr.drewN q2)) := HC.out.trans (Chg.of (drewN_below (Below.refl _ _) q2))
        generalize wr.drewN q2 = W at *
        clear k3 k4 kf s0 s1
        obtain ⟨k3, k4, ks, kf⟩ := CF.out _ _ DW.out
        obtain ⟨s0, s1⟩ := ks a2 al
        obtain ⟨t0, t1⟩ := ks z2 zl2
        rw [← HX.out] at s0 s1
        rw [SZ.out] at t0 t1
        clear ks
        simp only at s0 s1
        have e0 : ∀ u v, ((W.setCell ⟨h, z2 * 2, none⟩ u).setCell ⟨h, z2 * 2 + 1, none⟩ v).cell? ⟨h, a2 * 2, none⟩ = some (.int .i64 x1) := fun u v => by
          rw [World.cell?_setCell_other _ _ _ _ (fun e => by injection e with _ e; omega), World.cell?_setCell_other _ _ _ _ (fun e => by injection e with _ e; omega)]; exact s0
        have e1 : ∀ u v y, (((W.setCell ⟨h, z2 * 2, none⟩ u).setCell ⟨h, z2 * 2 + 1, none⟩ v).setCell ⟨h, a2 * 2, none⟩ y).cell? ⟨h, a2 * 2 + 1, none⟩ = some (.int .i64 x2) := fun u v y => by
          rw [World.cell?_setCell_other _ _ _ _ (fun e => by injection e with _ e; omega), World.cell?_setCell_other _ _ _ _ (fun e => by injection e with _ e; omega), World.cell?_setCell_other _ _ _ _ (fun e => by injection e with _ e; omega)]; exact s1
        have P1 := DW.out.setRow (z2 * 2) (.int .i64 x1)
        have P2 := P1.1.setRow (z2 * 2 + 1) (.int .i64 x2)
        have P3 := P2.1.setRow (a2 * 2) (.int .i64 0)
        have P4 := P3.1.setRow (a2 * 2 + 1) (.int .i64 0)
        have HPB : Hid (PbA ((((W.setCell ⟨h, z2 * 2, none⟩ (.int .i64 x1)).setCell ⟨h, z2 * 2 + 1, none⟩ (.int .i64 x2)).setCell ⟨h, a2 * 2, none⟩ (.int .i64 0)).setCell ⟨h, a2 * 2 + 1, none⟩ (.int .i64 0)) B g h l n t b ((S2.set z2 (tAt S2 a2)).set a2 nz)) := by
          have q := P4.1
          show PbM ..
          unfold PbM
          rw [nods_put, nods_put, ← HX.out]
          exact q
        have HCG := Lib.hid (((P1.2.trans P2.2).trans P3.2).trans P4.2)
        clear P1 P2 P3 P4
        have HPD := Lib.hid (PbM.drew HPB.out)
        have HBN : ∀ i, (tAt ((S2.set z2 (tAt S2 a2)).set a2 nz) i).1 ≤ 9223372036854775807 := fun i => by
          rw [tAt_set]; split
          · decide
          · rw [tAt_set]; split
            · exact HAB.out a2
            · exact HAB.out i
        have HBN2 := Lib.hid HBN
        clear HBN
        go_region
        go_wp2_with (go_at_call 213; refine (BH.out _ _ HPD.out a2 al).mono ?_; rintro e w1 ⟨rfl, rfl⟩)
        go_roundw
        case rel =>
          have HN2 := HM2.out.1
          rw [HN.out] at HN2
          have MV2 := MV.out
          rw [HN.out] at MV2
          have hf4 := hf3.out
          exact ⟨_, a2, tNx N a2, f2, rfl, rfl, HN2, by rw [← MV2, CL.out], by omega, HBN2.out, HPD.out, (CW.out.trans HCG.out).trans (Chg.of (below_drew _))⟩
        case measure => have := hf3.out; simp [intOf]; omega
      · have HS := Lib.hid (hole_stay HO.out H0.out (by rw [← HM.out, HN.out, D1.out, D2.out]; exact hle))
        have hf1 : ∃ f2, f = f2 + 1 := ⟨f - 1, by have := HS.out.2; rw [HN.out] at this; omega⟩
        obtain ⟨f2, rfl⟩ := hf1
        have MV := Lib.hid (close_stay (b := b) (f := f2) (z := z2) H0.out (by rw [← HM.out, HN.out, D1.out, D2.out]; exact hle))
        have hf3 : Hid (tDs N (tNx N a2) q + 1 = tDs N a2 q) := by have := HS.out.2; rw [HN.out] at this; exact this
        go_wp2_with (first | (go_at_call 225; with_reducible refine (ST1.out _).mono ?_; rintro e w1 ⟨rfl, q1, rfl⟩) | (go_at_call 225; with_reducible refine (ST2.out _).mono ?_; rintro e w1 ⟨rfl, q2, rfl⟩) | (go_at_call 213; refine (BH.out _ _ (DN.out _) a2 al).mono ?_; rintro e w1 ⟨rfl, rfl⟩))
        go_roundw
        case rel =>
          have HN2 := HS.out.1
          rw [HN.out] at HN2
          have MV2 := MV.out
          rw [HN.out] at MV2
          have hf4 := hf3.out
          exact ⟨S2, z2, tNx N a2, f2, rfl, rfl, HN2, by rw [← MV2, CL.out], by omega, HAB.out, DN.out _, HC.out.trans (Chg.of (drewN_below (Below.refl _ _) _))⟩
        case measure => have := hf3.out; simp [intOf]; omega
end
end Go.Proofs.YtelekchdbiimiaaGreat
namespace Go.Proofs.YtelekchdbiimiaaGreat
set_option linter.unusedVariables false
open Go.RowKit
section
variable {B g h b : Nat} {l : Int} {S L : List Nd}
theorem set_bds {S : List Nd} (h : ∀ i, (tAt S i).1 ≤ 9223372036854775807) (p : Nat) : ∀ i, (tAt (S.set p nz) i).1 ≤ 9223372036854775807 := fun i => by
  rw [tAt_set]; split
  · decide
  · exact h i
/-- what Take leaves -/
def TkPost (B g h : Nat) (l : Int) (b : Nat) (S M : List Nd) (n : Int) (w : World) (e : Ending) (w' : World) : Prop := e = .returned (.int .i64 n) ∧ PbA w' B g h l (M.length : Int) (sumC M) b S ∧ Chg g h w w'
def takeS (l : Int) (b : Nat) (S : List Nd) (id : Int) : List Nd := if rightB l id = true then takeT b S id else S
set_option maxHeartbeats 3200000 in
theorem pbTake_any (a : Int) (w : World) (d : PbA w B g h l (L.length : Int) (sumC L) b S) (T : Tb l b S L) (hb : b ≤ 40) (A0 : -9223372036854775808 ≤ a) (A1 : a ≤ 9223372036854775807) :
    Calls Tryz.prog 219 #[.pointer (some ⟨g, 0, none⟩), .int .i64 a] w (TkPost B g h l b (takeS l b S a) (remW L a) (sumAt a L) w) := by
  have D : Hid (PbA w B g h l (L.length : Int) (sumC L) b S) := d
  have hu : 1 ≤ l ∧ l ≤ 48 := of_decide_eq_true T.roll.1
  cases hq : rightB l a
  · have H := Lib.hid (rem_wrong T.roll hq)
    have HS : Hid (takeS l b S a = S) := if_neg (by rw [hq]; simp)
    clear d T
    go_enter Tryz.func219, Tryz.ntmps219
    go_wp2_with (first | (go_at_call 142; refine (pbL_any _ D.out).mono ?_; rintro e w1 ⟨rfl, rfl⟩) | (go_at_call 131; refine (right_any _ _ _ (by omega) (by omega) A0 A1).mono ?_; rintro e w1 ⟨rfl, rfl⟩))
    go_ret
    exact ⟨ret_i (by rw [H.out.2.2]), by rw [HS.out, H.out.1]; exact D.out, Chg.refl ..⟩
  · obtain ⟨p0, p1⟩ := right_mx hq
    have c4 := d.cells.2.2.2.2
    have HG := T.get (show a ≠ 0 by omega)
    have HS : Hid (takeS l b S a = takeT b S a) := if_pos hq
    have HT : Hid (takeT b S a = if (tAt S (posOf b S a)).2 = 0 then S else closeF b (2 ^ b) (S.set (posOf b S a) nz) (posOf b S a) (tNx (2 ^ b) (posOf b S a))) := rfl
    have LN := Lib.hid (rem_len (id := a) (roll_good T.roll))
    have TT := Lib.hid (rem_tot L a)
    have RZ := Lib.hid (fun q => rem_zero (id := a) (roll_good T.roll) q)
    have sx := sum_le T.roll.2.2.2.1 a
    obtain ⟨n0, n1, s0, s1⟩ := sum_bd T.roll
    obtain ⟨q, hq1, hq2⟩ := T.empty
    have HN := Lib.hid (fun (p : Nat) hp h0 => hole_new T.tab (p := p) hp h0 hq1 hq2)
    have ZS := Lib.hid (fun i => zero_slot T.tab (i := i))
    have AB := Lib.hid (fun i => (tAt_bds T i).2.1.2)
    obtain ⟨p, k, hp, hk, hps, lk⟩ := look_has T hb p0 p1
    have LK := Lib.hid (lk w B g h l (L.length : Int) (sumC L) d)
    have hc := (d.slot hps).2
    have hc0 := (d.slot hps).1
    have hfr := d.free
    have hgh : ¬ g = h := d.ne
    have hhg : ¬ h = g := fun e => d.ne e.symm
    rw [hp.out] at HG HT
    have HG2 := Lib.hid HG
    rw [HG] at hc
    clear d T lk hp hk HG
    by_cases hx0 : sumAt a L = 0
    · have RR := Lib.hid (RZ.out hx0)
      have HX := Lib.hid hx0
      have HT2 : Hid (takeS l b S a = S) := by
        show _ = _
        rw [HS.out, HT.out, if_pos (by rw [HG2.out]; exact hx0)]
      rw [hx0] at hc
      clear HN ZS AB LN TT RZ sx hx0 hfr
      obtain ⟨N, hN⟩ : ∃ N, N = 2 ^ b := ⟨_, rfl⟩
      rw [← hN] at c4 hps
      clear hN
      go_enter Tryz.func219, Tryz.ntmps219
      go_wp2_with (first | (go_at_call 142; refine (pbL_any _ D.out).mono ?_; rintro e w1 ⟨rfl, rfl⟩) | (go_at_call 131; refine (right_any _ _ _ (by omega) (by omega) A0 A1).mono ?_; rintro e w1 ⟨rfl, rfl⟩) | (go_at_call 197; refine LK.out.mono ?_; rintro e w1 ⟨rfl, rfl⟩))
      go_ret
      exact ⟨ret_i (by rw [HX.out]), by rw [HT2.out, RR.out]; exact D.out, Chg.refl ..⟩
    · have h0 : (tAt S p).1 ≠ 0 := fun e => hx0 (by rw [← HG2.out]; exact ((ZS.out p).1 e))
      have HO := Lib.hid (HN.out p hps h0)
      have HT2 : Hid (takeS l b S a = closeF b (2 ^ b) (S.set p nz) p (tNx (2 ^ b) p)) := by
        show _ = _
        rw [HS.out, HT.out, if_neg (by rw [HG2.out]; exact hx0)]
      have hl1 : 1 ≤ (L.length : Int) := by
        rcases (show L.length = 0 ∨ 1 ≤ L.length by omega) with q | q
        · exfalso; rw [List.eq_nil_of_length_eq_zero q] at hx0; exact hx0 rfl
        · omega
      have ln : ((remW L a).length : Int) = (L.length : Int) - 1 := by have := LN.out; rw [if_neg hx0] at this; exact this
      have LN2 := Lib.hid ln
      have P1 := D.out.setRow (p * 2) (.int .i64 0)
      have P2 := P1.1.setRow (p * 2 + 1) (.int .i64 0)
      have HPB : Hid (PbA ((w.setCell ⟨h, p * 2, none⟩ (.int .i64 0)).setCell ⟨h, p * 2 + 1, none⟩ (.int .i64 0)) B g h l (L.length : Int) (sumC L) b (S.set p nz)) := by
        have q := P2.1
        show PbM ..
        unfold PbM
        rw [nods_put]
        exact q
      have HC := Lib.hid (P1.2.trans P2.2)
      have CU := Lib.hid (pbClose_any _ HPB.out p q (2 ^ b) rfl hb HO.out (set_bds AB.out p))
      have f0 := (hfr (p * 2)).2
      have f1 := (hfr (p * 2 + 1)).2
      clear P1 P2 hfr ln HN ZS AB LN RZ h0
      have hx0' : (sumAt a L == 0) = false := by simpa using hx0
      obtain ⟨R, hR⟩ : ∃ R, R = closeF b (2 ^ b) (S.set p nz) p (tNx (2 ^ b) p) := ⟨_, rfl⟩
      rw [← hR] at CU HT2
      clear hR
      obtain ⟨x, hx⟩ : ∃ x, x = sumAt a L := ⟨_, rfl⟩
      rw [← hx] at hc hx0' sx TT hx0
      have HX := Lib.hid hx
      obtain ⟨n, hn⟩ : ∃ n, n = (L.length : Int) := ⟨_, rfl⟩
      rw [← hn] at CU LN2 hl1 n0 n1
      obtain ⟨s, hs⟩ : ∃ s, s = sumC L := ⟨_, rfl⟩
      rw [← hs] at CU TT sx n1 s0 s1
      obtain ⟨N, hN⟩ : ∃ N, N = 2 ^ b := ⟨_, rfl⟩
      rw [← hN] at c4 hps
      clear hN hx hn hs
      go_enter Tryz.func219, Tryz.ntmps219
      go_wp2_with (first | (go_at_call 142; refine (pbL_any _ D.out).mono ?_; rintro e w1 ⟨rfl, rfl⟩) | (go_at_call 131; refine (right_any _ _ _ (by omega) (by omega) A0 A1).mono ?_; rintro e w1 ⟨rfl, rfl⟩) | (go_at_call 197; refine LK.out.mono ?_; rintro e w1 ⟨rfl, rfl⟩))
      refine CU.out.mono ?_
      rintro e w2 ⟨rfl, d2, c2⟩
      have D2 : Hid (PbA w2 B g h l n s b R) := d2
      have C2 := Lib.hid c2
      obtain ⟨_, k1, k2, _, _⟩ := d2.cells
      have f1 := (d2.free 1).1
      have f2 := (d2.free 2).1
      clear d2 c2 c4 hc hc0
      go_wp2_with fail
      go_ret
      have Q1 := D2.out.setTop 1 (.int .i64 (n - 1))
      have Q2 := Q1.1.setTop 2 (.int .i64 (s - x))
      refine ⟨ret_i HX.out, ?_, (HC.out.trans C2.out).trans (Q1.2.trans Q2.2)⟩
      have e1 := LN2.out
      have e2 := TT.out
      rw [HT2.out, e1, e2]
      exact Q2.1
end
end Go.Proofs.YtelekchdbiimiaaGreat
namespace Go.Proofs.YtelekchdbiimiaaGreat
set_option linter.unusedVariables false
open Go.RowKit
section
variable {B g h b : Nat} {l n t : Int} {S L : List Nd}
/-- where looking ends in a table that is being filled -/
theorem put_look {M T : List Nd} (p : Put b M T) (hl : M.length < 2 ^ b) (hb : b ≤ 40) {id : Int} (h1 : 1 ≤ id) (A1 : id ≤ 9223372036854775807) : ∃ p k : Nat, Hid (posOf b T id = p) ∧ p < 2 ^ b ∧
    ∀ (w : World) (B g h : Nat) (l n t : Int), PbA w B g h l n t b T → Calls Tryz.prog 197 #[.pointer (some ⟨g, 0, none⟩), .int .i64 id] w fun e w' => e = .returned (.tuple #[.int .i64 (p : Int), .int .i64 ((k : Int) + 1)]) ∧ w = w' := by
  have h3 := p.tab.b3
  have HV : Hid (homeV (b : Int) id = (homeN b id : Nat)) := by
    show _ = _
    rw [homeV_yes (by omega) (by omega) h1, Int.toNat_natCast]
  have e := put_ends p hl id
  refine ⟨posOf b T id, kOf b T id, rfl, pos_lt (by omega) e, fun w B g h l n t d => ?_⟩
  exact pbLook_core w d id _ _ _ (2 ^ b) rfl (by omega) hb h1 A1 HV (home_lt (by omega) id) e rfl
theorem ps_regrow {TD TN : TypeId} {w : World} {M : Nat} (d : PbM TD TN w B g h l n t b S) (hb : b ≤ 39) (hM : 2 ^ (b + 1) = M) :
    PbM TD TN (((w.setCell ⟨g, 3, none⟩ (.int .i64 ((b : Int) + 1))).setCell ⟨g, 4, none⟩ (.slice (some ⟨w.heap.size, 0, none⟩) M M)).alloc (.cells (blank (.agg #[.int .i64 0, .int .i64 0]) (M * 2)) TN)) B g w.heap.size l n t (b + 1) (putL (b + 1) (ndsT (S.take 0))) ∧
    (((w.setCell ⟨g, 3, none⟩ (.int .i64 ((b : Int) + 1))).setCell ⟨g, 4, none⟩ (.slice (some ⟨w.heap.size, 0, none⟩) M M)).alloc (.cells (blank (.agg #[.int .i64 0, .int .i64 0]) (M * 2)) TN)).ownsRow B TN 2 (.slice (some ⟨h, 0, none⟩) (2 ^ b) (2 ^ b)) (2 ^ b) (nods S) ∧
    Chg g h w (((w.setCell ⟨g, 3, none⟩ (.int .i64 ((b : Int) + 1))).setCell ⟨g, 4, none⟩ (.slice (some ⟨w.heap.size, 0, none⟩) M M)).alloc (.cells (blank (.agg #[.int .i64 0, .int .i64 0]) (M * 2)) TN)) := by
  have hp := pow_40 (b := b + 1) (by omega)
  rw [hM] at hp
  have hlt := d.lt
  have a := d.setTop 3 (.int .i64 ((b : Int) + 1))
  have a2 := a.1.setTop 4 (.slice (some ⟨w.heap.size, 0, none⟩) M M)
  generalize hw1 : (w.setCell ⟨g, 3, none⟩ (.int .i64 ((b : Int) + 1))).setCell ⟨g, 4, none⟩ (.slice (some ⟨w.heap.size, 0, none⟩) M M) = w1 at *
  have hs : w1.heap.size = w.heap.size := by rw [← hw1]; simp
  have o := World.ownsRow_lit (base := B) (e := TN) (size := 2) w1 (blank (.agg #[.int .i64 0, .int .i64 0]) (M * 2)) M (by omega) (by unfold maxLen; omega) (by rw [blank_size])
  rw [hs] at o
  refine ⟨?_, a2.1.row.alloc _, (a.2.trans a2.2).trans (Chg.of (below_one _ _))⟩
  rw [blank_nodes] at o
  show Ps ..
  rw [hM]
  have e : putL (b + 1) (ndsT (S.take 0)) = List.replicate M nz := by rw [List.take_zero, ← hM]; rfl
  rw [e]
  have e2 : topP l n t (b + 1) w.heap.size = ((topP l n t b h).set 3 (.int .i64 ((b : Int) + 1))).set 4 (.slice (some ⟨w.heap.size, 0, none⟩) M M) := by
    unfold topP
    rw [hM]
    push_cast
    rfl
  rw [e2]
  exact ⟨a2.1.top.alloc _, o, by omega⟩
theorem put_part (T : Tb l b S L) (hb : b ≤ 61) (k : Nat) : Put (b + 1) (ndsT (S.take k)) (putL (b + 1) (ndsT (S.take k))) ∧ (ndsT (S.take k)).length < 2 ^ (b + 1) := by
  have hs : (ndsT (S.take k)).Sublist (ndsT S) := (List.take_sublist k S).filter _
  have hp : 2 ^ (b + 1) = 2 * 2 ^ b := by rw [Nat.pow_succ]; omega
  have p3 := pow_3 T.tab.b3
  have hl := hs.length_le
  have hc := T.cnt
  have hf := T.half
  have h3 := T.tab.b3
  exact ⟨put_all (by omega) (by omega) ((nds_ids T.tab).sublist hs) (fun n hn => nds_pos T.tab (hs.subset hn)) (by omega), by omega⟩
set_option maxHeartbeats 3200000 in
theorem pbGrow_any (w : World) (d : PbA w B g h l n t b S) (T : Tb l b S L) (hb : b ≤ 39) :
    Calls Tryz.prog 198 #[.pointer (some ⟨g, 0, none⟩)] w fun e w' => e = .returned (.tuple #[]) ∧ PbA w' B g w.heap.size l n t (b + 1) (growT b S) ∧ Chg g h w w' := by
  obtain ⟨i0, hi, hz0, hz1, hz2⟩ := info_parts node_info
  have hp := pow_40 (b := b + 1) (by omega)
  have hpN := pow_40 (b := b) (by omega)
  have D : Hid (PbA w B g h l n t b S) := d
  have hlt := d.lt
  have hgh : ¬ g = h := d.ne
  have f3 := (d.free 3).1
  have f4 := (d.free 4).1
  obtain ⟨_, _, _, k3, k4⟩ := d.cells
  have RG := Lib.hid (fun M => ps_regrow (M := M) d hb)
  have hlen := d.len
  have TT := Lib.hid T
  obtain ⟨M, hM⟩ : ∃ M, M = 2 ^ (b + 1) := ⟨_, rfl⟩
  rw [← hM] at hp
  have e3 : Hid (wrap64 ((2 : Int) ^ (b + 1)) = (M : Nat)) := by
    show _ = _
    have e : (2 : Int) ^ (b + 1) = (M : Nat) := by rw [hM, Int.natCast_pow]; rfl
    rw [e]; unfold wrap64; omega
  have hmk := make_all (P := Tryz.prog) Tryz.underlying24 hi hz0 hz1 hz2 M (M * 2) rfl _ e3.out (by omega) (by omega)
  have RGM := Lib.hid (RG.out M hM.symm)
  have HM := Lib.hid hM
  obtain ⟨N, hN⟩ : ∃ N, N = 2 ^ b := ⟨_, rfl⟩
  rw [← hN] at k4 RGM hlen hpN
  have HN := Lib.hid hN
  clear d T RG hi hM hN
  go_enter Tryz.func198, Tryz.ntmps198
  go_wp2_with fail
  have RW := Lib.hid RGM.out
  have hgz : g < w.heap.size := hlt.2.1
  have hhz : h < w.heap.size := hlt.2.2.2
  clear hmk f3 f4 k3 k4 RGM
  generalize hW : ((w.setCell ⟨g, 3, none⟩ (.int .i64 ((b : Int) + 1))).setCell ⟨g, 4, none⟩ (.slice (some ⟨w.heap.size, 0, none⟩) M M)).alloc (.cells (blank (.agg #[.int .i64 0, .int .i64 0]) (M * 2)) 77) = W at *
  have HWZ : Hid (W.heap.size = w.heap.size + 1) := by show _ = _; rw [← hW]; simp
  clear hW
  go_loopw [29] (fun i wr => ∃ k : Nat, k ≤ N ∧ i = .int .i64 (k : Int) ∧ PbA wr B g w.heap.size l n t (b + 1) (putL (b + 1) (ndsT (S.take k))) ∧ wr.ownsRow B 77 2 (.slice (some ⟨h, 0, none⟩) N N) N (nods S) ∧ Chg g h w wr ∧ W.heap.size ≤ wr.heap.size) (fun i _ => N - (intOf i).toNat)
  case atStart => exact ⟨0, by omega, rfl, RW.out.1, RW.out.2.1, RW.out.2.2, Nat.le_refl _⟩
  case round =>
    rename_i wr
    obtain ⟨k, hk, rfl, hd, ho, hc, hz⟩ := hrel
    have DD : Hid (PbA wr B g w.heap.size l n t (b + 1) (putL (b + 1) (ndsT (S.take k)))) := hd
    have OO := Lib.hid ho
    have CC := Lib.hid hc
    by_cases hlt2 : k < N
    · have hkl : k < S.length := by omega
      have hg := nods_get S k hkl
      have e0 : wr.cell? ⟨h, k * 2, none⟩ = some (.int .i64 (tAt S k).1) := by rw [ho.cellAt (k * 2) (by omega)]; exact hg.1
      have e1 : wr.cell? ⟨h, k * 2 + 1, none⟩ = some (.int .i64 (tAt S k).2) := by rw [ho.cellAt (k * 2 + 1) (by omega)]; exact hg.2
      have NS := Lib.hid (nds_step hkl)
      clear hd ho hc hg
      by_cases h0 : (tAt S k).1 = 0
      · have NS2 : Hid (ndsT (S.take (k + 1)) = ndsT (S.take k)) := by show _ = _; rw [NS.out, if_pos h0]
        rw [h0] at e0
        go_wp2_with fail
        go_roundw
        case rel =>
          refine ⟨k + 1, by omega, by go_num, ?_, World.ownsRow.alloc OO.out _, CC.out.trans (Chg.of (below_one _ _)), by simp; omega⟩
          rw [NS2.out]
          exact Ps.below DD.out (below_one _ _)
        case measure => simp [intOf]; omega
      · have NS2 : Hid (ndsT (S.take (k + 1)) = ndsT (S.take k) ++ [tAt S k]) := by show _ = _; rw [NS.out, if_neg h0]
        have PP := put_part TT.out (by omega) k
        have hx1 := (tAt_bds TT.out k).2.1.2
        have hx2 : 1 ≤ (tAt S k).1 := by have := (tAt_bds TT.out k).2.2.2; omega
        obtain ⟨p, kk, hp1, hps, lk⟩ := put_look PP.1 PP.2 (by omega) hx2 hx1
        have PT : Hid (putL (b + 1) (ndsT (S.take (k + 1))) = (putL (b + 1) (ndsT (S.take k))).set p (tAt S k)) := by
          show _ = _
          rw [NS2.out, putL_snoc]
          unfold putT
          rw [hp1.out]
        obtain ⟨R, hR⟩ : ∃ R, R = putL (b + 1) (ndsT (S.take k)) := ⟨_, rfl⟩
        rw [← hR] at PT DD lk
        obtain ⟨⟨x1, x2⟩, hx⟩ : ∃ x, x = tAt S k := ⟨_, rfl⟩
        rw [← hx] at PT e0 e1 h0 hx1 hx2 lk
        simp only at e0 e1 h0 hx1 hx2 lk
        have h0' : (x1 != 0) = true := by simpa using h0
        have D1 : Hid (PbA (wr.alloc (.cells #[.int .i64 x1, .int .i64 x2] 77)) B g w.heap.size l n t (b + 1) R) := Ps.below DD.out (below_one _ _)
        have LK := Lib.hid (lk _ _ _ _ _ _ _ D1.out)
        rw [← HM.out] at hps
        have hgr := (Ps.lt DD.out).2.1
        have hhr := (Ps.lt DD.out).2.2.2
        obtain ⟨_, _, _, _, k4⟩ := PbM.cells DD.out
        rw [← HM.out] at k4
        have ks := PbM.slot DD.out (k := p) (by rw [← HM.out]; exact hps)
        obtain ⟨s0, s1⟩ := ks
        have fr := fun i => (PbM.free DD.out i).2
        have hxo : ¬ h = w.heap.size := by omega
        clear PP lk hp1 hR hx NS NS2 h0
        go_wp2_with (go_at_call 197; refine LK.out.mono ?_; rintro e w1 ⟨rfl, rfl⟩)
        go_region
        go_wp2_with fail
        go_roundw
        case rel =>
          have P1 := Ps.setRow DD.out (p * 2) (.int .i64 x1)
          have P2 := P1.1.setRow (p * 2 + 1) (.int .i64 x2)
          have hbl := ((Below.refl ((wr.setCell ⟨w.heap.size, p * 2, none⟩ (.int .i64 x1)).setCell ⟨w.heap.size, p * 2 + 1, none⟩ (.int .i64 x2)).heap.size ((wr.setCell ⟨w.heap.size, p * 2, none⟩ (.int .i64 x1)).setCell ⟨w.heap.size, p * 2 + 1, none⟩ (.int .i64 x2))).alloc (Nat.le_refl _) (.cells #[.int .i64 x1, .int .i64 x2] 77)).drew
          have oo := own_below (own_chg OO.out (P1.2.trans P2.2) (by simp [Value.ownBlock]; exact fun e => hgh e.symm) (by simpa [Value.ownBlock] using hxo)) hbl
          refine ⟨k + 1, by omega, by go_num, ?_, oo, (CC.out.over (P1.2.trans P2.2) (Nat.le_refl _)).trans (Chg.of hbl), ?_⟩
          · have q := P2.1.below hbl
            rw [PT.out]
            show Ps ..
            rw [nods_put]
            exact q
          · have z := hbl.size
            simp at z ⊢; omega
        case measure => simp [intOf]; omega
    · have hkn : k = N := by omega
      subst hkn
      go_wp2_with fail
      go_end0
      refine ⟨rfl, ?_, CC.out⟩
      have q := DD.out
      rw [List.take_of_length_le (by omega)] at q
      exact q
end
end Go.Proofs.YtelekchdbiimiaaGreat
namespace Go.Proofs.YtelekchdbiimiaaGreat
set_option linter.unusedVariables false
open Go.RowKit
section
variable {B g h b : Nat} {l : Int} {S L : List Nd}
theorem set_twice (S : List Nd) (p : Nat) (x y : Nd) : (S.set p x).set p y = S.set p y := List.set_set ..
/-- what the slot's finding leaves: the node is there, with the weight that it had -/
def PlPost (B g h : Nat) (l : Int) (b : Nat) (S L : List Nd) (id : Int) (w : World) (e : Ending) (w' : World) : Prop :=
  ∃ (P h2 : Nat) (b2 : Nat) (R : List Nd), e = .returned (.int .i64 (P : Int)) ∧ PbA w' B g h2 l (if sumAt id L = 0 then (L.length : Int) + 1 else L.length) (sumC L) b2 R ∧ Chg g h w w' ∧ (h2 = h ∨ w.heap.size ≤ h2) ∧ P < 2 ^ b2 ∧ b2 ≤ b + 1 ∧ Hid (b2 = addB b S id) ∧
    Hid (∀ c, R.set P (id, sumAt id L + c) = addT b S id c) ∧ tAt R P = (id, sumAt id L)
set_option maxHeartbeats 3200000 in
theorem pbPlace_any (a : Int) (w : World) (d : PbA w B g h l (L.length : Int) (sumC L) b S) (T : Tb l b S L) (hb : b ≤ 39) (hr : rightB l a = true) :
    Calls Tryz.prog 170 #[.pointer (some ⟨g, 0, none⟩), .int .i64 a] w (PlPost B g h l b S L a w) := by
  have D : Hid (PbA w B g h l (L.length : Int) (sumC L) b S) := d
  obtain ⟨p0, p1⟩ := right_mx hr
  have hpN := pow_40 (b := b) (by omega)
  obtain ⟨_, k1, _, _, k4⟩ := d.cells
  have HG := T.get (show a ≠ 0 by omega)
  have E := T.ends a
  have GC : Hid (growC b S a ↔ ((tAt S (posOf b S a)).1 ≠ a ∧ 2 ^ b < 2 * ((ndsT S).length + 1))) := Iff.rfl
  have AT : Hid (∀ c, addT b S a c = if growC b S a then (growT b S).set (posOf (b + 1) (growT b S) a) (a, c) else S.set (posOf b S a) (a, (tAt S (posOf b S a)).2 + c)) := fun c => rfl
  have ABB : Hid (addB b S a = if growC b S a then b + 1 else b) := rfl
  have ST : (tAt S (posOf b S a)).1 = a ∨ (tAt S (posOf b S a)).1 = 0 := E.stop
  have SLT := T.tab.slot (posOf b S a)
  obtain ⟨n0, n1, s0, s1⟩ := sum_bd T.roll
  have hhalf := T.half
  have hcnt := T.cnt
  have h3 := T.tab.b3
  have p3 := pow_3 h3
  have TT := Lib.hid T
  obtain ⟨p, k, hp, hk, hps, lk⟩ := look_has T (by omega) p0 p1
  have LK := Lib.hid (lk w B g h l (L.length : Int) (sumC L) d)
  rw [hp.out] at HG GC AT ST SLT
  obtain ⟨sl0, sl1⟩ := d.slot hps
  have hfr := d.free
  have hgh : ¬ g = h := d.ne
  have hhg : ¬ h = g := fun e => d.ne e.symm
  clear d T lk hp hk E
  by_cases ht : (tAt S p).1 = a
  · have hn : ¬ growC b S a := fun q => (GC.out.1 q).1 ht
    have hx1 : 1 ≤ (tAt S p).2 := by
      rcases SLT with q | q
      · rw [q] at ht; have : (0 : Int) = a := ht; omega
      · exact q.2
    have RES : Hid ((∀ c, S.set p (a, sumAt a L + c) = addT b S a c) ∧ tAt S p = (a, sumAt a L) ∧ addB b S a = b) := by
      refine ⟨fun c => ?_, ?_, ?_⟩
      · rw [AT.out, if_neg hn, HG]
      · rw [← HG, ← ht]
      · rw [ABB.out, if_neg hn]
    have hz : ¬ sumAt a L = 0 := by omega
    rw [ht] at sl0
    have HZ := Lib.hid hz
    clear GC AT ABB ST SLT HG hfr hn ht hz
    obtain ⟨N, hN⟩ : ∃ N, N = 2 ^ b := ⟨_, rfl⟩
    rw [← hN] at k4 hpN
    have hpsN : p < N := by rw [hN]; exact hps
    clear hN
    go_enter Tryz.func170, Tryz.ntmps170
    go_wp2_with (go_at_call 197; refine LK.out.mono ?_; rintro e w1 ⟨rfl, rfl⟩)
    go_ret
    exact ⟨p, h, b, S, rfl, by rw [if_neg HZ.out]; exact D.out, Chg.refl .., .inl rfl, hps, by omega, RES.out.2.2.symm, RES.out.1, RES.out.2.1⟩
  · have ht0 : (tAt S p).1 = 0 := by omega
    have hz0 : (tAt S p).2 = 0 := (zero_slot TT.out.tab).1 ht0
    rw [hz0] at HG
    have HZ := Lib.hid HG.symm
    rw [ht0] at sl0
    rw [hz0] at sl1
    have hane : (0 == a) = false := by simp; omega
    by_cases hgr : growC b S a
    · have hgr2 := (GC.out.1 hgr).2
      have hgN : ((L.length : Int) + 1 > ((2 ^ b : Nat) : Int) / 2) := by omega
      obtain ⟨T2, _⟩ := TT.out.grow (by omega)
      obtain ⟨p2, k2, hp2, hk2, hps2, lk2⟩ := look_has T2 (by omega) p0 p1
      have HG2 := T2.get (show a ≠ 0 by omega)
      rw [HZ.out] at HG2
      have RES : Hid ((∀ c, ((growT b S).set p2 (a, 0)).set p2 (a, sumAt a L + c) = addT b S a c) ∧ addB b S a = b + 1) := by
        refine ⟨fun c => ?_, ?_⟩
        · rw [AT.out, if_pos hgr, set_twice, hp2.out, HZ.out, Int.zero_add]
        · rw [ABB.out, if_pos hgr]
      have hlen2 := T2.tab.len
      rw [hp2.out] at HG2
      have hs2 : (tAt (growT b S) p2).1 = 0 := (zero_slot T2.tab).2 HG2
      have GR := Lib.hid (fun w (d : PbA w B g h l (L.length : Int) (sumC L) b S) => pbGrow_any w d TT.out hb)
      have LK2 := Lib.hid (fun w d => lk2 w B g w.heap.size l (L.length : Int) (sumC L) d)
      have LK3 := Lib.hid lk2
      obtain ⟨R, hR⟩ : ∃ R, R = growT b S := ⟨_, rfl⟩
      rw [← hR] at GR LK3 RES hs2 HG2 hlen2
      have PB2 := Lib.hid (nods_put0 R p2 a 0 HG2)
      clear GC AT ABB ST SLT HG hgr TT hhalf hcnt T2 lk2 LK2 hp2 hk2 hR ht ht0 hz0 hgr2 hfr
      obtain ⟨N, hN⟩ : ∃ N, N = 2 ^ b := ⟨_, rfl⟩
      rw [← hN] at k4 hpN hgN
      have hpsN : p < N := by rw [hN]; exact hps
      obtain ⟨M, hM⟩ : ∃ M, M = 2 ^ (b + 1) := ⟨_, rfl⟩
      have HM := Lib.hid hM
      clear hN hps
      go_enter Tryz.func170, Tryz.ntmps170
      go_wp2_with (go_at_call 197; refine LK.out.mono ?_; rintro e w1 ⟨rfl, rfl⟩)
      go_quiet (fail)
      go_wp2_with fail
      refine (GR.out _ (Ps.below D.out (drewN_below (Below.refl _ _) _))).mono ?_
      rintro e w2 ⟨rfl, d2, c2⟩
      have D2 : Hid (PbA w2 B g w.heap.size l (L.length : Int) (sumC L) (b + 1) R) := d2
      have C2 : Hid (Chg g h w w2) := (Chg.of (drewN_below (Below.refl _ _) _)).trans c2
      have LK4 := Lib.hid (LK3.out w2 B g w.heap.size l (L.length : Int) (sumC L) d2)
      obtain ⟨_, j1, _, _, j4⟩ := PbM.cells D2.out
      have jr := PbM.slot D2.out hps2
      have jf := PbM.free D2.out
      have f1 := (jf 1).1
      have f2 := (jf (p2 * 2)).2
      obtain ⟨r0, _⟩ := jr
      have hgh2 : ¬ g = w.heap.size := Ps.ne D2.out
      have hhg2 : ¬ w.heap.size = g := fun e => hgh2 e.symm
      rw [← HM.out] at j4 hps2
      have e1 : ∀ u, (w2.setCell ⟨w.heap.size, p2 * 2, none⟩ u).cell? ⟨g, 1, none⟩ = some (.int .i64 (L.length : Int)) := fun u => by
        rw [World.cell?_setCell_other _ _ _ _ (fun e => by injection e with e; exact hhg2 e)]; exact j1
      clear d2 c2 jf k1 k4 sl0 sl1
      go_wp2_with (go_at_call 197; refine LK4.out.mono ?_; rintro e w1 ⟨rfl, rfl⟩)
      go_ret
      have P1 := Ps.setRow D2.out (p2 * 2) (.int .i64 a)
      have P2 := P1.1.setTop 1 (.int .i64 ((L.length : Int) + 1))
      refine ⟨p2, w.heap.size, b + 1, R.set p2 (a, 0), rfl, ?_, C2.out.over (P1.2.trans P2.2) (Nat.le_refl _), .inr (Nat.le_refl _), by rw [← HM.out]; exact hps2, by omega, RES.out.2.symm, RES.out.1, ?_⟩
      · rw [if_pos HZ.out]
        show Ps ..
        rw [PB2.out]
        exact P2.1
      · rw [HZ.out, tAt_same (by rw [hlen2, ← HM.out]; exact hps2)]
    · have hgr2 : ¬ 2 ^ b < 2 * ((ndsT S).length + 1) := fun q => hgr (GC.out.2 ⟨ht, q⟩)
      have hgN : ((L.length : Int) + 1 ≤ ((2 ^ b : Nat) : Int) / 2) := by omega
      have RES : Hid ((∀ c, (S.set p (a, 0)).set p (a, sumAt a L + c) = addT b S a c) ∧ addB b S a = b) := by
        refine ⟨fun c => ?_, ?_⟩
        · rw [AT.out, if_neg hgr, set_twice, hz0, HZ.out]
        · rw [ABB.out, if_neg hgr]
      have PB2 := Lib.hid (nods_put0 S p a 0 hz0)
      have hlen := TT.out.tab.len
      have f1 := (hfr 1).1
      have f2 := (hfr (p * 2)).2
      have e1 : ∀ u, (w.setCell ⟨h, p * 2, none⟩ u).cell? ⟨g, 1, none⟩ = some (.int .i64 (L.length : Int)) := fun u => by
        rw [World.cell?_setCell_other _ _ _ _ (fun e => by injection e with e; exact hhg e)]; exact k1
      clear GC AT ABB ST SLT HG hgr TT hhalf hcnt ht ht0 hz0 hgr2 hfr
      obtain ⟨N, hN⟩ : ∃ N, N = 2 ^ b := ⟨_, rfl⟩
      have HNN := Lib.hid hN
      rw [← hN] at k4 hpN hgN hps hlen
      clear hN
      go_enter Tryz.func170, Tryz.ntmps170
      go_wp2_with (go_at_call 197; refine LK.out.mono ?_; rintro e w1 ⟨rfl, rfl⟩)
      go_quiet (fail)
      go_wp2_with fail
      go_ret
      have D3 := Ps.below D.out (drewN_below (Below.refl _ _) nq)
      have P1 := Ps.setRow D3 (p * 2) (.int .i64 a)
      have P2 := P1.1.setTop 1 (.int .i64 ((L.length : Int) + 1))
      refine ⟨p, h, b, S.set p (a, 0), rfl, ?_, (Chg.of (drewN_below (Below.refl _ _) _)).trans (P1.2.trans P2.2), .inl rfl, by rw [← HNN.out]; exact hps, by omega, RES.out.2.symm, RES.out.1, ?_⟩
      · rw [if_pos HZ.out]
        show Ps ..
        rw [PB2.out]
        exact P2.1
      · rw [HZ.out, tAt_same (by rw [hlen]; exact hps)]
end
end Go.Proofs.YtelekchdbiimiaaGreat
namespace Go.Proofs.YtelekchdbiimiaaGreat
set_option linter.unusedVariables false
set_option maxRecDepth 100000
open Go.RowKit
/-- the table behind Add -/
def adB (l : Int) (b : Nat) (S L : List Nd) (id c : Int) : Nat := if addE l L id c = 0 ∧ c ≠ 0 then addB b S id else b
def adS (l : Int) (b : Nat) (S L : List Nd) (id c : Int) : List Nd := if addE l L id c = 0 ∧ c ≠ 0 then addT b S id c else S
theorem tb_ad {l : Int} {b : Nat} {S L : List Nd} (t : Tb l b S L) (hb : b ≤ 61) (id c : Int) : Tb l (adB l b S L id c) (adS l b S L id c) (addS l L id c) := t.addS hb id c
theorem ad_no {l : Int} {b : Nat} {S L : List Nd} {id c : Int} (h : addE l L id c ≠ 0 ∨ c = 0) : adB l b S L id c = b ∧ adS l b S L id c = S := by
  have q : ¬ (addE l L id c = 0 ∧ c ≠ 0) := fun g => by rcases h with h | h; exact h g.1; exact g.2 h
  exact ⟨if_neg q, if_neg q⟩
theorem ad_yes {l : Int} {b : Nat} {S L : List Nd} {id c : Int} (h : addE l L id c = 0) (h2 : c ≠ 0) : adB l b S L id c = addB b S id ∧ adS l b S L id c = addT b S id c := ⟨if_pos ⟨h, h2⟩, if_pos ⟨h, h2⟩⟩
theorem Chg.upto {g h H : Nat} {a b c : World} (p : Chg g h a b) (q : Chg g H b c) (hH : H = h ∨ a.heap.size ≤ H) : Chg g h a c := by
  rcases hH with e | e
  · subst e; exact p.trans q
  · exact p.over q e
section
variable {B g h b : Nat} {l : Int} {S L : List Nd}
/-- what a call that may make another table leaves (180) -/
def AdPost (B g h : Nat) (l : Int) (b : Nat) (S M : List Nd) (n : Int) (w : World) (e : Ending) (w' : World) : Prop := e = .returned (.int .i64 n) ∧ ∃ h2, PbA w' B g h2 l (M.length : Int) (sumC M) b S ∧ Chg g h w w' ∧ (h2 = h ∨ w.heap.size ≤ h2)
set_option maxHeartbeats 3200000 in
theorem pbAdd_any (a c : Int) (w : World) (d : PbA w B g h l (L.length : Int) (sumC L) b S) (T : Tb l b S L) (hb : b ≤ 39) (A0 : -9223372036854775808 ≤ a) (A1 : a ≤ 9223372036854775807) (B0 : -9223372036854775808 ≤ c) (B1 : c ≤ 9223372036854775807) :
    Calls Tryz.prog 133 #[.pointer (some ⟨g, 0, none⟩), .int .i64 a, .int .i64 c] w (AdPost B g h l (adB l b S L a c) (adS l b S L a c) (addS l L a c) (addE l L a c) w) := by
  have D : Hid (PbA w B g h l (L.length : Int) (sumC L) b S) := d
  have hu : 1 ≤ l ∧ l ≤ 48 := of_decide_eq_true T.roll.1
  have TT := Lib.hid T
  obtain ⟨n0, n1, s0, s1⟩ := sum_bd T.roll
  obtain ⟨c0, _, c2, _, _⟩ := d.cells
  by_cases hc : c < 0
  · have H := Lib.hid (add_arg (l := l) (L := L) (id := a) (c := c) (.inr hc))
    have X := Lib.hid (ad_no (b := b) (S := S) (l := l) (L := L) (id := a) (c := c) (.inl (by rw [H.out.1]; decide)))
    clear d T
    go_enter Tryz.func133, Tryz.ntmps133
    go_wp2_with (go_at_call 131; refine (right_any _ _ _ (by omega) (by omega) A0 A1).mono ?_; rintro e w1 ⟨rfl, rfl⟩)
    all_goals (go_ret; exact ⟨ret_i (by rw [H.out.1]), h, by rw [H.out.2, X.out.1, X.out.2]; exact D.out, Chg.refl .., .inl rfl⟩)
  · cases hq : rightB l a
    · have H := Lib.hid (add_arg (l := l) (L := L) (id := a) (c := c) (.inl hq))
      have X := Lib.hid (ad_no (b := b) (S := S) (l := l) (L := L) (id := a) (c := c) (.inl (by rw [H.out.1]; decide)))
      clear d T
      go_enter Tryz.func133, Tryz.ntmps133
      go_wp2_with (go_at_call 131; refine (right_any _ _ _ (by omega) (by omega) A0 A1).mono ?_; rintro e w1 ⟨rfl, rfl⟩)
      go_ret
      exact ⟨ret_i (by rw [H.out.1]), h, by rw [H.out.2, X.out.1, X.out.2]; exact D.out, Chg.refl .., .inl rfl⟩
    · by_cases hf : 72057594037927935 < sumC L + c
      · have H := Lib.hid (add_full hq hc hf)
        have X := Lib.hid (ad_no (b := b) (S := S) (l := l) (L := L) (id := a) (c := c) (.inl (by rw [H.out.1]; decide)))
        by_cases hm : sumC L + c ≤ 9223372036854775807
        · have SS := Lib.hid (show 0 ≤ sumC L ∧ 0 ≤ c ∧ sumC L + c ≤ 9223372036854775807 from ⟨s0, by omega, hm⟩)
          clear d T
          go_enter Tryz.func133, Tryz.ntmps133
          go_wp2_with (first | (go_at_call 131; refine (right_any _ _ _ (by omega) (by omega) A0 A1).mono ?_; rintro e w1 ⟨rfl, rfl⟩) | (go_at_call 117; refine (sumAdd_ok _ SS.out).mono ?_; rintro e w1 ⟨rfl, hb1⟩))
          go_ret
          exact ⟨ret_i (by rw [H.out.1]), h, by rw [H.out.2, X.out.1, X.out.2]; exact Ps.below D.out hb1, Chg.of hb1, .inl rfl⟩
        · have SS := Lib.hid (show ¬ (0 ≤ sumC L ∧ 0 ≤ c ∧ sumC L + c ≤ 9223372036854775807) from fun q => hm q.2.2)
          clear d T
          go_enter Tryz.func133, Tryz.ntmps133
          go_wp2_with (first | (go_at_call 131; refine (right_any _ _ _ (by omega) (by omega) A0 A1).mono ?_; rintro e w1 ⟨rfl, rfl⟩) | (go_at_call 117; refine (sumAdd_no _ SS.out (by omega) (by omega) B0 B1).mono ?_; rintro e w1 ⟨rfl, hb1⟩))
          go_ret
          exact ⟨ret_i (by rw [H.out.1]), h, by rw [H.out.2, X.out.1, X.out.2]; exact Ps.below D.out hb1, Chg.of hb1, .inl rfl⟩
      · have H := Lib.hid (add_ok hq hc hf)
        have TOT := Lib.hid (addW_tot L a c)
        have sx := sum_le T.roll.2.2.2.1 a
        have SS := Lib.hid (show 0 ≤ sumC L ∧ 0 ≤ c ∧ sumC L + c ≤ 9223372036854775807 from ⟨s0, by omega, by omega⟩)
        by_cases hz : c = 0
        · subst hz
          have X := Lib.hid (ad_no (b := b) (S := S) (l := l) (L := L) (id := a) (c := 0) (.inr rfl))
          have f2 := (d.free 2).1
          have FR := Lib.hid (fun w1 (q : PbA w1 B g h l (L.length : Int) (sumC L) b S) => (⟨(q.free 2).1, q.cells.2.2.1⟩ : w1.frozen? ⟨g, 2, none⟩ = false ∧ w1.cell? ⟨g, 2, none⟩ = some (.int .i64 (sumC L))))
          have e0 : Hid (addW L a 0 = L) := show _ = _ from if_pos rfl
          clear d T
          go_enter Tryz.func133, Tryz.ntmps133
          go_wp2_with (first | (go_at_call 131; refine (right_any _ _ _ (by omega) (by omega) A0 A1).mono ?_; rintro e w1 ⟨rfl, rfl⟩) | (go_at_call 117; refine (sumAdd_ok _ SS.out).mono ?_; rintro e w1 ⟨rfl, hb1⟩; obtain ⟨f3, f4⟩ := FR.out w1 (Ps.below D.out hb1)))
          go_ret
          have P := Ps.setTop (Ps.below D.out hb1) 2 (.int .i64 (sumC L))
          refine ⟨ret_i (by rw [H.out.1]), h, ?_, (Chg.of hb1).trans P.2, .inl rfl⟩
          rw [H.out.2, X.out.1, X.out.2, e0.out]
          exact P.1
        · have X := Lib.hid (ad_yes (b := b) (S := S) H.out.1 hz)
          have LN : Hid (((addW L a c).length : Int) = if sumAt a L = 0 then (L.length : Int) + 1 else L.length) := by
            have q := addW_len (id := a) (c := c) (roll_good T.roll) (by omega)
            show _ = _
            rw [q]
            by_cases g0 : sumAt a L = 0
            · rw [if_pos ⟨g0, by omega⟩, if_pos g0]
            · rw [if_neg (fun g => g0 g.1), if_neg g0]; omega
          have PL := Lib.hid (fun w1 (q : PbA w1 B g h l (L.length : Int) (sumC L) b S) => pbPlace_any a w1 q T hb hq)
          have hc0 : 0 < c := by omega
          clear d T
          obtain ⟨x, hx⟩ : ∃ x, x = sumAt a L := ⟨_, rfl⟩
          have HX := Lib.hid hx
          rw [← hx] at sx
          obtain ⟨s, hs⟩ : ∃ s, s = sumC L := ⟨_, rfl⟩
          have HS := Lib.hid hs
          rw [← hs] at SS sx s0 s1 n1 hf c2
          clear hx hs
          go_enter Tryz.func133, Tryz.ntmps133
          go_wp2_with (first | (go_at_call 131; refine (right_any _ _ _ (by omega) (by omega) A0 A1).mono ?_; rintro e w1 ⟨rfl, rfl⟩) | (go_at_call 117; refine (sumAdd_ok _ SS.out).mono ?_; rintro e w1 ⟨rfl, hb1⟩))
          refine (PL.out _ (Ps.below D.out hb1)).mono ?_
          rintro e w2 ⟨P, h2, b2, R, rfl, d2, k2, hh, hP, hb2, HB, HR, ht⟩
          obtain ⟨_, _, _, _, j4⟩ := d2.cells
          have js := (d2.slot hP).2
          have f1 := (d2.free 2).1
          have f2 := (d2.free (P * 2 + 1)).2
          have hgh : ¬ g = h2 := d2.ne
          have hhg : ¬ h2 = g := fun e => d2.ne e.symm
          rw [ht, ← HX.out] at js
          simp only at js
          have HP1 := Lib.hid (nods_put1 R P (x + c) a (by rw [ht]))
          have D2 : Hid (PbA w2 B g h2 l (if sumAt a L = 0 then (L.length : Int) + 1 else L.length) (sumC L) b2 R) := d2
          have K2 := Lib.hid k2
          have HH := Lib.hid hh
          have HBB := Lib.hid hb1
          have hpN := pow_40 (b := b2) (by omega)
          clear d2 k2 hh ht hb1
          obtain ⟨N, hN⟩ : ∃ N, N = 2 ^ b2 := ⟨_, rfl⟩
          rw [← hN] at j4 hpN hP
          have HN := Lib.hid hN
          clear hN
          go_wp2_with fail
          go_ret
          have P1 := Ps.setRow D2.out (P * 2 + 1) (.int .i64 (x + c))
          have P2 := P1.1.setTop 2 (.int .i64 (s + c))
          have hsz := HBB.out.size
          have hh : h2 = h ∨ w.heap.size ≤ h2 := by
            rcases HH.out with q | q
            · exact .inl q
            · exact .inr (by omega)
          refine ⟨ret_i (by rw [H.out.1]), h2, ?_, ((Chg.of HBB.out).trans K2.out).upto (P1.2.trans P2.2) hh, hh⟩
          rw [H.out.2, X.out.1, X.out.2, LN.out, TOT.out, ← HB.out, ← HR.out c, ← HX.out, ← HS.out]
          show Ps ..
          rw [HP1.out]
          have q := P2.1
          rw [← HX.out] at q
          exact q
end
theorem dobs_zero {l : Int} {b : Nat} {S L : List Nd} {k id c : Int} (h : k = 0) : doB l b S L k id c = adB l b S L id c ∧ doS l b S L k id c = adS l b S L id c := by
  subst h
  refine ⟨?_, if_pos rfl⟩
  unfold doB adB
  by_cases q : addE l L id c = 0 ∧ c ≠ 0
  · rw [if_pos q, if_pos ⟨rfl, q⟩]
  · rw [if_neg q, if_neg (fun r => q r.2)]
end Go.Proofs.YtelekchdbiimiaaGreat
