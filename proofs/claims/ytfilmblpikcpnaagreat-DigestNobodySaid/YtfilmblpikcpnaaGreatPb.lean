/- The project's package probe: Home, New, and what is told of a table that lies in memory and of nil; where looking for a node ends. -/
import Derived.Test.YtfilmblpikcpnaaGreatMmy
import Derived.Test.YtfilmblpikcpnaaGreatDs
import Derived.Test.YtfilmblpikcpnaaGreatRo2
import Derived.BigQuiet
import Derived.WalkMore
import Derived.Deep.QuietTactic
import Derived.Laws.OwnMore
import Derived.Test.YtfilmblpikcpnaaGreatRow
namespace Go.Proofs.YtfilmblpikcpnaaGreat
set_option linter.unusedVariables false
open Go.RowKit

theorem div_two (x m : Nat) : ((x : Nat) : Int) / (2 : Int) ^ m = ((x / 2 ^ m : Nat) : Int) := by rw [Int.natCast_ediv, Int.natCast_pow]; rfl
theorem mix_word {k : Nat} (h2 : k ≤ 9223372036854775807) : IntKind.u64.wrap ((k : Int) * 11400714819323198485) = ((k * 11400714819323198485 % 18446744073709551616 : Nat) : Int) := by rw [IntKind.wrap_u64]; omega
theorem home_word {b : Nat} {id : Int} (h1 : 1 ≤ id) (h2 : id ≤ 9223372036854775807) (hb1 : 1 ≤ b) (hb : b ≤ 62) :
    wrap64 (IntKind.u64.wrap (id * 11400714819323198485) / 2 ^ (64 - b)) = (homeN b id : Nat) := by
  have hh := home_lt hb id
  have hp : 2 ^ b ≤ 2 ^ 62 := Nat.pow_le_pow_right (by omega) hb
  have hq : (2 : Nat) ^ 62 = 4611686018427387904 := by decide
  obtain ⟨k, rfl⟩ := Int.eq_ofNat_of_zero_le (show 0 ≤ id by omega)
  rw [mix_word (by omega), div_two]
  have e : homeN b (k : Int) = k * 11400714819323198485 % 18446744073709551616 / 2 ^ (64 - b) := by unfold homeN; rw [Int.toNat_natCast]
  rw [← e]
  generalize homeN b (k : Int) = x at *
  unfold wrap64
  omega
set_option maxHeartbeats 800000 in
theorem pbHome_any (b id : Int) (w : World) (B0 : -9223372036854775808 ≤ b) (B1 : b ≤ 9223372036854775807) (A0 : -9223372036854775808 ≤ id) (A1 : id ≤ 9223372036854775807) :
    Calls Tryz.prog 139 #[.int .i64 b, .int .i64 id] w fun e w' => e = .returned (.int .i64 (homeV b id)) ∧ w = w' := by
  by_cases h : b < 1 ∨ 62 < b ∨ id < 1
  · have H := Lib.hid (homeV_no h)
    rcases (show b < 1 ∨ (1 ≤ b ∧ 62 < b) ∨ (1 ≤ b ∧ b ≤ 62 ∧ id < 1) by omega) with q | ⟨q1, q2⟩ | ⟨q1, q2, q3⟩
    all_goals
      clear h
      go_enter Tryz.func139, Tryz.ntmps139
      go_wp2_with fail
      go_ret
      exact ⟨ret_i (by rw [H.out]), rfl⟩
  · have h1 : 1 ≤ b := by omega
    have h2 : b ≤ 62 := by omega
    have h3 : 1 ≤ id := by omega
    have H := Lib.hid (homeV_yes h1 h2 h3)
    obtain ⟨k, rfl⟩ := Int.eq_ofNat_of_zero_le (show 0 ≤ b by omega)
    have HW := Lib.hid (home_word (b := k) h3 A1 (by omega) (by omega))
    clear h
    go_enter Tryz.func139, Tryz.ntmps139
    go_wp2_with fail
    go_ret
    refine ⟨ret_i ?_, rfl⟩
    rw [H.out, Int.toNat_natCast]; exact HW.out
theorem blank_nodes (n : Nat) : (blank (.agg #[.int .i64 0, .int .i64 0]) (n * 2)).toList = nods (List.replicate n nz) := by
  have h : (Value.agg #[.int .i64 0, .int .i64 0]).cells = #[.int .i64 0, .int .i64 0] := rfl
  have e : nods (List.replicate n nz) = List.replicate (n * 2) (.int .i64 0) := by
    induction n with
    | zero => rfl
    | succ n ih =>
      have e1 : (n + 1) * 2 = n * 2 + 1 + 1 := by omega
      rw [List.replicate_succ, e1, List.replicate_succ, List.replicate_succ, ← ih]
      rfl
  rw [e]
  unfold blank
  rw [h]
  refine List.ext_getElem? fun i => ?_
  by_cases hj : i < n * 2
  · rcases (show i % 2 = 0 ∨ i % 2 = 1 by omega) with q | q
    · simp [madeCells, hj, q]
    · simp [madeCells, hj, q]
  · simp [madeCells, hj]
/-- a table that was made just now -/
theorem ps_new {TD TN : TypeId} {w : World} {l n t : Int} {b : Nat} (hb : b ≤ 40) :
    PbM TD TN ((w.alloc (.cells (blank (.agg #[.int .i64 0, .int .i64 0]) (2 ^ b * 2)) TN)).alloc (.cells #[.int .i64 l, .int .i64 n, .int .i64 t, .int .i64 (b : Int), .slice (some ⟨w.heap.size, 0, none⟩) (2 ^ b) (2 ^ b)] TD)) w.heap.size (w.heap.size + 1) w.heap.size l n t b (List.replicate (2 ^ b) nz) := by
  have hp : 2 ^ b ≤ 2 ^ 40 := Nat.pow_le_pow_right (by omega) hb
  have hq : (2 : Nat) ^ 40 = 1099511627776 := by decide
  have a := World.ownsRow_lit (base := w.heap.size) (e := TN) (size := 2) w (blank (.agg #[.int .i64 0, .int .i64 0]) (2 ^ b * 2)) (2 ^ b) (Nat.le_refl _) (by unfold maxLen; omega) (by rw [blank_size])
  have hs : (w.alloc (.cells (blank (.agg #[.int .i64 0, .int .i64 0]) (2 ^ b * 2)) TN)).heap.size = w.heap.size + 1 := by simp
  have c := World.ownsRow_lit (base := w.heap.size) (e := TD) (size := 5) (w.alloc (.cells (blank (.agg #[.int .i64 0, .int .i64 0]) (2 ^ b * 2)) TN)) #[.int .i64 l, .int .i64 n, .int .i64 t, .int .i64 (b : Int), .slice (some ⟨w.heap.size, 0, none⟩) (2 ^ b) (2 ^ b)] 1 (by omega) (by unfold maxLen; omega) rfl
  rw [hs] at c
  refine ⟨c, ?_, by omega⟩
  rw [← blank_nodes]
  exact a.alloc _
abbrev PbA (w : World) (B g h : Nat) (l n t : Int) (b : Nat) (S : List Nd) : Prop := PbM 133 74 w B g h l n t b S
set_option maxHeartbeats 800000 in
theorem pbNew_no (l : Int) (w : World) (h : ¬ (1 ≤ l ∧ l ≤ 48)) : Calls Tryz.prog 95 #[.int .i64 l] w fun e w' => e = .returned (.tuple #[.pointer none, .int .i64 2]) ∧ w = w' := by
  by_cases h1 : l < 1
  · go_enter Tryz.func95, Tryz.ntmps95
    go_wp2_with fail
    go_ret2
    exact ⟨rfl, rfl⟩
  · have h2 : 48 < l := by omega
    clear h
    go_enter Tryz.func95, Tryz.ntmps95
    go_wp2_with fail
    go_ret2
    exact ⟨rfl, rfl⟩
set_option maxHeartbeats 800000 in
theorem pbNew_any (l : Int) (w : World) (h1 : 1 ≤ l) (h2 : l ≤ 48) : Calls Tryz.prog 95 #[.int .i64 l] w fun e w' =>
    ∃ g h, e = .returned (.tuple #[.pointer (some ⟨g, 0, none⟩), .int .i64 0]) ∧ PbA w' w.heap.size g h l 0 0 3 (List.replicate 8 nz) ∧ Below w.heap.size w w' := by
  obtain ⟨i0, hi, hz0, hz1, hz2⟩ := info_parts node_info
  have hmk := make_all (P := Tryz.prog) Tryz.underlying32 hi hz0 hz1 hz2 8 16 rfl 8 rfl (by omega) (by omega)
  have D : Hid _ := ps_new (TD := 133) (TN := 74) (w := w) (l := l) (n := 0) (t := 0) (b := 3) (by omega)
  clear hi
  go_enter Tryz.func95, Tryz.ntmps95
  go_wp2_with fail
  go_ret2
  exact ⟨_, _, rfl, D.out, ((Below.refl _ _).alloc (Nat.le_refl _) _).alloc (by simp) _⟩

/-! ### nil -/
theorem pbL_nil (w : World) : Calls Tryz.prog 111 #[.pointer none] w fun e w' => e = .returned (.int .i64 0) ∧ w = w' := by
  go_enter Tryz.func111, Tryz.ntmps111
  go_wp2_with fail
  go_ret
  exact ⟨rfl, rfl⟩
theorem pbLen_nil (w : World) : Calls Tryz.prog 82 #[.pointer none] w fun e w' => e = .returned (.int .i64 0) ∧ w = w' := by
  go_enter Tryz.func82, Tryz.ntmps82
  go_wp2_with fail
  go_ret
  exact ⟨rfl, rfl⟩
theorem pbTotal_nil (w : World) : Calls Tryz.prog 84 #[.pointer none] w fun e w' => e = .returned (.int .i64 0) ∧ w = w' := by
  go_enter Tryz.func84, Tryz.ntmps84
  go_wp2_with fail
  go_ret
  exact ⟨rfl, rfl⟩
theorem pbSnap_nil (w : World) : Calls Tryz.prog 80 #[.pointer none] w fun e w' => e = .returned (.slice none 0 0) ∧ w = w' := by
  go_enter Tryz.func80, Tryz.ntmps80
  go_wp2_with fail
  go_ret
  exact ⟨rfl, rfl⟩
theorem pbClone_nil (w : World) : Calls Tryz.prog 88 #[.pointer none] w fun e w' => e = .returned (.pointer none) ∧ w = w' := by
  go_enter Tryz.func88, Tryz.ntmps88
  go_wp2_with fail
  go_ret
  exact ⟨rfl, rfl⟩
theorem pbAdd_nil (a b : Int) (w : World) : Calls Tryz.prog 100 #[.pointer none, .int .i64 a, .int .i64 b] w fun e w' => e = .returned (.int .i64 1) ∧ w = w' := by
  go_enter Tryz.func100, Tryz.ntmps100
  go_wp2_with fail
  go_ret
  exact ⟨rfl, rfl⟩
set_option maxHeartbeats 800000 in
theorem pbGet_nil (a : Int) (w : World) (A0 : -9223372036854775808 ≤ a) (A1 : a ≤ 9223372036854775807) : Calls Tryz.prog 98 #[.pointer none, .int .i64 a] w fun e w' => e = .returned (.int .i64 0) ∧ w = w' := by
  have hr := right_no (l := 0) (id := a) (fun g => by have := g.1; omega)
  go_enter Tryz.func98, Tryz.ntmps98
  go_wp2_with (first | (go_at_call 111; refine (pbL_nil _).mono ?_; rintro e w1 ⟨rfl, rfl⟩) | (go_at_call 106; refine (right_any _ _ _ (by omega) (by omega) A0 A1).mono ?_; rintro e w1 ⟨rfl, rfl⟩))
  go_ret
  exact ⟨rfl, rfl⟩
set_option maxHeartbeats 800000 in
theorem pbTake_nil (a : Int) (w : World) (A0 : -9223372036854775808 ≤ a) (A1 : a ≤ 9223372036854775807) : Calls Tryz.prog 151 #[.pointer none, .int .i64 a] w fun e w' => e = .returned (.int .i64 0) ∧ w = w' := by
  have hr := right_no (l := 0) (id := a) (fun g => by have := g.1; omega)
  go_enter Tryz.func151, Tryz.ntmps151
  go_wp2_with (first | (go_at_call 111; refine (pbL_nil _).mono ?_; rintro e w1 ⟨rfl, rfl⟩) | (go_at_call 106; refine (right_any _ _ _ (by omega) (by omega) A0 A1).mono ?_; rintro e w1 ⟨rfl, rfl⟩))
  go_ret
  exact ⟨rfl, rfl⟩
section
variable {B g h b : Nat} {l n t : Int} {S : List Nd}
theorem pbL_any (w : World) (d : PbA w B g h l n t b S) : Calls Tryz.prog 111 #[.pointer (some ⟨g, 0, none⟩)] w fun e w' => e = .returned (.int .i64 l) ∧ w = w' := by
  have c0 := d.cells.1
  clear d
  go_enter Tryz.func111, Tryz.ntmps111
  go_wp2_with fail
  go_ret
  exact ⟨rfl, rfl⟩
theorem pbLen_any (w : World) (d : PbA w B g h l n t b S) : Calls Tryz.prog 82 #[.pointer (some ⟨g, 0, none⟩)] w fun e w' => e = .returned (.int .i64 n) ∧ w = w' := by
  have c0 := d.cells.2.1
  clear d
  go_enter Tryz.func82, Tryz.ntmps82
  go_wp2_with fail
  go_ret
  exact ⟨rfl, rfl⟩
theorem pbTotal_any (w : World) (d : PbA w B g h l n t b S) : Calls Tryz.prog 84 #[.pointer (some ⟨g, 0, none⟩)] w fun e w' => e = .returned (.int .i64 t) ∧ w = w' := by
  have c0 := d.cells.2.2.1
  clear d
  go_enter Tryz.func84, Tryz.ntmps84
  go_wp2_with fail
  go_ret
  exact ⟨rfl, rfl⟩
set_option maxHeartbeats 800000 in
theorem pbBehind_any (w : World) (d : PbA w B g h l n t b S) (a : Nat) (ha : a < 2 ^ b) (hb : b ≤ 40) : Calls Tryz.prog 140 #[.pointer (some ⟨g, 0, none⟩), .int .i64 (a : Int)] w fun e w' => e = .returned (.int .i64 (tNx (2 ^ b) a : Nat)) ∧ w = w' := by
  have c0 := d.cells.2.2.2.2
  have hp : 2 ^ b ≤ 2 ^ 40 := Nat.pow_le_pow_right (by omega) hb
  have hq : (2 : Nat) ^ 40 = 1099511627776 := by decide
  clear d
  generalize 2 ^ b = N at *
  have nx := nx_is ha
  have E : Hid (((a : Int) + 1) % (N : Int) = (tNx N a : Nat)) := by
    show _ = _
    rcases nx.2 with q | ⟨q, q2⟩
    · rw [q, Int.emod_eq_of_lt (by omega) (by omega)]; omega
    · rw [q, show (a : Int) + 1 = (N : Int) by omega, Int.emod_self]; rfl
  have hN : (N : Int) ≠ 0 := by omega
  go_enter Tryz.func140, Tryz.ntmps140
  go_wp2_with fail
  go_ret
  exact ⟨ret_i (by rw [← E.out]), rfl⟩
set_option maxHeartbeats 1600000 in
theorem pbSteps_any (w : World) (d : PbA w B g h l n t b S) (a c : Nat) (ha : a < 2 ^ b) (hc : c < 2 ^ b) (hb : b ≤ 40) : Calls Tryz.prog 157 #[.pointer (some ⟨g, 0, none⟩), .int .i64 (a : Int), .int .i64 (c : Int)] w fun e w' => e = .returned (.int .i64 (tDs (2 ^ b) a c : Nat)) ∧ ∃ q, w' = w.drewN q := by
  have c0 := d.cells.2.2.2.2
  have hp : 2 ^ b ≤ 2 ^ 40 := Nat.pow_le_pow_right (by omega) hb
  have hq : (2 : Nat) ^ 40 = 1099511627776 := by decide
  clear d
  generalize 2 ^ b = N at *
  have nx := ds_is ha hc
  have E : Hid (((c : Int) - (a : Int) + (N : Int)) % (N : Int) = (tDs N a c : Nat)) := by
    show _ = _
    rcases nx.2 with q | q
    · rw [show (c : Int) - (a : Int) + (N : Int) = (tDs N a c : Int) + N by omega, Int.add_emod_right, Int.emod_eq_of_lt (by omega) (by omega)]
    · rw [show (c : Int) - (a : Int) + (N : Int) = (tDs N a c : Int) by omega, Int.emod_eq_of_lt (by omega) (by omega)]
  have hN : (N : Int) ≠ 0 := by omega
  go_enter Tryz.func157, Tryz.ntmps157
  go_wp2_with fail
  go_quiet (fail)
  go_wp2_with fail
  go_ret
  exact ⟨ret_i (by rw [← E.out]), _, rfl⟩
end

end Go.Proofs.YtfilmblpikcpnaaGreat
