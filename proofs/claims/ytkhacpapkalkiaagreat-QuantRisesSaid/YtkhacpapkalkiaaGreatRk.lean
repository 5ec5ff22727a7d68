/- The project's package reckon, for the layers above it: counts, narrow, Add, Sub, Div, Up, Log, Pow: each answers what the plain numbers say, and nothing that was there before is changed. -/
import Derived.Test.YtkhacpapkalkiaaGreatMem
import Derived.Test.YtkhacpapkalkiaaGreatPln
import Derived.Test.YtkhacpapkalkiaaGreatShelf
import Derived.WalkSpells
import Derived.WalkLawsBesides
import Derived.Lib.Hide
import Derived.Lib.ItoaNum
import Derived.Deep.QuietTactic
import Derived.BigQuiet
namespace Go.Proofs.YtkhacpapkalkiaaGreat
set_option linter.unusedVariables false
open Go.RowKit

/-- a number and whether it is one; nothing that was there before is changed -/
def Ans2 (n : Int) (b : Bool) (w w' : World) (e : Ending) : Prop := e = .returned (.tuple #[.int .i64 n, .bool b]) ∧ Below w.heap.size w w'
theorem ans2 {n m : Int} {b c : Bool} {w w' : World} (h : n = m ∧ b = c) (hb : Below w.heap.size w w') : Ans2 n b w w' (.returned (.tuple #[.int .i64 m, .bool c])) := by
  obtain ⟨rfl, rfl⟩ := h; exact ⟨rfl, hb⟩
theorem below_one (w : World) (o : Obj) : Below w.heap.size w (w.alloc o) := (Below.refl _ _).alloc (Nat.le_refl _) o

theorem seg_two (w : World) (a b : Int) (t : TypeId) : Seg (w.alloc (.cells #[.int .i64 a, .int .i64 b] t)) (.slice (some ⟨w.heap.size, 0, none⟩) 2 2) [a, b] :=
  ⟨_, 2, rfl, fun _ => ⟨w.heap.size, 0, rfl, by simp, fun k hk => by
    match k, hk with
    | 0, _ => rw [World.cell?_alloc_at _ _ _ _ rfl]; rfl
    | 1, _ => rw [World.cell?_alloc_at _ _ _ _ rfl]; rfl⟩⟩
theorem seg_four (w : World) (a b c d : Int) (t : TypeId) : Seg (w.alloc (.cells #[.int .i64 a, .int .i64 b, .int .i64 c, .int .i64 d] t)) (.slice (some ⟨w.heap.size, 0, none⟩) 4 4) [a, b, c, d] :=
  ⟨_, 4, rfl, fun _ => ⟨w.heap.size, 0, rfl, by simp, fun k hk => by
    match k, hk with
    | 0, _ => rw [World.cell?_alloc_at _ _ _ _ rfl]; rfl
    | 1, _ => rw [World.cell?_alloc_at _ _ _ _ rfl]; rfl
    | 2, _ => rw [World.cell?_alloc_at _ _ _ _ rfl]; rfl
    | 3, _ => rw [World.cell?_alloc_at _ _ _ _ rfl]; rfl⟩⟩

/-- is none of a list below 0? -/
def cntB (l : List Int) : Bool := l.all fun x => decide (0 ≤ x)
theorem cnt_dg {l : List Int} (k : Nat) (hk : k < l.length) (h : dg l k < 0) : cntB l = false := by
  unfold cntB
  rw [List.all_eq_false]
  refine ⟨l[k], List.getElem_mem hk, ?_⟩
  have e : dg l k = l[k] := by simp [dg, List.getD_eq_getElem?_getD, List.getElem?_eq_getElem hk]
  rw [e] at h
  simp; omega
theorem cnt_all {l : List Int} (h : ∀ k, k < l.length → 0 ≤ dg l k) : cntB l = true := by
  unfold cntB
  rw [List.all_eq_true]
  intro x hx
  obtain ⟨k, hk, rfl⟩ := List.mem_iff_getElem.1 hx
  have e : dg l k = l[k] := by simp [dg, List.getD_eq_getElem?_getD, List.getElem?_eq_getElem hk]
  have := h k hk
  rw [e] at this
  simpa using this
theorem cnt_two (a b : Int) : cntB [a, b] = decide (0 ≤ a ∧ 0 ≤ b) := by simp [cntB]
theorem cnt_four (a b c d : Int) : cntB [a, b, c, d] = decide (ordC a b c d) := by
  rw [Bool.eq_iff_iff, decide_eq_true_iff]; simp [cntB, ordC]

set_option maxHeartbeats 800000 in
theorem counts_any (v : Value) (l : List Int) (w : World) (h : Seg w v l) (hl : l.length ≤ 1000) :
    Calls Tryz.prog 114 #[v] w fun e w' => e = .returned (.bool (cntB l)) ∧ w = w' := by
  have S := h
  obtain ⟨A, c, rfl, hc⟩ := h
  have HC := Lib.hid hc
  clear hc
  go_enter Tryz.func114, Tryz.ntmps114
  go_wp2
  go_loop [4, 7] (fun x i => ∃ k : Nat, i = .int .i64 k ∧ k ≤ l.length ∧ Hid (∀ j, j < k → 0 ≤ dg l j)) (fun _ i => l.length - (intOf i).toNat)
  case atStart => exact ⟨0, rfl, by omega, fun j hj => absurd hj (by omega)⟩
  case round =>
    obtain ⟨k, rfl, hk, HA⟩ := hrel
    by_cases hlt : k < l.length
    · obtain ⟨b, o, rfl, _, hcell⟩ := HC.out (by omega)
      have hck := hcell k hlt
      clear hcell
      by_cases hn : dg l k < 0
      · have H := Lib.hid (cnt_dg k hlt hn)
        go_wp2
        go_ret
        exact ⟨by rw [H.out]; rfl, rfl⟩
      · have HN : Hid (∀ j, j < k + 1 → 0 ≤ dg l j) := fun j hj => by
          by_cases e : j = k
          · subst e; omega
          · exact HA.out j (by omega)
        go_wp2
        go_round
        case rel => exact ⟨k + 1, by go_num, by omega, HN.out⟩
        case measure => simp [intOf]; omega
    · have H := Lib.hid (cnt_all (l := l) fun j hj => HA.out j (by omega))
      go_wp2
      go_ret
      exact ⟨by rw [H.out]; rfl, rfl⟩

/-- a number of one word as a count -/
def nrwN (n : Int) : Int := onN (n ≤ 9223372036854775807) n
def nrwB (n : Int) : Bool := onB (n ≤ 9223372036854775807)
theorem nrw_yes {n : Int} (h : n ≤ 9223372036854775807) : nrwN n = n ∧ nrwB n = true := on_yes h _
theorem nrw_no {n : Int} (h : ¬ n ≤ 9223372036854775807) : nrwN n = 0 ∧ nrwB n = false := on_no h _
set_option maxHeartbeats 400000 in
theorem narrow_any (n : Int) (w : World) (h0 : 0 ≤ n) (h1 : n ≤ 18446744073709551615) :
    Calls Tryz.prog 117 #[.int .u64 n] w fun e w' => e = .returned (.tuple #[.int .i64 (nrwN n), .bool (nrwB n)]) ∧ w = w' := by
  by_cases h : n ≤ 9223372036854775807
  · have H := Lib.hid (nrw_yes h)
    go_enter Tryz.func117, Tryz.ntmps117
    go_wp2
    go_ret2
    exact ⟨by rw [H.out.1, H.out.2]; rfl, rfl⟩
  · have H := Lib.hid (nrw_no h)
    go_enter Tryz.func117, Tryz.ntmps117
    go_wp2
    go_ret2
    exact ⟨by rw [H.out.1, H.out.2]; rfl, rfl⟩

set_option maxHeartbeats 800000 in
theorem add_any (a b : Int) (w : World) (A0 : -9223372036854775808 ≤ a) (A1 : a ≤ 9223372036854775807) (B0 : -9223372036854775808 ≤ b) (B1 : b ≤ 9223372036854775807) :
    Calls Tryz.prog 73 #[.int .i64 a, .int .i64 b] w fun e w' => Ans2 (sumN a b) (sumB a b) w w' e := by
  by_cases h : 0 ≤ a ∧ 0 ≤ b
  · have hc : cntB [a, b] = true := by rw [cnt_two]; exact decide_eq_true h
    have H : Hid (sumN a b = nrwN (a + b) ∧ sumB a b = nrwB (a + b)) := by
      by_cases hs : a + b ≤ 9223372036854775807
      · exact ⟨(sum_yes (by omega)).1.trans (nrw_yes hs).1.symm, (sum_yes (by omega)).2.trans (nrw_yes hs).2.symm⟩
      · exact ⟨(sum_no (by omega)).1.trans (nrw_no hs).1.symm, (sum_no (by omega)).2.trans (nrw_no hs).2.symm⟩
    obtain ⟨h1, h2⟩ := h
    go_enter Tryz.func73, Tryz.ntmps73
    go_wp2_with (first | (go_at_call 114; refine (counts_any _ [a, b] _ (seg_two _ _ _ _) (by simp)).mono ?_; rintro e w' ⟨rfl, rfl⟩) | (go_at_call 117; refine (narrow_any _ _ (by omega) (by omega)).mono ?_; rintro e w' ⟨rfl, rfl⟩))
    go_ret2
    exact ans2 H.out (below_one _ _)
  · have hc : cntB [a, b] = false := by rw [cnt_two]; exact decide_eq_false h
    have H := Lib.hid (sum_no (a := a) (b := b) (by omega))
    clear h
    go_enter Tryz.func73, Tryz.ntmps73
    go_wp2_with (go_at_call 114; refine (counts_any _ [a, b] _ (seg_two _ _ _ _) (by simp)).mono ?_; rintro e w' ⟨rfl, rfl⟩)
    go_ret2
    exact ans2 H.out (below_one _ _)

set_option maxHeartbeats 400000 in
theorem div_any (a b : Int) (w : World) (A0 : -9223372036854775808 ≤ a) (A1 : a ≤ 9223372036854775807) (B0 : -9223372036854775808 ≤ b) (B1 : b ≤ 9223372036854775807) :
    Calls Tryz.prog 151 #[.int .i64 a, .int .i64 b] w fun e w' => e = .returned (.tuple #[.int .i64 (quoN a b), .bool (quoB a b)]) ∧ w = w' := by
  rcases (show a < 0 ∨ (0 ≤ a ∧ b < 1) ∨ (0 ≤ a ∧ 1 ≤ b) by omega) with h | h | h
  · have H := Lib.hid (quo_no (a := a) (b := b) (by omega))
    go_enter Tryz.func151, Tryz.ntmps151
    go_wp2
    go_ret2
    exact ⟨by rw [H.out.1, H.out.2]; rfl, rfl⟩
  · have H := Lib.hid (quo_no (a := a) (b := b) (by omega))
    obtain ⟨h1, h2⟩ := h
    go_enter Tryz.func151, Tryz.ntmps151
    go_wp2
    go_ret2
    exact ⟨by rw [H.out.1, H.out.2]; rfl, rfl⟩
  · have H := Lib.hid (quo_yes (a := a) (b := b) (by omega))
    obtain ⟨h1, h2⟩ := h
    go_enter Tryz.func151, Tryz.ntmps151
    go_wp2
    go_ret2
    exact ⟨by rw [H.out.1, H.out.2]; rfl, rfl⟩

def powN (e : Int) : Int := onN (0 ≤ e ∧ e ≤ 62) (2 ^ e.toNat)
def powB (e : Int) : Bool := onB (0 ≤ e ∧ e ≤ 62)
theorem pow_yes {e : Int} (h : 0 ≤ e ∧ e ≤ 62) : powN e = 2 ^ e.toNat ∧ powB e = true := on_yes h _
theorem pow_no {e : Int} (h : ¬ (0 ≤ e ∧ e ≤ 62)) : powN e = 0 ∧ powB e = false := on_no h _
theorem len64_any (x : Int) (w : World) (h0 : 0 ≤ x) (h1 : x ≤ 18446744073709551615) :
    Calls Tryz.prog 141 #[.int .u64 x] w fun e w' => e = .returned (.int .i64 (Lib.bitLen x.toNat)) ∧ w = w' :=
  (Tryz.bits_Len64 x w h0 h1).mono fun _ _ ⟨a, b⟩ => ⟨a, b.symm⟩

set_option maxHeartbeats 400000 in
theorem log_any (n : Int) (w : World) (N0 : -9223372036854775808 ≤ n) (N1 : n ≤ 9223372036854775807) :
    Calls Tryz.prog 130 #[.int .i64 n] w fun e w' => e = .returned (.tuple #[.int .i64 (logN n), .bool (logB n)]) ∧ w = w' := by
  by_cases h : 1 ≤ n
  · have H := Lib.hid (log_yes h)
    have hb := Lib.bitLen_le n.toNat 64 (by omega) (by omega)
    go_enter Tryz.func130, Tryz.ntmps130
    go_wp2_with (go_at_call 141; refine (len64_any _ _ (by omega) (by omega)).mono ?_; rintro e w' ⟨rfl, rfl⟩)
    go_ret2
    exact ⟨by rw [H.out.1, H.out.2]; rfl, rfl⟩
  · have H := Lib.hid (log_no h)
    go_enter Tryz.func130, Tryz.ntmps130
    go_wp2_with fail
    go_ret2
    exact ⟨by rw [H.out.1, H.out.2]; rfl, rfl⟩

end Go.Proofs.YtkhacpapkalkiaaGreat
