/- Texts laid together: Mem, Rk, Tw. -/
import Derived.WalkKit
import Derived.Test.YtelekchdbiimiaaGreatPln
import Derived.Test.YtelekchdbiimiaaGreatShelf
import Derived.WalkSpells
import Derived.WalkLawsBesides
import Derived.Lib.Hide
import Derived.Lib.ItoaNum
import Derived.Deep.QuietTactic
import Derived.BigQuiet
import Derived.Test.YtelekchdbiimiaaGreatMmy
namespace Go.Proofs.YtelekchdbiimiaaGreat
set_option linter.unusedVariables false
open Go.RowKit
/-- the slice value v reads, in the world w, as the list l of int -/
def Seg (w : World) (v : Value) (l : List Int) : Prop :=
  ∃ A c, v = .slice A l.length c ∧ (0 < l.length → ∃ b o, A = some ⟨b, o, none⟩ ∧ b < w.heap.size ∧ ∀ k, k < l.length → w.cell? ⟨b, o + k, none⟩ = some (.int .i64 (dg l k)))
theorem seg_nil (w : World) : Seg w (.slice none 0 0) [] := ⟨none, 0, rfl, fun h => absurd h (by simp)⟩
theorem seg_below {w w' : World} {v : Value} {l : List Int} (h : Seg w v l) (hb : Below w.heap.size w w') : Seg w' v l := by
  obtain ⟨A, c, e, k⟩ := h
  refine ⟨A, c, e, fun h0 => ?_⟩
  obtain ⟨b, o, ea, hlt, hc⟩ := k h0
  exact ⟨b, o, ea, Nat.lt_of_lt_of_le hlt hb.size, fun i hi => (hb.cell (p := ⟨b, o + i, none⟩) hlt).trans (hc i hi)⟩
theorem seg_own {w : World} {base : Nat} {e : TypeId} {v : Value} {l : List Int} (h : w.ownsRow base e 1 v l.length (l.map (Value.int .i64))) : Seg w v l := by
  have hf := h
  rcases h.2 with ⟨rfl, h0⟩ | ⟨g, cap, cur, rfl, _, _⟩
  · have : l = [] := List.eq_nil_of_length_eq_zero h0
    subst this; exact seg_nil w
  · refine ⟨_, cap, rfl, fun h0 => ⟨g, 0, rfl, (World.ownsRow.lt hf g rfl).2, fun k hk => ?_⟩⟩
    have hc := World.ownsRow.cells hf (g := g) rfl k (.int .i64 (dg l k)) (by simp [dg, List.getElem?_map, List.getD_eq_getElem?_getD, List.getElem?_eq_getElem hk])
    have ha : (⟨g, 0, none⟩ : Addr).add k = ⟨g, 0 + k, none⟩ := by unfold Addr.add; split <;> simp_all
    rw [← ha]; exact hc
theorem seg_at {w : World} {A : Option Addr} {n c : Nat} {l : List Int} (h : Seg w (.slice A n c) l) {i : Nat} (hi : i < l.length) :
    ∃ b o, A = some ⟨b, o, none⟩ ∧ b < w.heap.size ∧ ∀ k, k < l.length → w.cell? ⟨b, o + k, none⟩ = some (.int .i64 (dg l k)) := by
  obtain ⟨A', c', e, k⟩ := h
  injection e with e1 e2 e3
  obtain ⟨b, o, hA, hlt, hc⟩ := k (by omega)
  exact ⟨b, o, e1.trans hA, hlt, hc⟩
/-- one more number at the end of a row of the call's own: the law's words made short -/
theorem map_app (l : List Int) (x : Int) : l.map (Value.int .i64) ++ [Value.int .i64 x] = (l ++ [x]).map (Value.int .i64) := by simp
theorem own_app {w : World} {base : Nat} {e : TypeId} {v : Value} {l : List Int} {x : Int} (h : w.ownsRow base e 1 v (l.length + 1) (l.map (Value.int .i64) ++ [Value.int .i64 x])) :
    w.ownsRow base e 1 v (l ++ [x]).length ((l ++ [x]).map (Value.int .i64)) := by
  rw [List.length_append, List.length_singleton, ← map_app]; exact h
theorem cell_new (w : World) (x : Value) (t : TypeId) : ∀ j u, [x][j]? = some u → (w.alloc (.cells #[x] t)).cell? ((⟨w.heap.size, 0, none⟩ : Addr).add j) = some u := fun j u hj => by
  match j, hj with
  | 0, hj => simp at hj; subst hj; simp [Addr.add]
theorem int_cell (x : Int) : ∀ u ∈ [Value.int .i64 x], u.oneCell' = true := fun u hu => by simp at hu; subst hu; rfl
/-- the value of a walk's end -/
theorem ret_i {k : IntKind} {a b : Int} (h : a = b) : Ending.returned (.int k a) = .returned (.int k b) := by rw [h]
end Go.Proofs.YtelekchdbiimiaaGreat
namespace Go.Proofs.YtelekchdbiimiaaGreat
set_option linter.unusedVariables false
open Go.RowKit
/-- a number and whether it is one; nothing that was there before is changed -/
def Ans2 (n : Int) (b : Bool) (w w' : World) (e : Ending) : Prop := e = .returned (.tuple #[.int .i64 n, .bool b]) ∧ Below w.heap.size w w'
theorem ans2 {n m : Int} {b c : Bool} {w w' : World} (h : n = m ∧ b = c) (hb : Below w.heap.size w w') : Ans2 n b w w' (.returned (.tuple #[.int .i64 m, .bool c])) := by
  obtain ⟨rfl, rfl⟩ := h; exact ⟨rfl, hb⟩
theorem below_one (w : World) (o : Obj) : Below w.heap.size w (w.alloc o) := (Below.refl _ _).alloc (Nat.le_refl _) o
theorem seg_two (w : World) (a b : Int) (t : TypeId) : Seg (w.alloc (.cells #[.int .i64 a, .int .i64 b] t)) (.slice (some ⟨w.heap.size, 0, none⟩) 2 2) [a, b] :=
  ⟨_, 2, rfl, fun _ => ⟨w.heap.size, 0, rfl, by simp, fun k hk => by
    match k, hk with
    | 0, _ => rw [World.cell?_alloc_at _ _ _ _ rfl]; rfl
    | 1, _ => rw [World.cell?_alloc_at _ _ _ _ rfl]; rfl⟩⟩
theorem seg_four (w : World) (a b c d : Int) (t : TypeId) : Seg (w.alloc (.cells #[.int .i64 a, .int .i64 b, .int .i64 c, .int .i64 d] t)) (.slice (some ⟨w.heap.size, 0, none⟩) 4 4) [a, b, c, d] :=
  ⟨_, 4, rfl, fun _ => ⟨w.heap.size, 0, rfl, by simp, fun k hk => by
    match k, hk with
    | 0, _ => rw [World.cell?_alloc_at _ _ _ _ rfl]; rfl
    | 1, _ => rw [World.cell?_alloc_at _ _ _ _ rfl]; rfl
    | 2, _ => rw [World.cell?_alloc_at _ _ _ _ rfl]; rfl
    | 3, _ => rw [World.cell?_alloc_at _ _ _ _ rfl]; rfl⟩⟩
/-- is none of a list below 0? -/
def cntB (l : List Int) : Bool := l.all fun x => decide (0 ≤ x)
theorem cnt_dg {l : List Int} (k : Nat) (hk : k < l.length) (h : dg l k < 0) : cntB l = false := by
  unfold cntB
  rw [List.all_eq_false]
  refine ⟨l[k], List.getElem_mem hk, ?_⟩
  have e : dg l k = l[k] := by simp [dg, List.getD_eq_getElem?_getD, List.getElem?_eq_getElem hk]
  rw [e] at h
  simp; omega
theorem cnt_all {l : List Int} (h : ∀ k, k < l.length → 0 ≤ dg l k) : cntB l = true := by
  unfold cntB
  rw [List.all_eq_true]
  intro x hx
  obtain ⟨k, hk, rfl⟩ := List.mem_iff_getElem.1 hx
  have e : dg l k = l[k] := by simp [dg, List.getD_eq_getElem?_getD, List.getElem?_eq_getElem hk]
  have := h k hk
  rw [e] at this
  simpa using this
theorem cnt_two (a b : Int) : cntB [a, b] = decide (0 ≤ a ∧ 0 ≤ b) := by simp [cntB]
theorem cnt_four (a b c d : Int) : cntB [a, b, c, d] = decide (ordC a b c d) := by
  rw [Bool.eq_iff_iff, decide_eq_true_iff]; simp [cntB, ordC]
set_option maxHeartbeats 800000 in
theorem counts_any (v : Value) (l : List Int) (w : World) (h : Seg w v l) (hl : l.length ≤ 1000) :
    Calls Tryz.prog 144 #[v] w fun e w' => e = .returned (.bool (cntB l)) ∧ w = w' := by
  have S := h
  obtain ⟨A, c, rfl, hc⟩ := h
  have HC := Lib.hid hc
  clear hc
  go_enter Tryz.func144, Tryz.ntmps144
  go_wp2
  go_loop [4, 7] (fun x i => ∃ k : Nat, i = .int .i64 k ∧ k ≤ l.length ∧ Hid (∀ j, j < k → 0 ≤ dg l j)) (fun _ i => l.length - (intOf i).toNat)
  case atStart => exact ⟨0, rfl, by omega, fun j hj => absurd hj (by omega)⟩
  case round =>
    obtain ⟨k, rfl, hk, HA⟩ := hrel
    by_cases hlt : k < l.length
    · obtain ⟨b, o, rfl, _, hcell⟩ := HC.out (by omega)
      have hck := hcell k hlt
      clear hcell
      by_cases hn : dg l k < 0
      · have H := Lib.hid (cnt_dg k hlt hn)
        go_wp2
        go_ret
        exact ⟨by rw [H.out]; rfl, rfl⟩
      · have HN : Hid (∀ j, j < k + 1 → 0 ≤ dg l j) := fun j hj => by
          by_cases e : j = k
          · subst e; omega
          · exact HA.out j (by omega)
        go_wp2
        go_round
        case rel => exact ⟨k + 1, by go_num, by omega, HN.out⟩
        case measure => simp [intOf]; omega
    · have H := Lib.hid (cnt_all (l := l) fun j hj => HA.out j (by omega))
      go_wp2
      go_ret
      exact ⟨by rw [H.out]; rfl, rfl⟩
/-- a number of one word as a count -/
def nrwN (n : Int) : Int := onN (n ≤ 9223372036854775807) n
def nrwB (n : Int) : Bool := onB (n ≤ 9223372036854775807)
theorem nrw_yes {n : Int} (h : n ≤ 9223372036854775807) : nrwN n = n ∧ nrwB n = true := on_yes h _
theorem nrw_no {n : Int} (h : ¬ n ≤ 9223372036854775807) : nrwN n = 0 ∧ nrwB n = false := on_no h _
set_option maxHeartbeats 400000 in
theorem narrow_any (n : Int) (w : World) (h0 : 0 ≤ n) (h1 : n ≤ 18446744073709551615) :
    Calls Tryz.prog 163 #[.int .u64 n] w fun e w' => e = .returned (.tuple #[.int .i64 (nrwN n), .bool (nrwB n)]) ∧ w = w' := by
  by_cases h : n ≤ 9223372036854775807
  · have H := Lib.hid (nrw_yes h)
    go_enter Tryz.func163, Tryz.ntmps163
    go_wp2
    go_ret2
    exact ⟨by rw [H.out.1, H.out.2]; rfl, rfl⟩
  · have H := Lib.hid (nrw_no h)
    go_enter Tryz.func163, Tryz.ntmps163
    go_wp2
    go_ret2
    exact ⟨by rw [H.out.1, H.out.2]; rfl, rfl⟩
set_option maxHeartbeats 800000 in
theorem add_any (a b : Int) (w : World) (A0 : -9223372036854775808 ≤ a) (A1 : a ≤ 9223372036854775807) (B0 : -9223372036854775808 ≤ b) (B1 : b ≤ 9223372036854775807) :
    Calls Tryz.prog 117 #[.int .i64 a, .int .i64 b] w fun e w' => Ans2 (sumN a b) (sumB a b) w w' e := by
  by_cases h : 0 ≤ a ∧ 0 ≤ b
  · have hc : cntB [a, b] = true := by rw [cnt_two]; exact decide_eq_true h
    have H : Hid (sumN a b = nrwN (a + b) ∧ sumB a b = nrwB (a + b)) := by
      by_cases hs : a + b ≤ 9223372036854775807
      · exact ⟨(sum_yes (by omega)).1.trans (nrw_yes hs).1.symm, (sum_yes (by omega)).2.trans (nrw_yes hs).2.symm⟩
      · exact ⟨(sum_no (by omega)).1.trans (nrw_no hs).1.symm, (sum_no (by omega)).2.trans (nrw_no hs).2.symm⟩
    obtain ⟨h1, h2⟩ := h
    go_enter Tryz.func117, Tryz.ntmps117
    go_wp2_with (first | (go_at_call 144; refine (counts_any _ [a, b] _ (seg_two _ _ _ _) (by simp)).mono ?_; rintro e w' ⟨rfl, rfl⟩) | (go_at_call 163; refine (narrow_any _ _ (by omega) (by omega)).mono ?_; rintro e w' ⟨rfl, rfl⟩))
    go_ret2
    exact ans2 H.out (below_one _ _)
  · have hc : cntB [a, b] = false := by rw [cnt_two]; exact decide_eq_false h
    have H := Lib.hid (sum_no (a := a) (b := b) (by omega))
    clear h
    go_enter Tryz.func117, Tryz.ntmps117
    go_wp2_with (go_at_call 144; refine (counts_any _ [a, b] _ (seg_two _ _ _ _) (by simp)).mono ?_; rintro e w' ⟨rfl, rfl⟩)
    go_ret2
    exact ans2 H.out (below_one _ _)
set_option maxHeartbeats 400000 in
theorem div_any (a b : Int) (w : World) (A0 : -9223372036854775808 ≤ a) (A1 : a ≤ 9223372036854775807) (B0 : -9223372036854775808 ≤ b) (B1 : b ≤ 9223372036854775807) :
    Calls Tryz.prog 138 #[.int .i64 a, .int .i64 b] w fun e w' => e = .returned (.tuple #[.int .i64 (quoN a b), .bool (quoB a b)]) ∧ w = w' := by
  rcases (show a < 0 ∨ (0 ≤ a ∧ b < 1) ∨ (0 ≤ a ∧ 1 ≤ b) by omega) with h | h | h
  · have H := Lib.hid (quo_no (a := a) (b := b) (by omega))
    go_enter Tryz.func138, Tryz.ntmps138
    go_wp2
    go_ret2
    exact ⟨by rw [H.out.1, H.out.2]; rfl, rfl⟩
  · have H := Lib.hid (quo_no (a := a) (b := b) (by omega))
    obtain ⟨h1, h2⟩ := h
    go_enter Tryz.func138, Tryz.ntmps138
    go_wp2
    go_ret2
    exact ⟨by rw [H.out.1, H.out.2]; rfl, rfl⟩
  · have H := Lib.hid (quo_yes (a := a) (b := b) (by omega))
    obtain ⟨h1, h2⟩ := h
    go_enter Tryz.func138, Tryz.ntmps138
    go_wp2
    go_ret2
    exact ⟨by rw [H.out.1, H.out.2]; rfl, rfl⟩
theorem len64_any (x : Int) (w : World) (h0 : 0 ≤ x) (h1 : x ≤ 18446744073709551615) :
    Calls Tryz.prog 160 #[.int .u64 x] w fun e w' => e = .returned (.int .i64 (Lib.bitLen x.toNat)) ∧ w = w' :=
  (Tryz.bits_Len64 x w h0 h1).mono fun _ _ ⟨a, b⟩ => ⟨a, b.symm⟩
set_option maxHeartbeats 400000 in
theorem log_any (n : Int) (w : World) (N0 : -9223372036854775808 ≤ n) (N1 : n ≤ 9223372036854775807) :
    Calls Tryz.prog 174 #[.int .i64 n] w fun e w' => e = .returned (.tuple #[.int .i64 (logN n), .bool (logB n)]) ∧ w = w' := by
  by_cases h : 1 ≤ n
  · have H := Lib.hid (log_yes h)
    have hb := Lib.bitLen_le n.toNat 64 (by omega) (by omega)
    go_enter Tryz.func174, Tryz.ntmps174
    go_wp2_with (go_at_call 160; refine (len64_any _ _ (by omega) (by omega)).mono ?_; rintro e w' ⟨rfl, rfl⟩)
    go_ret2
    exact ⟨by rw [H.out.1, H.out.2]; rfl, rfl⟩
  · have H := Lib.hid (log_no h)
    go_enter Tryz.func174, Tryz.ntmps174
    go_wp2_with fail
    go_ret2
    exact ⟨by rw [H.out.1, H.out.2]; rfl, rfl⟩
end Go.Proofs.YtelekchdbiimiaaGreat
namespace Go.Proofs.YtelekchdbiimiaaGreat
set_option linter.unusedVariables false
open Go.RowKit
theorem universe_any (l : Int) (w : World) (L0 : -9223372036854775808 ≤ l) (L1 : l ≤ 9223372036854775807) :
    Calls Tryz.prog 166 #[.int .i64 l] w fun e w' => e = .returned (.bool (uniB l)) ∧ w = w' := by
  rcases (show l < 1 ∨ (1 ≤ l ∧ 48 < l) ∨ (1 ≤ l ∧ l ≤ 48) by omega) with h | h | h
  · have H := Lib.hid (uni_no (l := l) (by omega))
    go_enter Tryz.func166, Tryz.ntmps166
    go_wp2_with fail
    go_ret
    exact ⟨by rw [H.out]; rfl, rfl⟩
  · have H := Lib.hid (uni_no (l := l) (by omega))
    obtain ⟨h1, h2⟩ := h
    go_enter Tryz.func166, Tryz.ntmps166
    go_wp2_with fail
    go_ret
    exact ⟨ret_b (by rw [H.out]; exact decide_eq_false (by omega)), rfl⟩
  · have H := Lib.hid (uni_yes (l := l) (by omega))
    obtain ⟨h1, h2⟩ := h
    go_enter Tryz.func166, Tryz.ntmps166
    go_wp2_with fail
    go_ret
    exact ⟨by rw [H.out]; rfl, rfl⟩
theorem depth_any (id : Int) (w : World) (N0 : -9223372036854775808 ≤ id) (N1 : id ≤ 9223372036854775807) :
    Calls Tryz.prog 147 #[.int .i64 id] w fun e w' => e = .returned (.tuple #[.int .i64 (logN id), .bool (logB id)]) ∧ w = w' := by
  go_enter Tryz.func147, Tryz.ntmps147
  go_wp2_with fail
  refine (log_any _ _ N0 N1).mono ?_
  rintro e w1 ⟨rfl, rfl⟩
  go_wp2_with fail
  go_ret2
  exact ⟨rfl, rfl⟩
set_option maxHeartbeats 400000 in
theorem isLeaf_any (l id : Int) (w : World) (L0 : -9223372036854775808 ≤ l) (L1 : l ≤ 9223372036854775807) (N0 : -9223372036854775808 ≤ id) (N1 : id ≤ 9223372036854775807) :
    Calls Tryz.prog 141 #[.int .i64 l, .int .i64 id] w fun e w' => e = .returned (.bool (isLeafB l id)) ∧ w = w' := by
  rcases (show ¬ 1 ≤ id ∨ (1 ≤ id ∧ ¬ (1 ≤ l ∧ l ≤ 48)) ∨ (1 ≤ id ∧ 1 ≤ l ∧ l ≤ 48 ∧ ¬ logN id = l) ∨ (1 ≤ id ∧ 1 ≤ l ∧ l ≤ 48 ∧ logN id = l) by omega) with h | h | h | h
  · have H := Lib.hid (isLeaf_no (l := l) (id := id) (by unfold LeafC; omega))
    have hb := (log_no h).2
    clear h
    go_enter Tryz.func141, Tryz.ntmps141
    go_wp2_with (go_at_call 147; refine (depth_any _ _ N0 N1).mono ?_; rintro e w1 ⟨rfl, rfl⟩)
    go_ret
    exact ⟨by rw [H.out]; rfl, rfl⟩
  · have H := Lib.hid (isLeaf_no (l := l) (id := id) (by unfold LeafC; omega))
    have hb := (log_yes h.1).2
    have hu := uni_no h.2
    clear h
    go_enter Tryz.func141, Tryz.ntmps141
    go_wp2_with (first | (go_at_call 147; refine (depth_any _ _ N0 N1).mono ?_; rintro e w1 ⟨rfl, rfl⟩) | (go_at_call 166; refine (universe_any _ _ L0 L1).mono ?_; rintro e w1 ⟨rfl, rfl⟩))
    go_ret
    exact ⟨by rw [H.out]; rfl, rfl⟩
  · have H := Lib.hid (isLeaf_no (l := l) (id := id) (by unfold LeafC; omega))
    have hb := (log_yes h.1).2
    have hu := uni_yes ⟨h.2.1, h.2.2.1⟩
    have hd : (logN id == l) = false := by simpa using h.2.2.2
    clear h
    go_enter Tryz.func141, Tryz.ntmps141
    go_wp2_with (first | (go_at_call 147; refine (depth_any _ _ N0 N1).mono ?_; rintro e w1 ⟨rfl, rfl⟩) | (go_at_call 166; refine (universe_any _ _ L0 L1).mono ?_; rintro e w1 ⟨rfl, rfl⟩))
    go_ret
    exact ⟨by rw [H.out]; rfl, rfl⟩
  · have H := Lib.hid (isLeaf_yes (l := l) (id := id) (by unfold LeafC; omega))
    have hb := (log_yes h.1).2
    have hu := uni_yes ⟨h.2.1, h.2.2.1⟩
    have hd : (logN id == l) = true := by simpa using h.2.2.2
    clear h
    go_enter Tryz.func141, Tryz.ntmps141
    go_wp2_with (first | (go_at_call 147; refine (depth_any _ _ N0 N1).mono ?_; rintro e w1 ⟨rfl, rfl⟩) | (go_at_call 166; refine (universe_any _ _ L0 L1).mono ?_; rintro e w1 ⟨rfl, rfl⟩))
    go_ret
    exact ⟨by rw [H.out]; rfl, rfl⟩
set_option maxHeartbeats 400000 in
theorem right_any (l id : Int) (w : World) (L0 : -9223372036854775808 ≤ l) (L1 : l ≤ 9223372036854775807) (N0 : -9223372036854775808 ≤ id) (N1 : id ≤ 9223372036854775807) :
    Calls Tryz.prog 131 #[.int .i64 l, .int .i64 id] w fun e w' => e = .returned (.bool (rightB l id)) ∧ w = w' := by
  rcases (show ¬ 1 ≤ id ∨ (1 ≤ id ∧ ¬ (1 ≤ l ∧ l ≤ 48)) ∨ (1 ≤ id ∧ 1 ≤ l ∧ l ≤ 48 ∧ ¬ logN id ≤ l) ∨ (1 ≤ id ∧ 1 ≤ l ∧ l ≤ 48 ∧ logN id ≤ l) by omega) with h | h | h | h
  · have H := Lib.hid (right_no (l := l) (id := id) (by unfold RightC; omega))
    have hb := (log_no h).2
    clear h
    go_enter Tryz.func131, Tryz.ntmps131
    go_wp2_with (go_at_call 147; refine (depth_any _ _ N0 N1).mono ?_; rintro e w1 ⟨rfl, rfl⟩)
    go_ret
    exact ⟨by rw [H.out]; rfl, rfl⟩
  · have H := Lib.hid (right_no (l := l) (id := id) (by unfold RightC; omega))
    have hb := (log_yes h.1).2
    have hu := uni_no h.2
    clear h
    go_enter Tryz.func131, Tryz.ntmps131
    go_wp2_with (first | (go_at_call 147; refine (depth_any _ _ N0 N1).mono ?_; rintro e w1 ⟨rfl, rfl⟩) | (go_at_call 166; refine (universe_any _ _ L0 L1).mono ?_; rintro e w1 ⟨rfl, rfl⟩))
    go_ret
    exact ⟨by rw [H.out]; rfl, rfl⟩
  · have H := Lib.hid (right_no (l := l) (id := id) (by unfold RightC; omega))
    have hb := (log_yes h.1).2
    have hu := uni_yes ⟨h.2.1, h.2.2.1⟩
    have hd : l < logN id := by omega
    clear h
    go_enter Tryz.func131, Tryz.ntmps131
    go_wp2_with (first | (go_at_call 147; refine (depth_any _ _ N0 N1).mono ?_; rintro e w1 ⟨rfl, rfl⟩) | (go_at_call 166; refine (universe_any _ _ L0 L1).mono ?_; rintro e w1 ⟨rfl, rfl⟩))
    go_ret
    exact ⟨ret_b (by rw [H.out]; exact decide_eq_false (by omega)), rfl⟩
  · have H := Lib.hid (right_yes (l := l) (id := id) (by unfold RightC; omega))
    have hb := (log_yes h.1).2
    have hu := uni_yes ⟨h.2.1, h.2.2.1⟩
    have hd := h.2.2.2
    clear h
    go_enter Tryz.func131, Tryz.ntmps131
    go_wp2_with (first | (go_at_call 147; refine (depth_any _ _ N0 N1).mono ?_; rintro e w1 ⟨rfl, rfl⟩) | (go_at_call 166; refine (universe_any _ _ L0 L1).mono ?_; rintro e w1 ⟨rfl, rfl⟩))
    go_ret
    exact ⟨by rw [H.out]; rfl, rfl⟩
set_option maxHeartbeats 400000 in
theorem leaf_any (l x : Int) (w : World) (L0 : -9223372036854775808 ≤ l) (L1 : l ≤ 9223372036854775807) (X0 : -9223372036854775808 ≤ x) (X1 : x ≤ 9223372036854775807) :
    Calls Tryz.prog 120 #[.int .i64 l, .int .i64 x] w fun e w' => e = .returned (.tuple #[.int .i64 (leafN l x), .bool (leafB l x)]) ∧ w = w' := by
  rcases (show ¬ (1 ≤ l ∧ l ≤ 48) ∨ ((1 ≤ l ∧ l ≤ 48) ∧ x < 0) ∨ ((1 ≤ l ∧ l ≤ 48) ∧ 0 ≤ x ∧ 2 ^ l.toNat ≤ x) ∨ ((1 ≤ l ∧ l ≤ 48) ∧ 0 ≤ x ∧ x < 2 ^ l.toNat) by omega) with h | h | h | h
  · have H := Lib.hid (leaf_no (l := l) (x := x) (by unfold ValC; omega))
    have hu := uni_no h
    clear h
    go_enter Tryz.func120, Tryz.ntmps120
    go_wp2_with (go_at_call 166; refine (universe_any _ _ L0 L1).mono ?_; rintro e w1 ⟨rfl, rfl⟩)
    go_ret2
    exact ⟨by rw [H.out.1, H.out.2]; rfl, rfl⟩
  all_goals
    have hu := uni_yes h.1
    have b1 : (2 : Int) ^ l.toNat ≤ 281474976710656 := two_le l.toNat 48 (by omega)
    have b0 : (0 : Int) < 2 ^ l.toNat := two_pos _
    obtain ⟨h1, h2⟩ := h.1
  · have H := Lib.hid (leaf_no (l := l) (x := x) (by unfold ValC; omega))
    have h3 := h.2
    clear h
    go_enter Tryz.func120, Tryz.ntmps120
    go_wp2_with (go_at_call 166; refine (universe_any _ _ L0 L1).mono ?_; rintro e w1 ⟨rfl, rfl⟩)
    go_ret2
    exact ⟨by rw [H.out.1, H.out.2]; rfl, rfl⟩
  · have H := Lib.hid (leaf_no (l := l) (x := x) (by unfold ValC; omega))
    obtain ⟨_, h3, h4⟩ := h
    go_enter Tryz.func120, Tryz.ntmps120
    go_wp2_with (go_at_call 166; refine (universe_any _ _ L0 L1).mono ?_; rintro e w1 ⟨rfl, rfl⟩)
    go_ret2
    exact ⟨by rw [H.out.1, H.out.2]; rfl, rfl⟩
  · have H := Lib.hid (leaf_yes (l := l) (x := x) (by unfold ValC; omega))
    obtain ⟨_, h3, h4⟩ := h
    go_enter Tryz.func120, Tryz.ntmps120
    go_wp2_with (go_at_call 166; refine (universe_any _ _ L0 L1).mono ?_; rintro e w1 ⟨rfl, rfl⟩)
    go_ret2
    exact ⟨by rw [H.out.1, H.out.2]; rfl, rfl⟩
set_option maxHeartbeats 400000 in
theorem ends_any (l id : Int) (w : World) (L0 : -9223372036854775808 ≤ l) (L1 : l ≤ 9223372036854775807) (N0 : -9223372036854775808 ≤ id) (N1 : id ≤ 9223372036854775807) :
    Calls Tryz.prog 106 #[.int .i64 l, .int .i64 id] w fun e w' => e = .returned (.tuple #[.int .i64 (loN l id), .int .i64 (hiN l id), .bool (endB l id)]) ∧ w = w' := by
  by_cases h : RightC l id
  · have H := Lib.hid (end_yes h)
    have hu := right_yes h
    have hw := Lib.hid (wid_bd h N1)
    obtain ⟨h1, h2, h3, h4⟩ := h
    have hl := log_bd N1
    have b1 : (2 : Int) ^ l.toNat ≤ 281474976710656 := two_le l.toNat 48 (by omega)
    have b0 : (0 : Int) < 2 ^ l.toNat := two_pos _
    have c1 : (2 : Int) ^ (l - logN id).toNat ≤ 281474976710656 := two_le (l - logN id).toNat 48 (by omega)
    have c0 : (0 : Int) < 2 ^ (l - logN id).toNat := two_pos _
    have d0 : 0 ≤ id * 2 ^ (l - logN id).toNat := by have := hw.out; unfold wid at this; omega
    have d1 : id * 2 ^ (l - logN id).toNat ≤ 562949953421312 := by have := hw.out; unfold wid at this; omega
    go_enter Tryz.func106, Tryz.ntmps106
    go_wp2_with (first | (go_at_call 131; refine (right_any _ _ _ L0 L1 N0 N1).mono ?_; rintro e w1 ⟨rfl, rfl⟩) | (go_at_call 147; refine (depth_any _ _ N0 N1).mono ?_; rintro e w1 ⟨rfl, rfl⟩))
    go_ret3
    exact ⟨by rw [H.out.1, H.out.2.1, H.out.2.2]; rfl, rfl⟩
  · have H := Lib.hid (end_no h)
    have hu := right_no h
    clear h
    go_enter Tryz.func106, Tryz.ntmps106
    go_wp2_with (go_at_call 131; refine (right_any _ _ _ L0 L1 N0 N1).mono ?_; rintro e w1 ⟨rfl, rfl⟩)
    go_ret3
    exact ⟨by rw [H.out.1, H.out.2.1, H.out.2.2]; rfl, rfl⟩
set_option maxHeartbeats 400000 in
theorem tUp_any (id b : Int) (w : World) (N0 : -9223372036854775808 ≤ id) (N1 : id ≤ 9223372036854775807) (B0 : -9223372036854775808 ≤ b) (B1 : b ≤ 9223372036854775807) :
    Calls Tryz.prog 211 #[.int .i64 id, .int .i64 b] w fun e w' => e = .returned (.tuple #[.int .i64 (tUpN id b), .bool (tUpB id b)]) ∧ w = w' := by
  rcases (show ¬ 1 ≤ id ∨ (1 ≤ id ∧ b < 0) ∨ (1 ≤ id ∧ 0 ≤ b ∧ logN id < b) ∨ (1 ≤ id ∧ 0 ≤ b ∧ b ≤ logN id) by omega) with h | h | h | h
  · have H := Lib.hid (tUp_no (id := id) (b := b) (by unfold tUpC; omega))
    have hb := (log_no h).2
    clear h
    go_enter Tryz.func211, Tryz.ntmps211
    go_wp2_with (go_at_call 147; refine (depth_any _ _ N0 N1).mono ?_; rintro e w1 ⟨rfl, rfl⟩)
    go_ret2
    exact ⟨by rw [H.out.1, H.out.2]; rfl, rfl⟩
  · have H := Lib.hid (tUp_no (id := id) (b := b) (by unfold tUpC; omega))
    have hb := (log_yes h.1).2
    have h2 := h.2
    clear h
    go_enter Tryz.func211, Tryz.ntmps211
    go_wp2_with (go_at_call 147; refine (depth_any _ _ N0 N1).mono ?_; rintro e w1 ⟨rfl, rfl⟩)
    go_ret2
    exact ⟨by rw [H.out.1, H.out.2]; rfl, rfl⟩
  · have H := Lib.hid (tUp_no (id := id) (b := b) (by unfold tUpC; omega))
    have hb := (log_yes h.1).2
    obtain ⟨_, h2, h3⟩ := h
    go_enter Tryz.func211, Tryz.ntmps211
    go_wp2_with (go_at_call 147; refine (depth_any _ _ N0 N1).mono ?_; rintro e w1 ⟨rfl, rfl⟩)
    go_ret2
    exact ⟨by rw [H.out.1, H.out.2]; rfl, rfl⟩
  · have H := Lib.hid (tUp_yes (id := id) (b := b) (by unfold tUpC; omega))
    have hb := (log_yes h.1).2
    have hl := log_bd N1
    obtain ⟨h1, h2, h3⟩ := h
    go_enter Tryz.func211, Tryz.ntmps211
    go_wp2_with (go_at_call 147; refine (depth_any _ _ N0 N1).mono ?_; rintro e w1 ⟨rfl, rfl⟩)
    go_loop [0, 25] (fun n i => ∃ k : Nat, n = .int .i64 (id / 2 ^ k) ∧ i = .int .i64 k ∧ (k : Int) ≤ b) (fun _ i => (b - intOf i).toNat)
    case atStart => exact ⟨0, by simp, rfl, h2⟩
    case round =>
      obtain ⟨k, rfl, rfl, hk⟩ := hrel
      have hd0 : 0 ≤ id / 2 ^ k := Int.ediv_nonneg (by omega) (Int.le_of_lt (two_pos k))
      have hd1 : id / 2 ^ k ≤ id := Int.ediv_le_self _ (by omega)
      by_cases hlt : (k : Int) < b
      · have HN := Lib.hid (div_half id k)
        go_wp2_with fail
        go_round
        case rel => exact ⟨k + 1, by rw [HN.out], by go_num, by omega⟩
        case measure => simp [intOf]; omega
      · have HF : Hid (tUpN id b = id / 2 ^ k ∧ tUpB id b = true) := by
          have e : k = b.toNat := by omega
          subst e; exact H.out
        go_wp2_with fail
        go_ret2
        exact ⟨by rw [HF.out.1, HF.out.2]; rfl, rfl⟩
set_option maxHeartbeats 400000 in
theorem kids_any (l id : Int) (w : World) (L0 : -9223372036854775808 ≤ l) (L1 : l ≤ 9223372036854775807) (N0 : -9223372036854775808 ≤ id) (N1 : id ≤ 9223372036854775807) :
    Calls Tryz.prog 97 #[.int .i64 l, .int .i64 id] w fun e w' => e = .returned (.tuple #[.int .i64 (kidN l id), .int .i64 (kid2N l id), .bool (kidB l id)]) ∧ w = w' := by
  by_cases h : RightC l id
  · have hu := right_yes h
    by_cases h2 : LeafC l id
    · have H := Lib.hid (kid_no (l := l) (id := id) (fun g => g.2 h2))
      have hf := isLeaf_yes h2
      clear h h2
      go_enter Tryz.func97, Tryz.ntmps97
      go_wp2_with (first | (go_at_call 131; refine (right_any _ _ _ L0 L1 N0 N1).mono ?_; rintro e w1 ⟨rfl, rfl⟩) | (go_at_call 141; refine (isLeaf_any _ _ _ L0 L1 N0 N1).mono ?_; rintro e w1 ⟨rfl, rfl⟩))
      go_ret3
      exact ⟨by rw [H.out.1, H.out.2.1, H.out.2.2]; rfl, rfl⟩
    · have H := Lib.hid (kid_yes (l := l) (id := id) ⟨h, h2⟩)
      have hf := isLeaf_no h2
      have hk := right_id h N1
      have hk0 := h.2.2.1
      clear h h2
      go_enter Tryz.func97, Tryz.ntmps97
      go_wp2_with (first | (go_at_call 131; refine (right_any _ _ _ L0 L1 N0 N1).mono ?_; rintro e w1 ⟨rfl, rfl⟩) | (go_at_call 141; refine (isLeaf_any _ _ _ L0 L1 N0 N1).mono ?_; rintro e w1 ⟨rfl, rfl⟩))
      go_ret3
      exact ⟨by rw [H.out.1, H.out.2.1, H.out.2.2]; rfl, rfl⟩
  · have hu := right_no h
    have H := Lib.hid (kid_no (l := l) (id := id) (fun g => h g.1))
    clear h
    go_enter Tryz.func97, Tryz.ntmps97
    go_wp2_with (first | (go_at_call 131; refine (right_any _ _ _ L0 L1 N0 N1).mono ?_; rintro e w1 ⟨rfl, rfl⟩) | (go_at_call 141; refine (isLeaf_any _ _ _ L0 L1 N0 N1).mono ?_; rintro e w1 ⟨rfl, rfl⟩))
    go_ret3
    exact ⟨by rw [H.out.1, H.out.2.1, H.out.2.2]; rfl, rfl⟩
end Go.Proofs.YtelekchdbiimiaaGreat
