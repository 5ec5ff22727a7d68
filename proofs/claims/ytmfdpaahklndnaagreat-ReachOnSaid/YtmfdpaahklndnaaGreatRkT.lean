/- Texts laid together: Mem, Rk, Tw. -/
import Derived.WalkKit
import Derived.Test.YtmfdpaahklndnaaGreatPln
import Derived.Test.YtmfdpaahklndnaaGreatShelf
import Derived.WalkSpells
import Derived.WalkLawsBesides
import Derived.Lib.Hide
import Derived.Lib.ItoaNum
import Derived.Deep.QuietTactic
import Derived.BigQuiet
import Derived.Test.YtmfdpaahklndnaaGreatMmy
namespace Go.Proofs.YtmfdpaahklndnaaGreat
set_option linter.unusedVariables false
open Go.RowKit
/-- the slice value v reads, in the world w, as the list l of int -/
def Seg (w : World) (v : Value) (l : List Int) : Prop :=
  ∃ A c, v = .slice A l.length c ∧ (0 < l.length → ∃ b o, A = some ⟨b, o, none⟩ ∧ b < w.heap.size ∧ ∀ k, k < l.length → w.cell? ⟨b, o + k, none⟩ = some (.int .i64 (dg l k)))
theorem seg_nil (w : World) : Seg w (.slice none 0 0) [] := ⟨none, 0, rfl, fun h => absurd h (by simp)⟩
theorem seg_below {w w' : World} {v : Value} {l : List Int} (h : Seg w v l) (hb : Below w.heap.size w w') : Seg w' v l := by
  obtain ⟨A, c, e, k⟩ := h
  refine ⟨A, c, e, fun h0 => ?_⟩
  obtain ⟨b, o, ea, hlt, hc⟩ := k h0
  exact ⟨b, o, ea, Nat.lt_of_lt_of_le hlt hb.size, fun i hi => (hb.cell (p := ⟨b, o + i, none⟩) hlt).trans (hc i hi)⟩
theorem seg_own {w : World} {base : Nat} {e : TypeId} {v : Value} {l : List Int} (h : w.ownsRow base e 1 v l.length (l.map (Value.int .i64))) : Seg w v l := by
  have hf := h
  rcases h.2 with ⟨rfl, h0⟩ | ⟨g, cap, cur, rfl, _, _⟩
  · have : l = [] := List.eq_nil_of_length_eq_zero h0
    subst this; exact seg_nil w
  · refine ⟨_, cap, rfl, fun h0 => ⟨g, 0, rfl, (World.ownsRow.lt hf g rfl).2, fun k hk => ?_⟩⟩
    have hc := World.ownsRow.cells hf (g := g) rfl k (.int .i64 (dg l k)) (by simp [dg, List.getElem?_map, List.getD_eq_getElem?_getD, List.getElem?_eq_getElem hk])
    have ha : (⟨g, 0, none⟩ : Addr).add k = ⟨g, 0 + k, none⟩ := by unfold Addr.add; split <;> simp_all
    rw [← ha]; exact hc
theorem seg_at {w : World} {A : Option Addr} {n c : Nat} {l : List Int} (h : Seg w (.slice A n c) l) {i : Nat} (hi : i < l.length) :
    ∃ b o, A = some ⟨b, o, none⟩ ∧ b < w.heap.size ∧ ∀ k, k < l.length → w.cell? ⟨b, o + k, none⟩ = some (.int .i64 (dg l k)) := by
  obtain ⟨A', c', e, k⟩ := h
  injection e with e1 e2 e3
  obtain ⟨b, o, hA, hlt, hc⟩ := k (by omega)
  exact ⟨b, o, e1.trans hA, hlt, hc⟩
/-- one more number at the end of a row of the call's own: the law's words made short -/
theorem map_app (l : List Int) (x : Int) : l.map (Value.int .i64) ++ [Value.int .i64 x] = (l ++ [x]).map (Value.int .i64) := by simp
theorem own_app {w : World} {base : Nat} {e : TypeId} {v : Value} {l : List Int} {x : Int} (h : w.ownsRow base e 1 v (l.length + 1) (l.map (Value.int .i64) ++ [Value.int .i64 x])) :
    w.ownsRow base e 1 v (l ++ [x]).length ((l ++ [x]).map (Value.int .i64)) := by
  rw [List.length_append, List.length_singleton, ← map_app]; exact h
theorem cell_new (w : World) (x : Value) (t : TypeId) : ∀ j u, [x][j]? = some u → (w.alloc (.cells #[x] t)).cell? ((⟨w.heap.size, 0, none⟩ : Addr).add j) = some u := fun j u hj => by
  match j, hj with
  | 0, hj => simp at hj; subst hj; simp [Addr.add]
theorem int_cell (x : Int) : ∀ u ∈ [Value.int .i64 x], u.oneCell' = true := fun u hu => by simp at hu; subst hu; rfl
/-- the value of a walk's end -/
theorem ret_i {k : IntKind} {a b : Int} (h : a = b) : Ending.returned (.int k a) = .returned (.int k b) := by rw [h]
end Go.Proofs.YtmfdpaahklndnaaGreat
namespace Go.Proofs.YtmfdpaahklndnaaGreat
set_option linter.unusedVariables false
open Go.RowKit
/-- a number and whether it is one; nothing that was there before is changed -/
def Ans2 (n : Int) (b : Bool) (w w' : World) (e : Ending) : Prop := e = .returned (.tuple #[.int .i64 n, .bool b]) ∧ Below w.heap.size w w'
theorem ans2 {n m : Int} {b c : Bool} {w w' : World} (h : n = m ∧ b = c) (hb : Below w.heap.size w w') : Ans2 n b w w' (.returned (.tuple #[.int .i64 m, .bool c])) := by
  obtain ⟨rfl, rfl⟩ := h; exact ⟨rfl, hb⟩
theorem below_one (w : World) (o : Obj) : Below w.heap.size w (w.alloc o) := (Below.refl _ _).alloc (Nat.le_refl _) o
theorem seg_two (w : World) (a b : Int) (t : TypeId) : Seg (w.alloc (.cells #[.int .i64 a, .int .i64 b] t)) (.slice (some ⟨w.heap.size, 0, none⟩) 2 2) [a, b] :=
  ⟨_, 2, rfl, fun _ => ⟨w.heap.size, 0, rfl, by simp, fun k hk => by
    match k, hk with
    | 0, _ => rw [World.cell?_alloc_at _ _ _ _ rfl]; rfl
    | 1, _ => rw [World.cell?_alloc_at _ _ _ _ rfl]; rfl⟩⟩
/-- is none of a list below 0? -/
def cntB (l : List Int) : Bool := l.all fun x => decide (0 ≤ x)
theorem cnt_dg {l : List Int} (k : Nat) (hk : k < l.length) (h : dg l k < 0) : cntB l = false := by
  unfold cntB
  rw [List.all_eq_false]
  refine ⟨l[k], List.getElem_mem hk, ?_⟩
  have e : dg l k = l[k] := by simp [dg, List.getD_eq_getElem?_getD, List.getElem?_eq_getElem hk]
  rw [e] at h
  simp; omega
theorem cnt_all {l : List Int} (h : ∀ k, k < l.length → 0 ≤ dg l k) : cntB l = true := by
  unfold cntB
  rw [List.all_eq_true]
  intro x hx
  obtain ⟨k, hk, rfl⟩ := List.mem_iff_getElem.1 hx
  have e : dg l k = l[k] := by simp [dg, List.getD_eq_getElem?_getD, List.getElem?_eq_getElem hk]
  have := h k hk
  rw [e] at this
  simpa using this
theorem cnt_two (a b : Int) : cntB [a, b] = decide (0 ≤ a ∧ 0 ≤ b) := by simp [cntB]
set_option maxHeartbeats 800000 in
theorem counts_any (v : Value) (l : List Int) (w : World) (h : Seg w v l) (hl : l.length ≤ 1000) :
    Calls Tryz.prog 88 #[v] w fun e w' => e = .returned (.bool (cntB l)) ∧ w = w' := by
  have S := h
  obtain ⟨A, c, rfl, hc⟩ := h
  have HC := Lib.hid hc
  clear hc
  go_enter Tryz.func88, Tryz.ntmps88
  go_wp2
  go_loop [4, 7] (fun x i => ∃ k : Nat, i = .int .i64 k ∧ k ≤ l.length ∧ Hid (∀ j, j < k → 0 ≤ dg l j)) (fun _ i => l.length - (intOf i).toNat)
  case atStart => exact ⟨0, rfl, by omega, fun j hj => absurd hj (by omega)⟩
  case round =>
    obtain ⟨k, rfl, hk, HA⟩ := hrel
    by_cases hlt : k < l.length
    · obtain ⟨b, o, rfl, _, hcell⟩ := HC.out (by omega)
      have hck := hcell k hlt
      clear hcell
      by_cases hn : dg l k < 0
      · have H := Lib.hid (cnt_dg k hlt hn)
        go_wp2
        go_ret
        exact ⟨by rw [H.out]; rfl, rfl⟩
      · have HN : Hid (∀ j, j < k + 1 → 0 ≤ dg l j) := fun j hj => by
          by_cases e : j = k
          · subst e; omega
          · exact HA.out j (by omega)
        go_wp2
        go_round
        case rel => exact ⟨k + 1, by go_num, by omega, HN.out⟩
        case measure => simp [intOf]; omega
    · have H := Lib.hid (cnt_all (l := l) fun j hj => HA.out j (by omega))
      go_wp2
      go_ret
      exact ⟨by rw [H.out]; rfl, rfl⟩
/-- a number of one word as a count -/
def nrwN (n : Int) : Int := onN (n ≤ 9223372036854775807) n
def nrwB (n : Int) : Bool := onB (n ≤ 9223372036854775807)
theorem nrw_yes {n : Int} (h : n ≤ 9223372036854775807) : nrwN n = n ∧ nrwB n = true := on_yes h _
theorem nrw_no {n : Int} (h : ¬ n ≤ 9223372036854775807) : nrwN n = 0 ∧ nrwB n = false := on_no h _
set_option maxHeartbeats 400000 in
theorem narrow_any (n : Int) (w : World) (h0 : 0 ≤ n) (h1 : n ≤ 18446744073709551615) :
    Calls Tryz.prog 91 #[.int .u64 n] w fun e w' => e = .returned (.tuple #[.int .i64 (nrwN n), .bool (nrwB n)]) ∧ w = w' := by
  by_cases h : n ≤ 9223372036854775807
  · have H := Lib.hid (nrw_yes h)
    go_enter Tryz.func91, Tryz.ntmps91
    go_wp2
    go_ret2
    exact ⟨by rw [H.out.1, H.out.2]; rfl, rfl⟩
  · have H := Lib.hid (nrw_no h)
    go_enter Tryz.func91, Tryz.ntmps91
    go_wp2
    go_ret2
    exact ⟨by rw [H.out.1, H.out.2]; rfl, rfl⟩
set_option maxHeartbeats 800000 in
theorem add_any (a b : Int) (w : World) (A0 : -9223372036854775808 ≤ a) (A1 : a ≤ 9223372036854775807) (B0 : -9223372036854775808 ≤ b) (B1 : b ≤ 9223372036854775807) :
    Calls Tryz.prog 53 #[.int .i64 a, .int .i64 b] w fun e w' => Ans2 (sumN a b) (sumB a b) w w' e := by
  by_cases h : 0 ≤ a ∧ 0 ≤ b
  · have hc : cntB [a, b] = true := by rw [cnt_two]; exact decide_eq_true h
    have H : Hid (sumN a b = nrwN (a + b) ∧ sumB a b = nrwB (a + b)) := by
      by_cases hs : a + b ≤ 9223372036854775807
      · exact ⟨(sum_yes (by omega)).1.trans (nrw_yes hs).1.symm, (sum_yes (by omega)).2.trans (nrw_yes hs).2.symm⟩
      · exact ⟨(sum_no (by omega)).1.trans (nrw_no hs).1.symm, (sum_no (by omega)).2.trans (nrw_no hs).2.symm⟩
    obtain ⟨h1, h2⟩ := h
    go_enter Tryz.func53, Tryz.ntmps53
    go_wp2_with (first | (go_at_call 88; refine (counts_any _ [a, b] _ (seg_two _ _ _ _) (by simp)).mono ?_; rintro e w' ⟨rfl, rfl⟩) | (go_at_call 91; refine (narrow_any _ _ (by omega) (by omega)).mono ?_; rintro e w' ⟨rfl, rfl⟩))
    go_ret2
    exact ans2 H.out (below_one _ _)
  · have hc : cntB [a, b] = false := by rw [cnt_two]; exact decide_eq_false h
    have H := Lib.hid (sum_no (a := a) (b := b) (by omega))
    clear h
    go_enter Tryz.func53, Tryz.ntmps53
    go_wp2_with (go_at_call 88; refine (counts_any _ [a, b] _ (seg_two _ _ _ _) (by simp)).mono ?_; rintro e w' ⟨rfl, rfl⟩)
    go_ret2
    exact ans2 H.out (below_one _ _)
set_option maxHeartbeats 400000 in
theorem div_any (a b : Int) (w : World) (A0 : -9223372036854775808 ≤ a) (A1 : a ≤ 9223372036854775807) (B0 : -9223372036854775808 ≤ b) (B1 : b ≤ 9223372036854775807) :
    Calls Tryz.prog 139 #[.int .i64 a, .int .i64 b] w fun e w' => e = .returned (.tuple #[.int .i64 (quoN a b), .bool (quoB a b)]) ∧ w = w' := by
  rcases (show a < 0 ∨ (0 ≤ a ∧ b < 1) ∨ (0 ≤ a ∧ 1 ≤ b) by omega) with h | h | h
  · have H := Lib.hid (quo_no (a := a) (b := b) (by omega))
    go_enter Tryz.func139, Tryz.ntmps139
    go_wp2
    go_ret2
    exact ⟨by rw [H.out.1, H.out.2]; rfl, rfl⟩
  · have H := Lib.hid (quo_no (a := a) (b := b) (by omega))
    obtain ⟨h1, h2⟩ := h
    go_enter Tryz.func139, Tryz.ntmps139
    go_wp2
    go_ret2
    exact ⟨by rw [H.out.1, H.out.2]; rfl, rfl⟩
  · have H := Lib.hid (quo_yes (a := a) (b := b) (by omega))
    obtain ⟨h1, h2⟩ := h
    go_enter Tryz.func139, Tryz.ntmps139
    go_wp2
    go_ret2
    exact ⟨by rw [H.out.1, H.out.2]; rfl, rfl⟩
theorem len64_any (x : Int) (w : World) (h0 : 0 ≤ x) (h1 : x ≤ 18446744073709551615) :
    Calls Tryz.prog 153 #[.int .u64 x] w fun e w' => e = .returned (.int .i64 (Lib.bitLen x.toNat)) ∧ w = w' :=
  (Tryz.bits_Len64 x w h0 h1).mono fun _ _ ⟨a, b⟩ => ⟨a, b.symm⟩
set_option maxHeartbeats 400000 in
theorem log_any (n : Int) (w : World) (N0 : -9223372036854775808 ≤ n) (N1 : n ≤ 9223372036854775807) :
    Calls Tryz.prog 123 #[.int .i64 n] w fun e w' => e = .returned (.tuple #[.int .i64 (logN n), .bool (logB n)]) ∧ w = w' := by
  by_cases h : 1 ≤ n
  · have H := Lib.hid (log_yes h)
    have hb := Lib.bitLen_le n.toNat 64 (by omega) (by omega)
    go_enter Tryz.func123, Tryz.ntmps123
    go_wp2_with (go_at_call 153; refine (len64_any _ _ (by omega) (by omega)).mono ?_; rintro e w' ⟨rfl, rfl⟩)
    go_ret2
    exact ⟨by rw [H.out.1, H.out.2]; rfl, rfl⟩
  · have H := Lib.hid (log_no h)
    go_enter Tryz.func123, Tryz.ntmps123
    go_wp2_with fail
    go_ret2
    exact ⟨by rw [H.out.1, H.out.2]; rfl, rfl⟩
end Go.Proofs.YtmfdpaahklndnaaGreat
namespace Go.Proofs.YtmfdpaahklndnaaGreat
set_option linter.unusedVariables false
open Go.RowKit
theorem universe_any (l : Int) (w : World) (L0 : -9223372036854775808 ≤ l) (L1 : l ≤ 9223372036854775807) :
    Calls Tryz.prog 122 #[.int .i64 l] w fun e w' => e = .returned (.bool (uniB l)) ∧ w = w' := by
  rcases (show l < 1 ∨ (1 ≤ l ∧ 48 < l) ∨ (1 ≤ l ∧ l ≤ 48) by omega) with h | h | h
  · have H := Lib.hid (uni_no (l := l) (by omega))
    go_enter Tryz.func122, Tryz.ntmps122
    go_wp2_with fail
    go_ret
    exact ⟨by rw [H.out]; rfl, rfl⟩
  · have H := Lib.hid (uni_no (l := l) (by omega))
    obtain ⟨h1, h2⟩ := h
    go_enter Tryz.func122, Tryz.ntmps122
    go_wp2_with fail
    go_ret
    exact ⟨ret_b (by rw [H.out]; exact decide_eq_false (by omega)), rfl⟩
  · have H := Lib.hid (uni_yes (l := l) (by omega))
    obtain ⟨h1, h2⟩ := h
    go_enter Tryz.func122, Tryz.ntmps122
    go_wp2_with fail
    go_ret
    exact ⟨by rw [H.out]; rfl, rfl⟩
theorem depth_any (id : Int) (w : World) (N0 : -9223372036854775808 ≤ id) (N1 : id ≤ 9223372036854775807) :
    Calls Tryz.prog 79 #[.int .i64 id] w fun e w' => e = .returned (.tuple #[.int .i64 (logN id), .bool (logB id)]) ∧ w = w' := by
  go_enter Tryz.func79, Tryz.ntmps79
  go_wp2_with fail
  refine (log_any _ _ N0 N1).mono ?_
  rintro e w1 ⟨rfl, rfl⟩
  go_wp2_with fail
  go_ret2
  exact ⟨rfl, rfl⟩
set_option maxHeartbeats 400000 in
theorem isLeaf_any (l id : Int) (w : World) (L0 : -9223372036854775808 ≤ l) (L1 : l ≤ 9223372036854775807) (N0 : -9223372036854775808 ≤ id) (N1 : id ≤ 9223372036854775807) :
    Calls Tryz.prog 124 #[.int .i64 l, .int .i64 id] w fun e w' => e = .returned (.bool (isLeafB l id)) ∧ w = w' := by
  rcases (show ¬ 1 ≤ id ∨ (1 ≤ id ∧ ¬ (1 ≤ l ∧ l ≤ 48)) ∨ (1 ≤ id ∧ 1 ≤ l ∧ l ≤ 48 ∧ ¬ logN id = l) ∨ (1 ≤ id ∧ 1 ≤ l ∧ l ≤ 48 ∧ logN id = l) by omega) with h | h | h | h
  · have H := Lib.hid (isLeaf_no (l := l) (id := id) (by unfold LeafC; omega))
    have hb := (log_no h).2
    clear h
    go_enter Tryz.func124, Tryz.ntmps124
    go_wp2_with (go_at_call 79; refine (depth_any _ _ N0 N1).mono ?_; rintro e w1 ⟨rfl, rfl⟩)
    go_ret
    exact ⟨by rw [H.out]; rfl, rfl⟩
  · have H := Lib.hid (isLeaf_no (l := l) (id := id) (by unfold LeafC; omega))
    have hb := (log_yes h.1).2
    have hu := uni_no h.2
    clear h
    go_enter Tryz.func124, Tryz.ntmps124
    go_wp2_with (first | (go_at_call 79; refine (depth_any _ _ N0 N1).mono ?_; rintro e w1 ⟨rfl, rfl⟩) | (go_at_call 122; refine (universe_any _ _ L0 L1).mono ?_; rintro e w1 ⟨rfl, rfl⟩))
    go_ret
    exact ⟨by rw [H.out]; rfl, rfl⟩
  · have H := Lib.hid (isLeaf_no (l := l) (id := id) (by unfold LeafC; omega))
    have hb := (log_yes h.1).2
    have hu := uni_yes ⟨h.2.1, h.2.2.1⟩
    have hd : (logN id == l) = false := by simpa using h.2.2.2
    clear h
    go_enter Tryz.func124, Tryz.ntmps124
    go_wp2_with (first | (go_at_call 79; refine (depth_any _ _ N0 N1).mono ?_; rintro e w1 ⟨rfl, rfl⟩) | (go_at_call 122; refine (universe_any _ _ L0 L1).mono ?_; rintro e w1 ⟨rfl, rfl⟩))
    go_ret
    exact ⟨by rw [H.out]; rfl, rfl⟩
  · have H := Lib.hid (isLeaf_yes (l := l) (id := id) (by unfold LeafC; omega))
    have hb := (log_yes h.1).2
    have hu := uni_yes ⟨h.2.1, h.2.2.1⟩
    have hd : (logN id == l) = true := by simpa using h.2.2.2
    clear h
    go_enter Tryz.func124, Tryz.ntmps124
    go_wp2_with (first | (go_at_call 79; refine (depth_any _ _ N0 N1).mono ?_; rintro e w1 ⟨rfl, rfl⟩) | (go_at_call 122; refine (universe_any _ _ L0 L1).mono ?_; rintro e w1 ⟨rfl, rfl⟩))
    go_ret
    exact ⟨by rw [H.out]; rfl, rfl⟩
set_option maxHeartbeats 400000 in
theorem right_any (l id : Int) (w : World) (L0 : -9223372036854775808 ≤ l) (L1 : l ≤ 9223372036854775807) (N0 : -9223372036854775808 ≤ id) (N1 : id ≤ 9223372036854775807) :
    Calls Tryz.prog 78 #[.int .i64 l, .int .i64 id] w fun e w' => e = .returned (.bool (rightB l id)) ∧ w = w' := by
  rcases (show ¬ 1 ≤ id ∨ (1 ≤ id ∧ ¬ (1 ≤ l ∧ l ≤ 48)) ∨ (1 ≤ id ∧ 1 ≤ l ∧ l ≤ 48 ∧ ¬ logN id ≤ l) ∨ (1 ≤ id ∧ 1 ≤ l ∧ l ≤ 48 ∧ logN id ≤ l) by omega) with h | h | h | h
  · have H := Lib.hid (right_no (l := l) (id := id) (by unfold RightC; omega))
    have hb := (log_no h).2
    clear h
    go_enter Tryz.func78, Tryz.ntmps78
    go_wp2_with (go_at_call 79; refine (depth_any _ _ N0 N1).mono ?_; rintro e w1 ⟨rfl, rfl⟩)
    go_ret
    exact ⟨by rw [H.out]; rfl, rfl⟩
  · have H := Lib.hid (right_no (l := l) (id := id) (by unfold RightC; omega))
    have hb := (log_yes h.1).2
    have hu := uni_no h.2
    clear h
    go_enter Tryz.func78, Tryz.ntmps78
    go_wp2_with (first | (go_at_call 79; refine (depth_any _ _ N0 N1).mono ?_; rintro e w1 ⟨rfl, rfl⟩) | (go_at_call 122; refine (universe_any _ _ L0 L1).mono ?_; rintro e w1 ⟨rfl, rfl⟩))
    go_ret
    exact ⟨by rw [H.out]; rfl, rfl⟩
  · have H := Lib.hid (right_no (l := l) (id := id) (by unfold RightC; omega))
    have hb := (log_yes h.1).2
    have hu := uni_yes ⟨h.2.1, h.2.2.1⟩
    have hd : l < logN id := by omega
    clear h
    go_enter Tryz.func78, Tryz.ntmps78
    go_wp2_with (first | (go_at_call 79; refine (depth_any _ _ N0 N1).mono ?_; rintro e w1 ⟨rfl, rfl⟩) | (go_at_call 122; refine (universe_any _ _ L0 L1).mono ?_; rintro e w1 ⟨rfl, rfl⟩))
    go_ret
    exact ⟨ret_b (by rw [H.out]; exact decide_eq_false (by omega)), rfl⟩
  · have H := Lib.hid (right_yes (l := l) (id := id) (by unfold RightC; omega))
    have hb := (log_yes h.1).2
    have hu := uni_yes ⟨h.2.1, h.2.2.1⟩
    have hd := h.2.2.2
    clear h
    go_enter Tryz.func78, Tryz.ntmps78
    go_wp2_with (first | (go_at_call 79; refine (depth_any _ _ N0 N1).mono ?_; rintro e w1 ⟨rfl, rfl⟩) | (go_at_call 122; refine (universe_any _ _ L0 L1).mono ?_; rintro e w1 ⟨rfl, rfl⟩))
    go_ret
    exact ⟨by rw [H.out]; rfl, rfl⟩
set_option maxHeartbeats 400000 in
theorem leaf_any (l x : Int) (w : World) (L0 : -9223372036854775808 ≤ l) (L1 : l ≤ 9223372036854775807) (X0 : -9223372036854775808 ≤ x) (X1 : x ≤ 9223372036854775807) :
    Calls Tryz.prog 82 #[.int .i64 l, .int .i64 x] w fun e w' => e = .returned (.tuple #[.int .i64 (leafN l x), .bool (leafB l x)]) ∧ w = w' := by
  rcases (show ¬ (1 ≤ l ∧ l ≤ 48) ∨ ((1 ≤ l ∧ l ≤ 48) ∧ x < 0) ∨ ((1 ≤ l ∧ l ≤ 48) ∧ 0 ≤ x ∧ 2 ^ l.toNat ≤ x) ∨ ((1 ≤ l ∧ l ≤ 48) ∧ 0 ≤ x ∧ x < 2 ^ l.toNat) by omega) with h | h | h | h
  · have H := Lib.hid (leaf_no (l := l) (x := x) (by unfold ValC; omega))
    have hu := uni_no h
    clear h
    go_enter Tryz.func82, Tryz.ntmps82
    go_wp2_with (go_at_call 122; refine (universe_any _ _ L0 L1).mono ?_; rintro e w1 ⟨rfl, rfl⟩)
    go_ret2
    exact ⟨by rw [H.out.1, H.out.2]; rfl, rfl⟩
  all_goals
    have hu := uni_yes h.1
    have b1 : (2 : Int) ^ l.toNat ≤ 281474976710656 := two_le l.toNat 48 (by omega)
    have b0 : (0 : Int) < 2 ^ l.toNat := two_pos _
    obtain ⟨h1, h2⟩ := h.1
  · have H := Lib.hid (leaf_no (l := l) (x := x) (by unfold ValC; omega))
    have h3 := h.2
    clear h
    go_enter Tryz.func82, Tryz.ntmps82
    go_wp2_with (go_at_call 122; refine (universe_any _ _ L0 L1).mono ?_; rintro e w1 ⟨rfl, rfl⟩)
    go_ret2
    exact ⟨by rw [H.out.1, H.out.2]; rfl, rfl⟩
  · have H := Lib.hid (leaf_no (l := l) (x := x) (by unfold ValC; omega))
    obtain ⟨_, h3, h4⟩ := h
    go_enter Tryz.func82, Tryz.ntmps82
    go_wp2_with (go_at_call 122; refine (universe_any _ _ L0 L1).mono ?_; rintro e w1 ⟨rfl, rfl⟩)
    go_ret2
    exact ⟨by rw [H.out.1, H.out.2]; rfl, rfl⟩
  · have H := Lib.hid (leaf_yes (l := l) (x := x) (by unfold ValC; omega))
    obtain ⟨_, h3, h4⟩ := h
    go_enter Tryz.func82, Tryz.ntmps82
    go_wp2_with (go_at_call 122; refine (universe_any _ _ L0 L1).mono ?_; rintro e w1 ⟨rfl, rfl⟩)
    go_ret2
    exact ⟨by rw [H.out.1, H.out.2]; rfl, rfl⟩
set_option maxHeartbeats 400000 in
theorem ends_any (l id : Int) (w : World) (L0 : -9223372036854775808 ≤ l) (L1 : l ≤ 9223372036854775807) (N0 : -9223372036854775808 ≤ id) (N1 : id ≤ 9223372036854775807) :
    Calls Tryz.prog 41 #[.int .i64 l, .int .i64 id] w fun e w' => e = .returned (.tuple #[.int .i64 (loN l id), .int .i64 (hiN l id), .bool (endB l id)]) ∧ w = w' := by
  by_cases h : RightC l id
  · have H := Lib.hid (end_yes h)
    have hu := right_yes h
    have hw := Lib.hid (wid_bd h N1)
    obtain ⟨h1, h2, h3, h4⟩ := h
    have hl := log_bd N1
    have b1 : (2 : Int) ^ l.toNat ≤ 281474976710656 := two_le l.toNat 48 (by omega)
    have b0 : (0 : Int) < 2 ^ l.toNat := two_pos _
    have c1 : (2 : Int) ^ (l - logN id).toNat ≤ 281474976710656 := two_le (l - logN id).toNat 48 (by omega)
    have c0 : (0 : Int) < 2 ^ (l - logN id).toNat := two_pos _
    have d0 : 0 ≤ id * 2 ^ (l - logN id).toNat := by have := hw.out; unfold wid at this; omega
    have d1 : id * 2 ^ (l - logN id).toNat ≤ 562949953421312 := by have := hw.out; unfold wid at this; omega
    go_enter Tryz.func41, Tryz.ntmps41
    go_wp2_with (first | (go_at_call 78; refine (right_any _ _ _ L0 L1 N0 N1).mono ?_; rintro e w1 ⟨rfl, rfl⟩) | (go_at_call 79; refine (depth_any _ _ N0 N1).mono ?_; rintro e w1 ⟨rfl, rfl⟩))
    go_ret3
    exact ⟨by rw [H.out.1, H.out.2.1, H.out.2.2]; rfl, rfl⟩
  · have H := Lib.hid (end_no h)
    have hu := right_no h
    clear h
    go_enter Tryz.func41, Tryz.ntmps41
    go_wp2_with (go_at_call 78; refine (right_any _ _ _ L0 L1 N0 N1).mono ?_; rintro e w1 ⟨rfl, rfl⟩)
    go_ret3
    exact ⟨by rw [H.out.1, H.out.2.1, H.out.2.2]; rfl, rfl⟩
set_option maxHeartbeats 400000 in
theorem tUp_any (id b : Int) (w : World) (N0 : -9223372036854775808 ≤ id) (N1 : id ≤ 9223372036854775807) (B0 : -9223372036854775808 ≤ b) (B1 : b ≤ 9223372036854775807) :
    Calls Tryz.prog 117 #[.int .i64 id, .int .i64 b] w fun e w' => e = .returned (.tuple #[.int .i64 (tUpN id b), .bool (tUpB id b)]) ∧ w = w' := by
  rcases (show ¬ 1 ≤ id ∨ (1 ≤ id ∧ b < 0) ∨ (1 ≤ id ∧ 0 ≤ b ∧ logN id < b) ∨ (1 ≤ id ∧ 0 ≤ b ∧ b ≤ logN id) by omega) with h | h | h | h
  · have H := Lib.hid (tUp_no (id := id) (b := b) (by unfold tUpC; omega))
    have hb := (log_no h).2
    clear h
    go_enter Tryz.func117, Tryz.ntmps117
    go_wp2_with (go_at_call 79; refine (depth_any _ _ N0 N1).mono ?_; rintro e w1 ⟨rfl, rfl⟩)
    go_ret2
    exact ⟨by rw [H.out.1, H.out.2]; rfl, rfl⟩
  · have H := Lib.hid (tUp_no (id := id) (b := b) (by unfold tUpC; omega))
    have hb := (log_yes h.1).2
    have h2 := h.2
    clear h
    go_enter Tryz.func117, Tryz.ntmps117
    go_wp2_with (go_at_call 79; refine (depth_any _ _ N0 N1).mono ?_; rintro e w1 ⟨rfl, rfl⟩)
    go_ret2
    exact ⟨by rw [H.out.1, H.out.2]; rfl, rfl⟩
  · have H := Lib.hid (tUp_no (id := id) (b := b) (by unfold tUpC; omega))
    have hb := (log_yes h.1).2
    obtain ⟨_, h2, h3⟩ := h
    go_enter Tryz.func117, Tryz.ntmps117
    go_wp2_with (go_at_call 79; refine (depth_any _ _ N0 N1).mono ?_; rintro e w1 ⟨rfl, rfl⟩)
    go_ret2
    exact ⟨by rw [H.out.1, H.out.2]; rfl, rfl⟩
  · have H := Lib.hid (tUp_yes (id := id) (b := b) (by unfold tUpC; omega))
    have hb := (log_yes h.1).2
    have hl := log_bd N1
    obtain ⟨h1, h2, h3⟩ := h
    go_enter Tryz.func117, Tryz.ntmps117
    go_wp2_with (go_at_call 79; refine (depth_any _ _ N0 N1).mono ?_; rintro e w1 ⟨rfl, rfl⟩)
    go_loop [0, 25] (fun n i => ∃ k : Nat, n = .int .i64 (id / 2 ^ k) ∧ i = .int .i64 k ∧ (k : Int) ≤ b) (fun _ i => (b - intOf i).toNat)
    case atStart => exact ⟨0, by simp, rfl, h2⟩
    case round =>
      obtain ⟨k, rfl, rfl, hk⟩ := hrel
      have hd0 : 0 ≤ id / 2 ^ k := Int.ediv_nonneg (by omega) (Int.le_of_lt (two_pos k))
      have hd1 : id / 2 ^ k ≤ id := Int.ediv_le_self _ (by omega)
      by_cases hlt : (k : Int) < b
      · have HN := Lib.hid (div_half id k)
        go_wp2_with fail
        go_round
        case rel => exact ⟨k + 1, by rw [HN.out], by go_num, by omega⟩
        case measure => simp [intOf]; omega
      · have HF : Hid (tUpN id b = id / 2 ^ k ∧ tUpB id b = true) := by
          have e : k = b.toNat := by omega
          subst e; exact H.out
        go_wp2_with fail
        go_ret2
        exact ⟨by rw [HF.out.1, HF.out.2]; rfl, rfl⟩
theorem nat_xor_one (a : Nat) : a ^^^ 1 = if a % 2 = 0 then a + 1 else a - 1 := by
  have h1 : (a ^^^ 1) / 2 = a / 2 := by rw [Nat.xor_div_two]; simp
  have h2 := @Nat.xor_mod_two_eq_one a 1
  have h3 : ((a ^^^ 1) % 2 = 1) ↔ ¬ (a % 2 = 1) := by rw [h2]; simp
  clear h2
  split <;> omega
theorem i64_xor_one (a : Int) (h0 : 1 ≤ a) (h1 : a ≤ 9223372036854775807) : bits .xor .i64 a 1 = if a % 2 = 0 then a + 1 else a - 1 := by
  obtain ⟨n, rfl⟩ := Int.eq_ofNat_of_zero_le (show 0 ≤ a by omega)
  have e : (BitVec.ofInt 64 (n : Int)).toNat = n := by
    rw [BitVec.ofInt_natCast, BitVec.toNat_ofNat]; exact Nat.mod_eq_of_lt (by omega)
  show IntKind.i64.wrap ((BitVec.ofInt 64 (n : Int) ^^^ BitVec.ofInt 64 (1 : Int)).toNat : Int) = _
  rw [BitVec.toNat_xor, e, show (BitVec.ofInt 64 (1 : Int)).toNat = 1 from rfl, nat_xor_one, IntKind.wrap_i64]
  by_cases g : n % 2 = 0
  · rw [if_pos g, if_pos (by omega)]; omega
  · rw [if_neg g, if_neg (by omega)]; omega
set_option maxHeartbeats 400000 in
theorem pair_any (id : Int) (w : World) (N0 : -9223372036854775808 ≤ id) (N1 : id ≤ 9223372036854775807) :
    Calls Tryz.prog 116 #[.int .i64 id] w fun e w' => e = .returned (.tuple #[.int .i64 (pairN id), .bool (pairB id)]) ∧ w = w' := by
  by_cases h : 2 ≤ id
  · have H := Lib.hid (pair_yes h)
    go_enter Tryz.func116, Tryz.ntmps116
    go_wp2_with fail
    go_ret2
    exact ⟨by rw [H.out.1, H.out.2, ← i64_xor_one id (by omega) N1]; rfl, rfl⟩
  · have H := Lib.hid (pair_no h)
    go_enter Tryz.func116, Tryz.ntmps116
    go_wp2_with fail
    go_ret2
    exact ⟨by rw [H.out.1, H.out.2]; rfl, rfl⟩
set_option maxHeartbeats 400000 in
theorem kids_any (l id : Int) (w : World) (L0 : -9223372036854775808 ≤ l) (L1 : l ≤ 9223372036854775807) (N0 : -9223372036854775808 ≤ id) (N1 : id ≤ 9223372036854775807) :
    Calls Tryz.prog 81 #[.int .i64 l, .int .i64 id] w fun e w' => e = .returned (.tuple #[.int .i64 (kidN l id), .int .i64 (kid2N l id), .bool (kidB l id)]) ∧ w = w' := by
  by_cases h : RightC l id
  · have hu := right_yes h
    by_cases h2 : LeafC l id
    · have H := Lib.hid (kid_no (l := l) (id := id) (fun g => g.2 h2))
      have hf := isLeaf_yes h2
      clear h h2
      go_enter Tryz.func81, Tryz.ntmps81
      go_wp2_with (first | (go_at_call 78; refine (right_any _ _ _ L0 L1 N0 N1).mono ?_; rintro e w1 ⟨rfl, rfl⟩) | (go_at_call 124; refine (isLeaf_any _ _ _ L0 L1 N0 N1).mono ?_; rintro e w1 ⟨rfl, rfl⟩))
      go_ret3
      exact ⟨by rw [H.out.1, H.out.2.1, H.out.2.2]; rfl, rfl⟩
    · have H := Lib.hid (kid_yes (l := l) (id := id) ⟨h, h2⟩)
      have hf := isLeaf_no h2
      have hk := right_id h N1
      have hk0 := h.2.2.1
      clear h h2
      go_enter Tryz.func81, Tryz.ntmps81
      go_wp2_with (first | (go_at_call 78; refine (right_any _ _ _ L0 L1 N0 N1).mono ?_; rintro e w1 ⟨rfl, rfl⟩) | (go_at_call 124; refine (isLeaf_any _ _ _ L0 L1 N0 N1).mono ?_; rintro e w1 ⟨rfl, rfl⟩))
      go_ret3
      exact ⟨by rw [H.out.1, H.out.2.1, H.out.2.2]; rfl, rfl⟩
  · have hu := right_no h
    have H := Lib.hid (kid_no (l := l) (id := id) (fun g => h g.1))
    clear h
    go_enter Tryz.func81, Tryz.ntmps81
    go_wp2_with (first | (go_at_call 78; refine (right_any _ _ _ L0 L1 N0 N1).mono ?_; rintro e w1 ⟨rfl, rfl⟩) | (go_at_call 124; refine (isLeaf_any _ _ _ L0 L1 N0 N1).mono ?_; rintro e w1 ⟨rfl, rfl⟩))
    go_ret3
    exact ⟨by rw [H.out.1, H.out.2.1, H.out.2.2]; rfl, rfl⟩
set_option maxHeartbeats 400000 in
theorem pru_any (id d : Int) (w : World) (N0 : -9223372036854775808 ≤ id) (N1 : id ≤ 9223372036854775807) (B0 : -9223372036854775808 ≤ d) (B1 : d ≤ 9223372036854775807) :
    Calls Tryz.prog 125 #[.int .i64 id, .int .i64 d] w fun e w' => e = .returned (.tuple #[.int .i64 (pruN id d), .bool (pruB id d)]) ∧ w = w' := by
  rcases (show ¬ 1 ≤ id ∨ (1 ≤ id ∧ d < 0) ∨ (1 ≤ id ∧ 0 ≤ d ∧ logN id ≤ d) ∨ (1 ≤ id ∧ 0 ≤ d ∧ d < logN id) by omega) with h | h | h | h
  · have H := Lib.hid (pru_no (id := id) (d := d) (by unfold PruC; omega))
    have hb := (log_no h).2
    clear h
    go_enter Tryz.func125, Tryz.ntmps125
    go_wp2_with (go_at_call 79; refine (depth_any _ _ N0 N1).mono ?_; rintro e w1 ⟨rfl, rfl⟩)
    go_ret2
    exact ⟨by rw [H.out.1, H.out.2]; rfl, rfl⟩
  · have H := Lib.hid (pru_no (id := id) (d := d) (by unfold PruC; omega))
    have hb := (log_yes h.1).2
    have h2 := h.2
    clear h
    go_enter Tryz.func125, Tryz.ntmps125
    go_wp2_with (go_at_call 79; refine (depth_any _ _ N0 N1).mono ?_; rintro e w1 ⟨rfl, rfl⟩)
    go_ret2
    exact ⟨by rw [H.out.1, H.out.2]; rfl, rfl⟩
  · have H : Hid (pruN id d = id ∧ pruB id d = true) := by
      have := pru_yes (id := id) (d := d) (by unfold PruC; omega)
      rw [show (logN id - d).toNat = 0 by omega] at this
      exact ⟨this.1.trans (by simp), this.2⟩
    have hb := (log_yes h.1).2
    obtain ⟨h1, h2, h3⟩ := h
    go_enter Tryz.func125, Tryz.ntmps125
    go_wp2_with (go_at_call 79; refine (depth_any _ _ N0 N1).mono ?_; rintro e w1 ⟨rfl, rfl⟩)
    go_ret2
    exact ⟨by rw [H.out.1, H.out.2]; rfl, rfl⟩
  · have H : Hid (pruN id d = tUpN id (logN id - d) ∧ pruB id d = tUpB id (logN id - d)) := by
      have h1 := pru_yes (id := id) (d := d) (by unfold PruC; omega)
      have h2 := tUp_yes (id := id) (b := logN id - d) (by unfold tUpC; omega)
      exact ⟨h1.1.trans h2.1.symm, h1.2.trans h2.2.symm⟩
    have hb := (log_yes h.1).2
    have hl := log_bd N1
    obtain ⟨h1, h2, h3⟩ := h
    go_enter Tryz.func125, Tryz.ntmps125
    go_wp2_with (first | (go_at_call 79; refine (depth_any _ _ N0 N1).mono ?_; rintro e w1 ⟨rfl, rfl⟩) | (go_at_call 117; refine (tUp_any _ _ _ N0 N1 (by omega) (by omega)).mono ?_; rintro e w1 ⟨rfl, rfl⟩))
    go_ret2
    exact ⟨by rw [H.out.1, H.out.2]; rfl, rfl⟩
set_option maxHeartbeats 800000 in
theorem meet_any (a b : Int) (w : World) (N0 : -9223372036854775808 ≤ a) (N1 : a ≤ 9223372036854775807) (B0 : -9223372036854775808 ≤ b) (B1 : b ≤ 9223372036854775807) :
    Calls Tryz.prog 83 #[.int .i64 a, .int .i64 b] w fun e w' => e = .returned (.tuple #[.int .i64 (meetN a b), .bool (meetB a b)]) ∧ w = w' := by
  have hl := log_bd N1
  have hl2 := log_bd B1
  rcases (show ¬ 1 ≤ a ∨ (1 ≤ a ∧ ¬ 1 ≤ b) ∨ (1 ≤ a ∧ 1 ≤ b) by omega) with h | h | h
  · have H := Lib.hid (meet_no (a := a) (b := b) (by omega))
    have hb := (log_no h).2
    clear h
    go_enter Tryz.func83, Tryz.ntmps83
    go_wp2_with (go_at_call 79; refine (depth_any _ _ (by omega) (by omega)).mono ?_; rintro e w1 ⟨rfl, rfl⟩)
    go_ret2
    exact ⟨by rw [H.out.1, H.out.2]; rfl, rfl⟩
  · have H := Lib.hid (meet_no (a := a) (b := b) (by omega))
    have hb := (log_yes h.1).2
    have hc := (log_no h.2).2
    clear h
    go_enter Tryz.func83, Tryz.ntmps83
    go_wp2_with (go_at_call 79; refine (depth_any _ _ (by omega) (by omega)).mono ?_; rintro e w1 ⟨rfl, rfl⟩)
    go_ret2
    exact ⟨by rw [H.out.1, H.out.2]; rfl, rfl⟩
  · have H := Lib.hid (meet_yes h)
    have hb := (log_yes h.1).2
    have hc := (log_yes h.2).2
    have HP := Lib.hid (meet_prune h.1 h.2 N1 B1)
    obtain ⟨h1, h2⟩ := h
    go_enter Tryz.func83, Tryz.ntmps83
    go_wp2_with (first | (go_at_call 79; refine (depth_any _ _ (by omega) (by omega)).mono ?_; rintro e w1 ⟨rfl, rfl⟩) | (go_at_call 125; refine (pru_any _ _ _ (by omega) (by omega) (by omega) (by omega)).mono ?_; rintro e w1 ⟨rfl, rfl⟩))
    go_loop [0, 1] (fun n m => ∃ x y : Int, n = .int .i64 x ∧ m = .int .i64 y ∧ 1 ≤ x ∧ x ≤ a ∧ 1 ≤ y ∧ y ≤ b ∧ Hid (meetI a b = meetI x y ∧ ∃ k : Nat, AtDep x k ∧ AtDep y k)) (fun n _ => (intOf n).toNat)
    case atStart =>
      obtain ⟨p1, k, p2, p3, p4, p5⟩ := HP.out
      have := two_pos k
      exact ⟨_, _, rfl, rfl, by have := p2.1; omega, p4, by have := p3.1; omega, p5, p1, k, p2, p3⟩
    case round =>
      obtain ⟨x, y, rfl, rfl, x0, x1, y0, y1, HM⟩ := hrel
      by_cases hxy : x = y
      · have hf : (x == y) = true := by simpa using hxy
        have HF : Hid (meetN a b = x ∧ meetB a b = true) := by
          have h := HM.out.1
          rw [← hxy, meet_same x x0] at h
          exact ⟨H.out.1.trans h, H.out.2⟩
        have hne : (x != y) = false := by simp [hxy]
        clear hxy
        go_wp2_with fail
        go_ret2
        exact ⟨by rw [HF.out.1, HF.out.2]; rfl, rfl⟩
      · have hne : (x != y) = true := by simpa using hxy
        obtain ⟨m1, k, d1, d2⟩ := HM.out
        have hk : k ≠ 0 := fun g => by
          subst g
          have := dep_zero d1; have := dep_zero d2
          omega
        have HN : Hid (meetI a b = meetI (x / 2) (y / 2) ∧ ∃ k : Nat, AtDep (x / 2) k ∧ AtDep (y / 2) k) := by
          obtain ⟨j, rfl⟩ := Nat.exists_eq_succ_of_ne_zero hk
          exact ⟨m1.trans (meet_both d1 d2 hxy), j, dep_half d1, dep_half d2⟩
        have x2 : 2 ≤ x := by
          have := d1.1; have h1 := two_le 1 k (by omega); simp at h1; omega
        have y2 : 2 ≤ y := by
          have := d2.1; have h1 := two_le 1 k (by omega); simp at h1; omega
        clear m1 d1 d2 hk hxy HM
        go_wp2_with fail
        go_round
        case rel => exact ⟨x / 2, y / 2, rfl, rfl, by omega, by omega, by omega, by omega, HN.out⟩
        case measure => simp [intOf]; omega
end Go.Proofs.YtmfdpaahklndnaaGreat
