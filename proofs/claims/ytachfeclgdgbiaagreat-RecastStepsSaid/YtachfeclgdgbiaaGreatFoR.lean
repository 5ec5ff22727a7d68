/- Texts laid together: FoRef, FoRef2, FoRef3, FoRef4. -/
import Derived.Test.YtachfeclgdgbiaaGreatFoP
import Derived.Test.YtachfeclgdgbiaaGreatRrQ
import Derived.Laws.OwnMore
import Derived.Test.YtachfeclgdgbiaaGreatDrQ
import Derived.Test.YtachfeclgdgbiaaGreatPoQ
import Derived.Deep.RegionHeld3
import Derived.Deep.DrawnRows
import Derived.StillTailTactics
/- The document's answers of package dewpondref11: Ahead, With. -/
namespace Go.Proofs.YtachfeclgdgbiaaGreat
set_option linter.unusedVariables false
set_option maxRecDepth 100000
open Go.RowKit

set_option maxHeartbeats 1600000 in
theorem rFoAhead_any (a b : Int) (w : World) (A0 : -9223372036854775808 ≤ a) (A1 : a ≤ 9223372036854775807) (B0 : -9223372036854775808 ≤ b) (B1 : b ≤ 9223372036854775807) :
    Calls Tryz.prog 161 #[.int .i64 a, .int .i64 b] w fun e w' => e = .returned (.bool (decide (Ah a b))) ∧ w = w' := by
  have DA := Lib.hid (fun w => rdepth_any a w A0 A1)
  have DB := Lib.hid (fun w => rdepth_any b w B0 B1)
  by_cases h : logN b < logN a
  · have H := Lib.hid (show decide (Ah a b) = true from decide_eq_true (.inl h))
    have h1 : decide (logN b < logN a) = true := decide_eq_true h
    clear h
    go_enter Tryz.func161, Tryz.ntmps161
    go_wp2_with (first | (go_at_call 71; with_reducible refine (DA.out _).mono ?_; rintro e w1 ⟨rfl, rfl⟩) | (go_at_call 71; with_reducible refine (DB.out _).mono ?_; rintro e w1 ⟨rfl, rfl⟩))
    go_ret
    exact ⟨by rw [H.out]; rfl, rfl⟩
  · by_cases k : logN a = logN b
    · have H := Lib.hid (show decide (Ah a b) = decide (a < b) by unfold Ah; simp [k])
      have h1 : decide (logN b < logN a) = false := decide_eq_false h
      have h2 : (logN a == logN b) = true := beq_iff_eq.2 k
      clear h k
      go_enter Tryz.func161, Tryz.ntmps161
      go_wp2_with (first | (go_at_call 71; with_reducible refine (DA.out _).mono ?_; rintro e w1 ⟨rfl, rfl⟩) | (go_at_call 71; with_reducible refine (DB.out _).mono ?_; rintro e w1 ⟨rfl, rfl⟩))
      go_ret
      exact ⟨by rw [H.out]; rfl, rfl⟩
    · have H := Lib.hid (show decide (Ah a b) = false from decide_eq_false (by unfold Ah; omega))
      have h1 : decide (logN b < logN a) = false := decide_eq_false h
      have h2 : (logN a == logN b) = false := beq_eq_false_iff_ne.2 k
      clear h k
      go_enter Tryz.func161, Tryz.ntmps161
      go_wp2_with (first | (go_at_call 71; with_reducible refine (DA.out _).mono ?_; rintro e w1 ⟨rfl, rfl⟩) | (go_at_call 71; with_reducible refine (DB.out _).mono ?_; rintro e w1 ⟨rfl, rfl⟩))
      go_ret
      exact ⟨by rw [H.out]; rfl, rfl⟩
/-- all numbers of a slice that is read, appended to a row of the call's own -/
theorem push_all (w : World) {ops : Array Oper} {rest : List Oper} {o : Oper} {a : Act} {Z : Exit → Act → World → Prop} (hg : o.guard = none) (s x : Operand)
    (hop : o.op = Op.call { callee := Callee.builtin Builtin.append, args := #[s, x], argTypes := #[106, 106] }) {B : Nat} (v : Value) (T U : List Int) {A : Option Addr} {m c : Nat}
    (hs : a.eval s = v) (row : OwnI 3 w B v T) (hx : a.eval x = .slice A m c) (hm : m = U.length) (hA : A = none → c = 0) (hc : Cells w A m (fun k => .int .i64 (U.getD k 0))) (hn : T.length + m ≤ 100000) (hB : B ≤ w.heap.size)
    (h : ∀ v' w', OwnI 3 w' B v' (T ++ U) → w.grownBy w' v.ownBlock → At2 w v v' → wpList Tryz.prog ops Z rest (a.put o.dst v') w') : wpList Tryz.prog ops Z (o :: rest) a w := by
  obtain ⟨i0, hi, hz0, hz1, hz2⟩ := info_parts foInt_info
  cases A with
  | none =>
    have hU : U = [] := by
      rcases Nat.eq_zero_or_pos m with q | q
      · exact List.eq_nil_of_length_eq_zero (by omega)
      · obtain ⟨b, o, e, _⟩ := hc q; cases e
    subst hU
    have hc0 := hA rfl
    subst hc0
    simp at hm
    subst hm
    refine wpList_append_own_none hg s x 106 hop B 3 i0 1 Tryz.underlying106 hi v T.length (ints T) hs row hx ?_
    exact h v w (by rw [List.append_nil]; exact row) ⟨rfl, rfl, rfl, Nat.le_refl _, fun _ _ _ => rfl⟩ (At2.refl _ _)
  | some ad =>
    refine wpList_append_own_at w hg s x 106 hop B 3 i0 (.int .i64 0) 1 8 Tryz.underlying106 hi hz0 hz1 hz2 rfl (by decide) v T.length (ints T) hs row ad m c (ints U) hx (by rw [ints_len]; omega) (fun j u hj => ?_) (fun u hu => ?_) (by unfold maxLen; omega) (by omega) hB ?_
    · have hjl : j < U.length := by have := (List.getElem?_eq_some_iff.1 hj).1; rwa [ints_len] at this
      obtain ⟨b, o, e, hbl, hcell⟩ := hc (by omega)
      injection e with e
      subst e
      have q := hcell j (by omega)
      have eu : u = .int .i64 (U.getD j 0) := by
        have := List.getElem?_eq_getElem hjl
        simp [ints, this] at hj
        rw [← hj]; simp [List.getD_eq_getElem?_getD, this]
      rw [eu]
      refine Eq.trans (congrArg w.cell? ?_) q
      unfold Addr.add
      split
      · rename_i hz; rw [hz]; rfl
      · rfl
    · unfold ints at hu
      obtain ⟨x, _, rfl⟩ := List.mem_map.1 hu
      rfl
    · intro v' w' r1 r2 _ r4
      refine h v' w' ⟨by simp [ints], ?_⟩ r2 (at_two (r4.imp id fun q => ⟨_, q, Nat.le_refl _⟩))
      have q := r1.2
      rw [← ints_app] at q
      rw [List.length_append, ← hm]
      exact q
/-- a slice of numbers that is read, and can be cut -/
structure IntsC (w : World) (A : Option Addr) (n c : Nat) (T : List Int) : Prop where
  at' : IntsAt w (.slice A n c) T
  le : n ≤ c
  nil : A = none → c = 0
theorem IntsC.below {w w' : World} {A : Option Addr} {n c : Nat} {T : List Int} (h : IntsC w A n c T) (hb : Below w.heap.size w w') : IntsC w' A n c T := ⟨h.at'.below hb, h.le, h.nil⟩
theorem IntsC.len {w : World} {A : Option Addr} {n c : Nat} {T : List Int} (h : IntsC w A n c T) : n = T.length := (ints_cells h.at').1
theorem IntsC.cells {w : World} {A : Option Addr} {n c : Nat} {T : List Int} (h : IntsC w A n c T) : Cells w A n (fun k => .int .i64 (T.getD k 0)) := by have := (ints_cells h.at').2; rwa [← h.len] at this
theorem intsC_nil (w : World) : IntsC w none 0 0 [] := ⟨ints_nil w, Nat.le_refl _, fun _ => rfl⟩
theorem ownI_c {e : TypeId} {w : World} {B : Nat} {A : Option Addr} {n c : Nat} {T : List Int} (h : OwnI e w B (.slice A n c) T) : IntsC w A n c T := by
  refine ⟨ownI_ints h, ?_, ?_⟩
  · rcases ownI_form h with ⟨e, _⟩ | ⟨g, cap, e, _, _, hn, _⟩
    · injection e with e1 e2 e3; omega
    · injection e with e1 e2 e3; omega
  · intro q
    rcases ownI_form h with ⟨e, _⟩ | ⟨g, cap, e, _, _, hn, _⟩
    · injection e
    · injection e with e1; rw [q] at e1; cases e1
theorem cells_take {w : World} {A : Option Addr} {n k : Nat} {T : List Int} (h : Cells w A n (fun k => .int .i64 (T.getD k 0))) (hk : k ≤ n) : Cells w A k (fun j => .int .i64 ((T.take k).getD j 0)) := fun h0 => by
  obtain ⟨b, o, e, hl, hc⟩ := h (by omega)
  refine ⟨b, o, e, hl, fun j hj => ?_⟩
  rw [hc j (by omega)]
  simp [List.getD_eq_getElem?_getD, hj]
theorem cells_drop {w : World} {a : Addr} {n k c : Nat} {T : List Int} (h : Cells w (some a) n (fun k => .int .i64 (T.getD k 0))) (hk : k ≤ n) (hc : n ≤ c) : Cells w (some (advA a c k 1)) (n - k) (fun j => .int .i64 ((T.drop k).getD j 0)) := fun h0 => by
  obtain ⟨b, o, e, hl, hcell⟩ := h (by omega)
  injection e with e
  subst e
  refine ⟨b, o + k, ?_, hl, fun j hj => ?_⟩
  · have hne : ¬ c = k := by omega
    unfold advA
    rw [if_neg hne]
    unfold Addr.add
    split
    · rename_i hz; rw [Nat.mul_one] at hz; rw [hz]; rfl
    · rw [Nat.mul_one]
  · have q := hcell (k + j) (by omega)
    rw [show o + k + j = o + (k + j) by omega, q]
    simp [List.getD_eq_getElem?_getD]
/-- a slice that lies in new blocks, if anywhere -/
def NewA (A : Option Addr) (k : Nat) : Prop := ∀ ad, A = some ad → k ≤ ad.block
theorem own_newA {e : TypeId} {w : World} {B : Nat} {A : Option Addr} {n c : Nat} {T : List Int} (h : OwnI e w B (.slice A n c) T) : NewA A B := fun ad q => by
  subst q
  exact (World.ownsRow.lt h ad.block rfl).1
theorem NewA.mono {A : Option Addr} {k j : Nat} (h : NewA A k) (hj : j ≤ k) : NewA A j := fun ad q => Nat.le_trans hj (h ad q)
def WithPost11 (A0 : Option Addr) (T : List Int) (x : Int) (w : World) (e : Ending) (w' : World) : Prop := ∃ A n c, e = .returned (.slice A n c) ∧ IntsC w' A n c (withH T x) ∧ Below w.heap.size w w' ∧ ((A = A0 ∧ withH T x = T) ∨ NewA A w.heap.size)
set_option maxHeartbeats 3200000 in
theorem rWith_any (A : Option Addr) (n c : Nat) (T : List Int) (x : Int) (w : World) (h : IntsC w A n c T) (hn : n ≤ 1000) (hb : ∀ y ∈ T, -9223372036854775808 ≤ y ∧ y ≤ 9223372036854775807) (X0 : -9223372036854775808 ≤ x) (X1 : x ≤ 9223372036854775807) :
    Calls Tryz.prog 154 #[.slice A n c, .int .i64 x] w (WithPost11 A T x w) := by
  have H := Lib.hid h
  have HL := Lib.hid h.len
  have HC := Lib.hid h.cells
  have HB := Lib.hid hb
  have hle := h.le
  obtain ⟨i0, hi, hz0, hz1, hz2⟩ := info_parts foInt_info
  have st := fun (k : Nat) (hk : k ≤ c) (w : World) => sl_to Tryz.underlying106 hi hz1 A n c k hk w
  clear h hb
  go_enter Tryz.func154, Tryz.ntmps154
  go_wp2_with fail
  go_loopw [5] (fun i wr => ∃ k : Nat, k ≤ n ∧ i = .int .i64 k ∧ (∀ j, j < k → Ah (T.getD j 0) x) ∧ wr = w) (fun i _ => n - (intOf i).toNat)
  case atStart => exact ⟨0, by omega, rfl, fun j h => by omega, rfl⟩
  case round =>
    obtain ⟨k, hk, rfl, hah, rfl⟩ := hrel
    have HAH := Lib.hid hah
    clear hah
    by_cases hlt : k < n
    · obtain ⟨b, o, rfl, hbl, hcell⟩ := HC.out (by omega)
      have e0 : wr.cell? ⟨b, o + k, none⟩ = some (.int .i64 (T.getD k 0)) := hcell k hlt
      have hy := HB.out _ (getD_mem (T := T) (k := k) (by have := HL.out; omega))
      clear hcell
      by_cases ha : Ah (T.getD k 0) x
      · have HA := Lib.hid ha
        have AH := Lib.hid (fun w => (rFoAhead_any (T.getD k 0) x w hy.1 hy.2 X0 X1))
        rw [show decide (Ah (T.getD k 0) x) = true from decide_eq_true ha] at AH
        obtain ⟨y, hyy⟩ : ∃ y, y = T.getD k 0 := ⟨_, rfl⟩
        have HY := Lib.hid hyy
        rw [← hyy] at e0 AH
        clear ha hyy hy
        go_wp2_with (go_at_call 161; refine (AH.out _).mono ?_; rintro e w1 ⟨rfl, rfl⟩)
        go_roundw
        case rel => exact ⟨k + 1, by omega, by go_num, fun j hj => by
          rcases Nat.lt_or_ge j k with q | q
          · exact HAH.out j q
          · obtain rfl : j = k := by omega
            exact HA.out, by first | rfl | trivial⟩
        case measure => simp [intOf]; omega
      · have AH := Lib.hid (fun w => (rFoAhead_any (T.getD k 0) x w hy.1 hy.2 X0 X1))
        rw [show decide (Ah (T.getD k 0) x) = false from decide_eq_false ha] at AH
        have WW := Lib.hid (with_at (W := T) (x := x) (k := k) (by have := HL.out; omega) HAH.out (.inr ha))
        obtain ⟨y, hyy⟩ : ∃ y, y = T.getD k 0 := ⟨_, rfl⟩
        rw [← hyy] at e0 AH WW
        clear ha hyy hy
        by_cases hyx : y = x
        · subst hyx
          have W2 : Hid (withH T y = T) := WW.out.trans (if_pos ⟨by have := HL.out; omega, rfl⟩)
          go_wp2_with (go_at_call 161; refine (AH.out _).mono ?_; rintro e w1 ⟨rfl, rfl⟩)
          go_ret
          exact ⟨_, _, _, rfl, by rw [W2.out]; exact H.out, Below.refl _ _, .inl ⟨rfl, W2.out⟩⟩
        · have hne : (y == x) = false := beq_eq_false_iff_ne.2 hyx
          have W2 : Hid (withH T x = T.take k ++ x :: T.drop k) := WW.out.trans (if_neg (fun q => hyx q.2))
          have WW := W2
          have HTL : Hid (k = (T.take k).length) := by show k = _; rw [List.length_take]; have := HL.out; omega
          have HDL : Hid (n - k = (T.drop k).length) := by show n - k = _; rw [List.length_drop]; have := HL.out; omega
          have stk := st k (by omega)
          have sfk := fun w => sl_from Tryz.underlying106 hi hz1 ⟨b, o, none⟩ n c k hk w
          clear hyx
          go_wp2_with (first | (go_at_call 161; refine (AH.out _).mono ?_; rintro e w1 ⟨rfl, rfl⟩) | (at_builtin; refine push_all _ rfl _ _ rfl _ [] (T.take k) rfl (ownI_nil _ wr wr.heap.size) rfl HTL.out (fun h => by cases h) (cells_take HC.out (by omega)) (by simp; omega) (Nat.le_refl _) ?_))
          intro v1 w1 r1 g1 a1
          obtain ⟨A1, m1, c1, rfl⟩ := own_slice r1
          have HB1 := Lib.hid (below_grown (B := wr.heap.size) g1 (fun g h => by simp [Value.ownBlock] at h) (Nat.le_refl _))
          have R1 : Hid (OwnI 3 w1 wr.heap.size (.slice A1 m1 c1) (T.take k)) := r1
          clear r1 g1 a1
          go_wp2_with (at_builtin; refine push_all _ rfl _ _ rfl _ (T.take k) [x] rfl (World.ownsRow.alloc R1.out (.cells #[.int .i64 x] 3)) rfl rfl (fun h => by cases h) (fun _ => ⟨w1.heap.size, 0, rfl, by simp, fun j hj => by obtain rfl : j = 0 := (by omega); exact new_cell _ _ _ _ rfl⟩) (by rw [← HTL.out]; omega) (by have := HB1.out.size; simp; omega) ?_)
          intro v2 w2 r2 g2 a2
          obtain ⟨A2, m2, c2, rfl⟩ := own_slice r2
          have HB2 := Lib.hid ((HB1.out.alloc HB1.out.size (.cells #[.int .i64 x] 3)).trans (below_grown (B := wr.heap.size) g2 (fun g h => (World.ownsRow.lt R1.out g h).1) (by have := HB1.out.size; simp; omega)))
          have R2 : Hid (OwnI 3 w2 wr.heap.size (.slice A2 m2 c2) (T.take k ++ [x])) := r2
          clear r2 g2 a2
          go_wp2_with (at_builtin; refine push_all _ rfl _ _ rfl _ (T.take k ++ [x]) (T.drop k) rfl R2.out rfl HDL.out (fun h => by cases h) ((cells_drop HC.out (by omega) hle).below HB2.out) (by rw [List.length_append, ← HTL.out]; simp; omega) HB2.out.size ?_)
          intro v3 w3 r3 g3 a3
          obtain ⟨A3, m3, c3, rfl⟩ := own_slice r3
          have HB3 := Lib.hid (HB2.out.trans (below_grown (B := wr.heap.size) g3 (fun g h => (World.ownsRow.lt R2.out g h).1) HB2.out.size))
          have R3 : Hid (IntsC w3 A3 m3 c3 (withH T x)) := by
            show IntsC _ _ _ _ _
            rw [WW.out]
            have q := ownI_c r3
            first | exact q | (rw [List.append_assoc] at q; exact q)
          have NA3 := Lib.hid (own_newA r3)
          clear r3 g3 a3
          go_wp2_with fail
          go_ret
          exact ⟨A3, m3, c3, rfl, R3.out, HB3.out, .inr NA3.out⟩
    · obtain rfl : k = n := by omega
      cases A with
      | none =>
        have hc0 := H.out.nil rfl
        subst hc0
        obtain rfl : k = 0 := by omega
        obtain rfl : T = [] := List.eq_nil_of_length_eq_zero HL.out.symm
        have WW : Hid (withH [] x = [x]) := rfl
        have stk := st 0 (by omega)
        have sfk := fun w => sl_from_none Tryz.underlying106 hi hz1 w
        go_wp2_with (at_builtin; refine push_all _ rfl _ _ rfl _ [] [] rfl (ownI_nil _ wr wr.heap.size) rfl rfl (fun _ => rfl) (fun h0 => absurd h0 (by omega)) (by simp) (Nat.le_refl _) ?_)
        intro v1 w1 r1 g1 a1
        obtain ⟨A1, m1, c1, rfl⟩ := own_slice r1
        have HB1 := Lib.hid (below_grown (B := wr.heap.size) g1 (fun g h => by simp [Value.ownBlock] at h) (Nat.le_refl _))
        have R1 : Hid (OwnI 3 w1 wr.heap.size (.slice A1 m1 c1) ([])) := r1
        clear r1 g1 a1
        go_wp2_with (at_builtin; refine push_all _ rfl _ _ rfl _ ([]) [x] rfl (World.ownsRow.alloc R1.out (.cells #[.int .i64 x] 3)) rfl rfl (fun h => by cases h) (fun _ => ⟨w1.heap.size, 0, rfl, by simp, fun j hj => by obtain rfl : j = 0 := (by omega); exact new_cell _ _ _ _ rfl⟩) (by simp) (by have := HB1.out.size; simp; omega) ?_)
        intro v2 w2 r2 g2 a2
        obtain ⟨A2, m2, c2, rfl⟩ := own_slice r2
        have HB2 := Lib.hid ((HB1.out.alloc HB1.out.size (.cells #[.int .i64 x] 3)).trans (below_grown (B := wr.heap.size) g2 (fun g h => (World.ownsRow.lt R1.out g h).1) (by have := HB1.out.size; simp; omega)))
        have R2 : Hid (OwnI 3 w2 wr.heap.size (.slice A2 m2 c2) ([x])) := r2
        clear r2 g2 a2
        go_wp2_with (at_builtin; refine push_all _ rfl _ _ rfl _ [x] [] rfl R2.out rfl rfl (fun _ => rfl) (fun h0 => absurd h0 (by omega)) (by simp) HB2.out.size ?_)
        intro v3 w3 r3 g3 a3
        obtain ⟨A3, m3, c3, rfl⟩ := own_slice r3
        have HB3 := Lib.hid (HB2.out.trans (below_grown (B := wr.heap.size) g3 (fun g h => (World.ownsRow.lt R2.out g h).1) HB2.out.size))
        have R3 : Hid (IntsC w3 A3 m3 c3 (withH [] x)) := by
          show IntsC _ _ _ _ _
          rw [WW.out]
          have q := ownI_c r3
          first | exact q | (rw [List.append_nil] at q; exact q)
        have NA3 := Lib.hid (own_newA r3)
        clear r3 g3 a3
        go_wp2_with fail
        go_ret
        exact ⟨A3, m3, c3, rfl, R3.out, HB3.out, .inr NA3.out⟩
      | some ad =>
        have WE := Lib.hid (with_at (W := T) (x := x) (k := k) (by have := HL.out; omega) HAH.out (.inl HL.out))
        have WW : Hid (withH T x = T.take k ++ [x]) := by
          have q : withH T x = T.take k ++ x :: T.drop k := WE.out.trans (if_neg (fun q => by have := HL.out; omega))
          rw [List.drop_of_length_le (by have := HL.out; omega)] at q
          exact q
        have HTL : Hid (k = (T.take k).length) := by show k = _; rw [List.length_take]; have := HL.out; omega
        have stk := st k (by omega)
        have sfk : ∀ w, (Instr.slice 106 (.slice (some ad) k c) (some (.int .i64 (k : Int))) none none).run Tryz.prog w = .ok (.slice (some (advA ad c k 1)) 0 (c - k)) w := fun w => by
          have q := sl_from Tryz.underlying106 hi hz1 ad k c k (Nat.le_refl _) w
          rw [Nat.sub_self] at q
          exact q
        go_wp2_with (at_builtin; refine push_all _ rfl _ _ rfl _ [] (T.take k) rfl (ownI_nil _ wr wr.heap.size) rfl HTL.out (fun h => by cases h) (cells_take HC.out (by omega)) (by simp; omega) (Nat.le_refl _) ?_)
        intro v1 w1 r1 g1 a1
        obtain ⟨A1, m1, c1, rfl⟩ := own_slice r1
        have HB1 := Lib.hid (below_grown (B := wr.heap.size) g1 (fun g h => by simp [Value.ownBlock] at h) (Nat.le_refl _))
        have R1 : Hid (OwnI 3 w1 wr.heap.size (.slice A1 m1 c1) (T.take k)) := r1
        clear r1 g1 a1
        go_wp2_with (at_builtin; refine push_all _ rfl _ _ rfl _ (T.take k) [x] rfl (World.ownsRow.alloc R1.out (.cells #[.int .i64 x] 3)) rfl rfl (fun h => by cases h) (fun _ => ⟨w1.heap.size, 0, rfl, by simp, fun j hj => by obtain rfl : j = 0 := (by omega); exact new_cell _ _ _ _ rfl⟩) (by rw [← HTL.out]; omega) (by have := HB1.out.size; simp; omega) ?_)
        intro v2 w2 r2 g2 a2
        obtain ⟨A2, m2, c2, rfl⟩ := own_slice r2
        have HB2 := Lib.hid ((HB1.out.alloc HB1.out.size (.cells #[.int .i64 x] 3)).trans (below_grown (B := wr.heap.size) g2 (fun g h => (World.ownsRow.lt R1.out g h).1) (by have := HB1.out.size; simp; omega)))
        have R2 : Hid (OwnI 3 w2 wr.heap.size (.slice A2 m2 c2) (T.take k ++ [x])) := r2
        clear r2 g2 a2
        go_wp2_with (at_builtin; refine push_all _ rfl _ _ rfl _ (T.take k ++ [x]) [] rfl R2.out rfl rfl (fun h => by cases h) (fun h0 => absurd h0 (by omega)) (by rw [List.length_append, ← HTL.out]; simp; omega) HB2.out.size ?_)
        intro v3 w3 r3 g3 a3
        obtain ⟨A3, m3, c3, rfl⟩ := own_slice r3
        have HB3 := Lib.hid (HB2.out.trans (below_grown (B := wr.heap.size) g3 (fun g h => (World.ownsRow.lt R2.out g h).1) HB2.out.size))
        have R3 : Hid (IntsC w3 A3 m3 c3 (withH T x)) := by
          show IntsC _ _ _ _ _
          rw [WW.out]
          have q := ownI_c r3
          first | exact q | (rw [List.append_nil] at q; exact q)
        have NA3 := Lib.hid (own_newA r3)
        clear r3 g3 a3
        go_wp2_with fail
        go_ret
        exact ⟨A3, m3, c3, rfl, R3.out, HB3.out, .inr NA3.out⟩

end Go.Proofs.YtachfeclgdgbiaaGreat

/- The document's answers of package dewpondref11: Agenda, Parents. -/
namespace Go.Proofs.YtachfeclgdgbiaaGreat
set_option linter.unusedVariables false
set_option maxRecDepth 100000
open Go.RowKit

theorem agH_bd {ids : List Int} (h : ∀ x ∈ ids, -9223372036854775808 ≤ x ∧ x ≤ 9223372036854775807) (k : Nat) : ∀ y ∈ agH [] (ids.take k), -9223372036854775808 ≤ y ∧ y ≤ 9223372036854775807 := fun y hy => by
  rcases (agH_mem [] (ids.take k) y).1 hy with q | q
  · simp at q
  · exact h y (List.mem_of_mem_take q.2)
theorem agH_tlen (ids : List Int) (k : Nat) : (agH [] (ids.take k)).length ≤ k := by
  have a := agH_len [] (ids.take k)
  simp at a
  omega
set_option maxHeartbeats 1600000 in
theorem rParents_any (A : Option Addr) (n c : Nat) (L : List Nd) (w : World) (h : NodesAt w (.slice A n c) L) (hB : NBds L) (hn : n ≤ 1000) :
    Calls Tryz.prog 135 #[.slice A n c] w fun e w' => ∃ A2 m2 c2, e = .returned (.slice A2 m2 c2) ∧ IntsC w' A2 m2 c2 (parH L) ∧ Below w.heap.size w w' := by
  have HL := Lib.hid (nodes_cells h).1
  have HA := Lib.hid (nodes_cells h).2.2.2
  have HB := Lib.hid hB
  clear h hB
  go_enter Tryz.func135, Tryz.ntmps135
  go_wp2_with fail
  go_loopw [3, 4] (fun v i wr => ∃ (k : Nat) (A2 : Option Addr) (m2 c2 : Nat), k ≤ n ∧ i = .int .i64 k ∧ v = .slice A2 m2 c2 ∧ IntsC wr A2 m2 c2 (parH (L.take k)) ∧ Below w.heap.size w wr) (fun _ i _ => n - (intOf i).toNat)
  case atStart => exact ⟨0, none, 0, 0, by omega, rfl, rfl, intsC_nil w, Below.refl _ _⟩
  case round =>
    rename_i wr
    obtain ⟨k, A2, m2, c2, hk, rfl, rfl, hI, hbl⟩ := hrel
    have HI := Lib.hid hI
    have BB := Lib.hid hbl
    have hlen : m2 ≤ 1000 := by have a := hI.len; have b := parH_len (L.take k); rw [List.length_take] at b; omega
    clear hI
    by_cases hlt : k < n
    · have hk2 : k < L.length := by have := HL.out; omega
      obtain ⟨b, o, rfl, hin⟩ := HA.out (by omega)
      have e0 := ((hin.below hbl hin.1).2 k hk2).1
      have hx := (nbds_at HB.out hk2).1
      have hbo := hin.1
      have HT : Hid (parH (L.take (k + 1)) = if 1 < (L.getD k nz).1 then withH (parH (L.take k)) ((L.getD k nz).1 / 2) else parH (L.take k)) := by
        show _ = _
        rw [nd_take hk2]
        unfold parH
        rw [ups_one]
        by_cases q : 1 < (L.getD k nz).1
        · rw [if_pos q, if_pos q, agH_one, if_pos (by omega)]
        · rw [if_neg q, if_neg q]
      have PB := Lib.hid (parH_mem (nbds_take HB.out (k := k)))
      clear hin hbl
      generalize (L.getD k nz).1 = x at *
      by_cases h1 : 1 < x
      · have W1 := Lib.hid (HT.out.trans (if_pos h1))
        have hq : IntKind.i64.wrap (x.tdiv 2) = x / 2 := by rw [Int.tdiv_eq_ediv_of_nonneg (by omega), IntKind.wrap_i64]; omega
        have RW := Lib.hid (rWith_any A2 m2 c2 (parH (L.take k)) (x / 2) wr HI.out hlen (fun y hy => by have := PB.out y hy; omega) (by omega) (by omega))
        go_wp2_with fail
        refine RW.out.mono ?_
        rintro e w1 ⟨A3, m3, c3, rfl, h3, b3, _⟩
        have I3 : Hid (IntsC w1 A3 m3 c3 (parH (L.take (k + 1)))) := by show IntsC _ _ _ _ _; rw [W1.out]; exact h3
        have B3 := Lib.hid (BB.out.trans (b3.mono BB.out.size))
        clear h3 b3
        go_wp2_with fail
        go_roundw
        case rel => exact ⟨k + 1, A3, m3, c3, by omega, by go_num, rfl, I3.out, B3.out⟩
        case measure => simp [intOf]; omega
      · have W1 := Lib.hid (HT.out.trans (if_neg h1))
        go_wp2_with fail
        go_roundw
        case rel => exact ⟨k + 1, A2, m2, c2, by omega, by go_num, rfl, by rw [W1.out]; exact HI.out, BB.out⟩
        case measure => simp [intOf]; omega
    · obtain rfl : k = n := by omega
      have I2 : Hid (IntsC wr A2 m2 c2 (parH L)) := by
        have q := HI.out
        rw [List.take_of_length_le (by have := HL.out; omega)] at q
        exact q
      go_wp2_with fail
      go_ret
      exact ⟨A2, m2, c2, rfl, I2.out, BB.out⟩

end Go.Proofs.YtachfeclgdgbiaaGreat

/- The document's answers of package dewpondref11: Mass, Ready, First. -/
namespace Go.Proofs.YtachfeclgdgbiaaGreat
set_option linter.unusedVariables false
set_option maxRecDepth 100000
open Go.RowKit
attribute [local go_sem ↓] Go.wp_at_zero Go.wp_at_succ

theorem rget_bel {l : Int} {A : Option Addr} {n c : Nat} {L : List Nd} {w : World} (h : NodesAt w (.slice A n c) L) (hr : RollC l L) (hn : n ≤ 1000000) (id : Int) (w1 : World) (hb : Below w.heap.size w w1) :
    Calls Tryz.prog 81 #[.agg #[.int .i64 l, .slice A n c], .int .i64 id] w1 fun e w' => e = .returned (.int .i64 (sumAt id L)) ∧ Below w1.heap.size w1 w' :=
  (rsGet_any l id A n c L w1 (h.below hb) hn).mono fun e w' ⟨h1, h2⟩ => ⟨by rw [h1, find_sum (roll_good hr)], h2⟩
set_option maxHeartbeats 3200000 in
theorem rMass_any (l id : Int) (A : Option Addr) (n c : Nat) (L : List Nd) (w : World) (h : NodesAt w (.slice A n c) L) (hr : RollC l L) (hn : n ≤ 1000000) (A0 : -9223372036854775808 ≤ id) (A1 : id ≤ 9223372036854775807) :
    Calls Tryz.prog 137 #[.agg #[.int .i64 l, .slice A n c], .int .i64 id] w fun e w' => e = .returned (.tuple #[.int .i64 (pairW l L id), .int .i64 (allW l L id)]) ∧ Below w.heap.size w w' := by
  have u : 1 ≤ l ∧ l ≤ 48 := of_decide_eq_true hr.1
  have HB0 : Hid (Below w.heap.size w (w.alloc (.cells #[.int .i64 l, .slice A n c] 35))) := (Below.refl _ _).alloc (Nat.le_refl _) _
  obtain ⟨x0, x1, _, _, _⟩ := box_cells (foBx2 w 35 (.int .i64 l) (.slice A n c))
  have HZ : Hid (w.heap.size < (w.alloc (.cells #[.int .i64 l, .slice A n c] 35)).heap.size) := by show _ < _; simp
  have KD := Lib.hid (fun w => rkids_any l id w (by omega) (by omega) A0 A1)
  have m := mass_bd hr id
  have GT := Lib.hid (fun id => rget_bel h hr hn id)
  by_cases hk : KidC l id
  · obtain ⟨k1, k2, k3⟩ := kid_yes hk
    have e1 : pairW l L id = sumAt (2 * id) L + sumAt (2 * id + 1) L := if_pos k3
    have e2 : allW l L id = sumAt (2 * id) L + sumAt (2 * id + 1) L + sumAt id L := if_pos k3
    have GA := Lib.hid (GT.out (2 * id))
    have GB := Lib.hid (GT.out (2 * id + 1))
    have GC := Lib.hid (GT.out id)
    rw [k1, k2, k3] at KD
    rw [e1, e2] at m ⊢
    clear h hr hk e1 e2 k1 k2 k3 GT
    generalize sumAt (2 * id) L = sa at *
    generalize sumAt (2 * id + 1) L = sb at *
    generalize sumAt id L = sc at *
    have w1 : IntKind.i64.wrap (sa + sb) = sa + sb := wrap_lit rfl (by omega) (by omega)
    have w2 : IntKind.i64.wrap (sa + sb + sc) = sa + sb + sc := wrap_lit rfl (by omega) (by omega)
    go_enter Tryz.func137, Tryz.ntmps137
    go_wp2_with (go_at_call 88; refine (KD.out _).mono ?_; rintro e w6 ⟨rfl, rfl⟩)
    generalize w.alloc (.cells #[.int .i64 l, .slice A n c] 35) = W at *
    go_region_held3 (fun w' => w'.cell? ⟨w.heap.size, 0, none⟩ = some (.int .i64 l) ∧ w'.cell? ⟨w.heap.size, 1, none⟩ = some (.slice A n c) ∧ Below W.heap.size W w')
      (first | assumption | (exact keep_two (by assumption) (by assumption) HZ.out HZ.out) | (exact ⟨x0, x1, below_drew _⟩))
      (first
        | ((with_reducible refine (GA.out _ (HB0.out.trans ((below_of (p := ⟨w.heap.size, 0, none⟩) (q := ⟨w.heap.size, 1, none⟩) (x := .int .i64 l) (y := .slice A n c) (by assumption)).mono HB0.out.size))).mono ?_); rintro e w7 ⟨rfl, hb7⟩)
        | ((with_reducible refine (GB.out _ (HB0.out.trans ((below_of (p := ⟨w.heap.size, 0, none⟩) (q := ⟨w.heap.size, 1, none⟩) (x := .int .i64 l) (y := .slice A n c) (by assumption)).mono HB0.out.size))).mono ?_); rintro e w8 ⟨rfl, hb8⟩))
    rename_i hH
    obtain ⟨y0, y1, hbH⟩ := hH
    have HBH : Hid (Below w.heap.size w w8) := HB0.out.trans (hbH.mono HB0.out.size)
    clear x0 x1 hb7 hb8 hbH
    go_wp2_with (go_at_call 81; refine (GC.out _ HBH.out).mono ?_; rintro e w9 ⟨rfl, hb9⟩)
    go_ret2
    exact ⟨rfl, HBH.out.trans (hb9.mono HBH.out.size)⟩
  · obtain ⟨k1, k2, k3⟩ := kid_no hk
    have e1 : pairW l L id = 0 := if_neg (by rw [k3]; decide)
    have e2 : allW l L id = 0 := if_neg (by rw [k3]; decide)
    rw [k1, k2, k3] at KD
    rw [e1, e2]
    clear h hr hk e1 e2 k1 k2 k3 GT m
    go_enter Tryz.func137, Tryz.ntmps137
    go_wp2_with (go_at_call 88; refine (KD.out _).mono ?_; rintro e w6 ⟨rfl, rfl⟩)
    go_ret2
    exact ⟨rfl, HB0.out⟩
set_option maxHeartbeats 1600000 in
theorem rReady_any (l id most : Int) (A : Option Addr) (n c : Nat) (L : List Nd) (w : World) (h : NodesAt w (.slice A n c) L) (hr : RollC l L) (hn : n ≤ 1000000) (A0 : -9223372036854775808 ≤ id) (A1 : id ≤ 9223372036854775807) :
    Calls Tryz.prog 136 #[.agg #[.int .i64 l, .slice A n c], .int .i64 id, .int .i64 most] w fun e w' => e = .returned (.bool (readyB l L id most)) ∧ Below w.heap.size w w' := by
  have HB0 : Hid (Below w.heap.size w (w.alloc (.cells #[.int .i64 l, .slice A n c] 35))) := (Below.refl _ _).alloc (Nat.le_refl _) _
  obtain ⟨x0, x1, _, _, _⟩ := box_cells (foBx2 w 35 (.int .i64 l) (.slice A n c))
  have MS := Lib.hid (rMass_any l id A n c L _ (h.below HB0.out) hr hn A0 A1)
  unfold readyB
  clear h hr
  generalize pairW l L id = a at *
  generalize allW l L id = b at *
  by_cases h1 : 0 < a
  · have c1 : decide (0 < a) = true := decide_eq_true h1
    have H : Hid (decide (0 < a ∧ b ≤ most) = decide (b ≤ most)) := by show _ = _; simp [h1]
    clear h1
    go_enter Tryz.func136, Tryz.ntmps136
    go_wp2_with (go_at_call 137; refine MS.out.mono ?_; rintro e w1 ⟨rfl, hb1⟩)
    go_ret
    exact ⟨by rw [H.out]; rfl, HB0.out.trans (hb1.mono HB0.out.size)⟩
  · have c1 : decide (0 < a) = false := decide_eq_false h1
    have H : Hid (decide (0 < a ∧ b ≤ most) = false) := decide_eq_false fun q => h1 q.1
    clear h1
    go_enter Tryz.func136, Tryz.ntmps136
    go_wp2_with (go_at_call 137; refine MS.out.mono ?_; rintro e w1 ⟨rfl, hb1⟩)
    go_ret
    exact ⟨by rw [H.out]; rfl, HB0.out.trans (hb1.mono HB0.out.size)⟩
theorem fst_drop {l : Int} {L : List Nd} {most : Int} {P : List Int} {k : Nat} (hk : k < P.length) (h : readyB l L (P.getD k 0) most = false) : fstN l L most (P.drop k) = fstN l L most (P.drop (k + 1)) ∧ fstB l L most (P.drop k) = fstB l L most (P.drop (k + 1)) := by
  rw [drop_at hk]
  simp only [fstN, fstB, h]
  exact ⟨rfl, rfl⟩
theorem fst_hit {l : Int} {L : List Nd} {most : Int} {P : List Int} {k : Nat} (hk : k < P.length) (h : readyB l L (P.getD k 0) most = true) : fstN l L most (P.drop k) = P.getD k 0 ∧ fstB l L most (P.drop k) = true := by
  rw [drop_at hk]
  simp only [fstN, fstB, h]
  exact ⟨rfl, rfl⟩
set_option maxHeartbeats 3200000 in
theorem rFirst_any (l most : Int) (A : Option Addr) (n c : Nat) (L : List Nd) (w : World) (h : NodesAt w (.slice A n c) L) (hr : RollC l L) (hn : n ≤ 1000) :
    Calls Tryz.prog 112 #[.agg #[.int .i64 l, .slice A n c], .int .i64 most] w fun e w' => e = .returned (.tuple #[.int .i64 (fstN l L most (parH L)), .bool (fstB l L most (parH L))]) ∧ Below w.heap.size w w' := by
  have HB0 : Hid (Below w.heap.size w (w.alloc (.cells #[.int .i64 l, .slice A n c] 35))) := (Below.refl _ _).alloc (Nat.le_refl _) _
  obtain ⟨x0, x1, _, _, hz⟩ := box_cells (foBx2 w 35 (.int .i64 l) (.slice A n c))
  have NB := Lib.hid (nbds_roll hr)
  have PR := Lib.hid (rParents_any A n c L _ (h.below HB0.out) NB.out hn)
  have MB := Lib.hid (parH_mem NB.out)
  have RD := Lib.hid (fun id w1 (hb : Below w.heap.size w w1) A0 A1 => rReady_any l id most A n c L w1 (h.below hb) hr (by omega) A0 A1)
  have HR := Lib.hid hr
  have hpl : (parH L).length ≤ n := by have a := parH_len L; have b := (nodes_cells h).1; omega
  clear h hr
  go_enter Tryz.func112, Tryz.ntmps112
  go_wp2_with fail
  generalize w.alloc (.cells #[.int .i64 l, .slice A n c] 35) = W at *
  refine PR.out.mono ?_
  rintro e w1 ⟨A2, m2, c2, rfl, h2, b2⟩
  have HL := Lib.hid h2.len
  have hm2 : m2 ≤ 1000 := by have := h2.len; omega
  have HC := Lib.hid h2.cells
  have B1 := Lib.hid b2
  have y0 := (b2.cell (p := ⟨w.heap.size, 0, none⟩) hz).trans x0
  have y1 := (b2.cell (p := ⟨w.heap.size, 1, none⟩) hz).trans x1
  have HY := Lib.hid (And.intro y0 y1)
  have HZ : Hid (w.heap.size < w1.heap.size) := Nat.lt_of_lt_of_le hz b2.size
  clear h2 b2 x0 x1 hz y0 y1
  go_wp2_with fail
  go_loopw [7] (fun i wr => ∃ k : Nat, k ≤ m2 ∧ i = .int .i64 k ∧ fstN l L most ((parH L).drop k) = fstN l L most (parH L) ∧ fstB l L most ((parH L).drop k) = fstB l L most (parH L) ∧ Below w1.heap.size w1 wr) (fun i _ => m2 - (intOf i).toNat)
  case atStart => exact ⟨0, by omega, rfl, rfl, rfl, Below.refl _ _⟩
  case round =>
    rename_i wr
    obtain ⟨k, hk, rfl, hf1, hf2, hb⟩ := hrel
    have F1 := Lib.hid hf1
    have F2 := Lib.hid hf2
    have BB := Lib.hid hb
    have BW : Hid (Below w.heap.size w wr) := HB0.out.trans ((B1.out.trans (hb.mono B1.out.size)).mono HB0.out.size)
    clear hf1 hf2
    by_cases hlt : k < m2
    · have hk2 : k < (parH L).length := by have := HL.out; omega
      obtain ⟨b, o, rfl, hbo, hcell⟩ := HC.out (by omega)
      have e0 : wr.cell? ⟨b, o + k, none⟩ = some (.int .i64 ((parH L).getD k 0)) := (hb.cell (p := ⟨b, o + k, none⟩) hbo).trans (hcell k hlt)
      have z0 := (hb.cell (p := ⟨w.heap.size, 0, none⟩) HZ.out).trans HY.out.1
      have z1 := (hb.cell (p := ⟨w.heap.size, 1, none⟩) HZ.out).trans HY.out.2
      have hx := MB.out _ (getD_mem hk2)
      have DR := Lib.hid (fst_drop (l := l) (L := L) (most := most) hk2)
      have HT := Lib.hid (fst_hit (l := l) (L := L) (most := most) hk2)
      clear hcell hb
      generalize (parH L).getD k 0 = x at *
      have k0 : (0 : Int) ≤ (k : Int) := Int.natCast_nonneg _
      have k1 : (k : Int) < (m2 : Int) := by omega
      cases hq : readyB l L x most
      · have D2 := Lib.hid (DR.out hq)
        have RX := Lib.hid (fun w1 hb => RD.out x w1 hb (by omega) hx.2)
        rw [hq] at RX
        clear hq DR HT hx
        go_wp2_with fail
        go_still_tail 6, (by kernel_rfl)
        change wpList _ _ _ _ _ (World.drew wr)
        have BD : Hid (Below w.heap.size w (World.drew wr)) := drewN_below BW.out 1
        have BD1 : Hid (Below w1.heap.size w1 (World.drew wr)) := drewN_below BB.out 1
        clear z0 z1 e0
        generalize World.drew wr = wd at *
        go_wp2_with (go_at_call 136; refine (RX.out _ BD.out).mono ?_; rintro e w4 ⟨rfl, hb4⟩)
        have B4 := Lib.hid (BD1.out.trans (hb4.mono BD1.out.size))
        clear hb4
        go_roundw
        case rel => exact ⟨k + 1, by omega, by go_num, D2.out.1.symm.trans F1.out, D2.out.2.symm.trans F2.out, B4.out⟩
        case measure => simp [intOf]; omega
      · have D2 := Lib.hid (HT.out hq)
        have RX := Lib.hid (fun w1 hb => RD.out x w1 hb (by omega) hx.2)
        rw [hq] at RX
        clear hq DR HT hx
        go_wp2_with fail
        go_still_tail 6, (by kernel_rfl)
        change wpList _ _ _ _ _ (World.drew wr)
        have BD : Hid (Below w.heap.size w (World.drew wr)) := drewN_below BW.out 1
        have E0 : Hid (b < (World.drew wr).heap.size ∧ (World.drew wr).cell? ⟨b, o + k, none⟩ = some (.int .i64 x)) := ⟨Nat.lt_of_lt_of_le hbo BB.out.size, e0⟩
        clear z0 z1 e0
        generalize World.drew wr = wd at *
        go_wp2_with (go_at_call 136; refine (RX.out _ BD.out).mono ?_; rintro e w4 ⟨rfl, hb4⟩; have e4 := (hb4.cell (p := ⟨b, o + k, none⟩) E0.out.1).trans E0.out.2)
        go_ret2
        exact ⟨by rw [← F1.out, ← F2.out, D2.out.1, D2.out.2]; rfl, BD.out.trans (hb4.mono BD.out.size)⟩
    · obtain rfl : k = m2 := by omega
      have e : (parH L).drop k = [] := List.drop_of_length_le (by have := HL.out; omega)
      rw [e] at F1 F2
      go_wp2_with fail
      go_ret2
      exact ⟨by rw [← F1.out, ← F2.out]; rfl, BW.out⟩

end Go.Proofs.YtachfeclgdgbiaaGreat

/- The document's answer of package dewpondref11: Do. -/
namespace Go.Proofs.YtachfeclgdgbiaaGreat
set_option linter.unusedVariables false
set_option maxRecDepth 100000
open Go.RowKit

/-- the two boxes of a call of Do: the store that is turned, and the one that is handed out -/
structure DoI (w W : World) (l : Int) (v y0 y1 : Value) : Prop where
  s : W.ownsRow w.heap.size 35 2 (.slice (some ⟨w.heap.size, 0, none⟩) 1 1) 1 [.int .i64 l, v]
  r : W.ownsRow w.heap.size 35 2 (.slice (some ⟨w.heap.size + 1, 0, none⟩) 1 1) 1 [y0, y1]
  b : Below w.heap.size w W
theorem doI_new (w : World) (l : Int) (v : Value) : DoI w ((w.alloc (.cells #[.int .i64 l, v] 35)).alloc (.cells #[.int .i64 0, .slice none 0 0] 35)) l v (.int .i64 0) (.slice none 0 0) := by
  have e1 : (w.alloc (.cells #[.int .i64 l, v] 35)).heap.size = w.heap.size + 1 := by simp
  have q := foBx2 (w.alloc (.cells #[.int .i64 l, v] 35)) 35 (.int .i64 0) (.slice none 0 0)
  rw [e1] at q
  exact ⟨(foBx2 w _ _ _).alloc _, own_low q (by omega), ((Below.refl _ _).alloc (Nat.le_refl _) _).alloc (by simp) _⟩
theorem DoI.below {w W W' : World} {l : Int} {v y0 y1 : Value} (h : DoI w W l v y0 y1) (hb : Below W.heap.size W W') : DoI w W' l v y0 y1 := ⟨own_below h.s hb, own_below h.r hb, h.b.trans (hb.mono h.b.size)⟩
theorem DoI.set {w W : World} {l : Int} {v y0 y1 : Value} (h : DoI w W l v y0 y1) (u : Value) : DoI w ((W.setCell ⟨w.heap.size, 0, none⟩ (.int .i64 l)).setCell ⟨w.heap.size, 1, none⟩ u) l u y0 y1 := by
  have q := box_set h.s (.int .i64 l) u
  exact ⟨q.1, q.2.2.2 _ _ _ _ _ _ (by simp [Value.ownBlock]) h.r, h.b.trans q.2.2.1⟩
theorem DoI.nodes {w W : World} {l : Int} {v y0 y1 u : Value} {L : List Nd} (h : DoI w W l v y0 y1) (u' : Value) (o : OwnNd 75 W 0 u L) : OwnNd 75 ((W.setCell ⟨w.heap.size, 0, none⟩ (.int .i64 l)).setCell ⟨w.heap.size, 1, none⟩ u') 0 u L := (box_set h.s (.int .i64 l) u').2.1 _ _ _ _ _ _ (by decide) o
/-- a store handed out, and a number: its list is the one that came in, or a row of its own in a new block -/
def DoPostR (l : Int) (M : List Nd) (x : Int) (A0 : Option Addr) (n0 c0 : Nat) (L : List Nd) (w : World) (e : Ending) (w' : World) : Prop :=
  ∃ A m c, e = .returned (.tuple #[.agg #[.int .i64 l, .slice A m c], .int .i64 x]) ∧ ((Value.slice A m c = .slice A0 n0 c0 ∧ M = L) ∨ (OwnNd 75 w' 0 (.slice A m c) M ∧ ∀ b, (Value.slice A m c).ownBlock = some b → w.heap.size ≤ b)) ∧ Below w.heap.size w w'
set_option maxHeartbeats 6400000 in
theorem rDo_any (l id : Int) (A : Option Addr) (n c : Nat) (L : List Nd) (w : World) (h : NodesAt w (.slice A n c) L) (hr : RollC l L) (hn : n ≤ 100000) (A0 : -9223372036854775808 ≤ id) (A1 : id ≤ 9223372036854775807) :
    Calls Tryz.prog 113 #[.agg #[.int .i64 l, .slice A n c], .int .i64 id] w (DoPostR l (foldW l L id) (pairW l L id) A n c L w) := by
  have I0 := Lib.hid (doI_new w l (.slice A n c))
  have HL := Lib.hid (nodes_cells h).1
  have HN := Lib.hid (h.below I0.out.b)
  have HR := Lib.hid hr
  have m := mass_bd hr id
  have MS := Lib.hid (rMass_any l id A n c L _ HN.out hr (by omega) A0 A1)
  obtain ⟨x0, x1, g0, g1, _⟩ := box_cells I0.out.s
  clear h hr
  by_cases hp : pairW l L id = 0
  · have hf := pair_zero HR.out hp
    rw [hf]
    rw [hp] at MS ⊢
    clear hp hf m
    go_enter Tryz.func113, Tryz.ntmps113
    go_wp2_with fail
    generalize (w.alloc (.cells #[.int .i64 l, .slice A n c] 35)).alloc (.cells #[.int .i64 0, .slice none 0 0] 35) = W0 at *
    refine MS.out.mono ?_
    rintro e w1 ⟨rfl, hb1⟩
    have I1 := I0.out.below hb1
    obtain ⟨s0, s1, f0, f1, _⟩ := box_cells I1.s
    obtain ⟨y0, y1, h0, h1, hz⟩ := box_cells I1.r
    obtain ⟨q0, q1⟩ := set_two y0 y1
    have BB := Lib.hid I1.b
    clear hb1 I1 x0 x1 g0 g1
    go_wp2_with fail
    exact bodyPost_ret (v := .tuple #[.agg #[.int .i64 l, .slice A n c], .int .i64 0]) (by simp [results, Tryz.results113, go_sem, q0, q1]) rfl ⟨A, n, c, rfl, .inl ⟨rfl, rfl⟩, (BB.out.setCell (p := ⟨w.heap.size + 1, 0, none⟩) (Nat.le_succ _) _).setCell (p := ⟨w.heap.size + 1, 1, none⟩) (Nat.le_succ _) _⟩
  · have hk : KidC l id := by
      by_cases q : KidC l id
      · exact q
      · exact absurd (if_neg (by rw [(kid_no q).2.2]; decide)) hp
    have kb := kid_bd hk A1
    have hne : (pairW l L id == 0) = false := beq_eq_false_iff_ne.2 hp
    have FW : Hid (foldW l L id = addS l (remW (remW L (2 * id)) (2 * id + 1)) id (pairW l L id)) := if_pos (kid_yes hk).2.2
    have u : 1 ≤ l ∧ l ≤ 48 := of_decide_eq_true HR.out.1
    have w2 : IntKind.i64.wrap (2 * id) = 2 * id := wrap_lit rfl (by omega) (by omega)
    have w3 : IntKind.i64.wrap (2 * id + 1) = 2 * id + 1 := wrap_lit rfl (by omega) (by omega)
    have r1 := rem_le L (2 * id)
    have r2 := rem_le (remW L (2 * id)) (2 * id + 1)
    have hlL : L.length ≤ 100000 := by have := HL.out; omega
    clear hp hk
    generalize pairW l L id = pw at *
    go_enter Tryz.func113, Tryz.ntmps113
    go_wp2_with fail
    generalize (w.alloc (.cells #[.int .i64 l, .slice A n c] 35)).alloc (.cells #[.int .i64 0, .slice none 0 0] 35) = W0 at *
    refine MS.out.mono ?_
    rintro e w1 ⟨rfl, hb1⟩
    have I1 := Lib.hid (I0.out.below hb1)
    have N1 := Lib.hid (HN.out.below hb1)
    obtain ⟨s0, s1, _, _, _⟩ := box_cells I1.out.s
    clear hb1 x0 x1 g0 g1
    go_wp2_with fail
    refine (rsTake_any (v0 := .bool true) l (2 * id) A n c L w1 N1.out (by omega)).mono ?_
    rintro e w4 ⟨A2, m2, c2, rfl, ho2, hb2, _⟩
    have I2 := Lib.hid (I1.out.below hb2)
    have O2 := Lib.hid ho2
    obtain ⟨t0, t1, f0, f1, _⟩ := box_cells I2.out.s
    clear hb2 ho2 s0 s1
    go_wp2_with fail
    have I3 := Lib.hid (I2.out.set (.slice A2 m2 c2))
    have O3 := Lib.hid (I2.out.nodes (.slice A2 m2 c2) O2.out)
    generalize (w4.setCell ⟨w.heap.size, 0, none⟩ (.int .i64 l)).setCell ⟨w.heap.size, 1, none⟩ (.slice A2 m2 c2) = W3 at *
    have hm2 : m2 ≤ 100000 := by have q := (nodes_cells (ownNd_nodes O2.out)).1; omega
    clear t0 t1 f0 f1
    refine (rsTake_any (v0 := .bool true) l (2 * id + 1) A2 m2 c2 (remW L (2 * id)) W3 (ownNd_nodes O3.out) (by omega)).mono ?_
    rintro e w5 ⟨A5, m5, c5, rfl, ho5, hb5, hn5⟩
    have N5 : Hid (∀ b, (Value.slice A5 m5 c5).ownBlock = some b → w.heap.size ≤ b) := fun b e => by
      rcases hn5 with q | q
      · cases q
      · exact Nat.le_trans I3.out.b.size (q b e)
    have I5 := Lib.hid (I3.out.below hb5)
    have O5 := Lib.hid ho5
    obtain ⟨t0, t1, f0, f1, _⟩ := box_cells I5.out.s
    have hm5 : m5 ≤ 100000 := by have q := (nodes_cells (ownNd_nodes ho5)).1; omega
    clear hb5 ho5 hn5
    go_wp2_with fail
    have I6 := Lib.hid (I5.out.set (.slice A5 m5 c5))
    have O6 := Lib.hid (I5.out.nodes (.slice A5 m5 c5) O5.out)
    generalize (w5.setCell ⟨w.heap.size, 0, none⟩ (.int .i64 l)).setCell ⟨w.heap.size, 1, none⟩ (.slice A5 m5 c5) = W6 at *
    clear t0 t1 f0 f1
    refine (rsAdd_any l id pw A5 m5 c5 (remW (remW L (2 * id)) (2 * id + 1)) W6 O6.out (roll_rem (roll_rem HR.out)) (by omega) A0 A1 (by omega) (by omega)).mono ?_
    rw [← FW.out]
    rintro e w7 ⟨A7, m7, c7, rfl, ho7, hb7, hn7⟩
    have N7 : Hid (∀ b, (Value.slice A7 m7 c7).ownBlock = some b → w.heap.size ≤ b) := fun b e => by
      rcases hn7 with q | q
      · exact N5.out b (by rw [← q]; exact e)
      · exact Nat.le_trans I6.out.b.size (q b e)
    have I7 := Lib.hid (I6.out.below hb7)
    have O7 := Lib.hid ho7
    obtain ⟨t0, t1, f0, f1, hz⟩ := box_cells I7.out.s
    have I8 := Lib.hid (I7.out.set (.slice A7 m7 c7))
    have O8 := Lib.hid (I7.out.nodes (.slice A7 m7 c7) O7.out)
    obtain ⟨a0, a1, _, _, _⟩ := box_cells I8.out.s
    obtain ⟨y0, y1, h0, h1, _⟩ := box_cells I8.out.r
    obtain ⟨q0, q1⟩ := set_two y0 y1
    have OW := Lib.hid (own_two O8.out I8.out.r (by decide))
    have BB := Lib.hid I8.out.b
    clear hb7 ho7 hn7
    go_wp2_with fail
    exact bodyPost_ret (v := .tuple #[.agg #[.int .i64 l, .slice A7 m7 c7], .int .i64 pw]) (by simp [results, Tryz.results113, go_sem, q0, q1]) rfl ⟨A7, m7, c7, rfl, .inr ⟨OW.out _ _, N7.out⟩, (BB.out.setCell (p := ⟨w.heap.size + 1, 0, none⟩) (Nat.le_succ _) _).setCell (p := ⟨w.heap.size + 1, 1, none⟩) (Nat.le_succ _) _⟩

end Go.Proofs.YtachfeclgdgbiaaGreat
