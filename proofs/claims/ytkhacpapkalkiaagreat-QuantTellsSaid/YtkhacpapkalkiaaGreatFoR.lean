/- Texts laid together: FoRef, FoRef2, FoRef3, FoRef4. -/
import Derived.Test.YtkhacpapkalkiaaGreatFoP
import Derived.Test.YtkhacpapkalkiaaGreatRrQ
import Derived.Laws.OwnMore
import Derived.Test.YtkhacpapkalkiaaGreatDrQ
import Derived.Test.YtkhacpapkalkiaaGreatPoQ
import Derived.Deep.RegionHeld3
import Derived.Deep.DrawnRows
import Derived.StillTailTactics
/- The document's answers of package dewpondref11: Ahead, With. -/
namespace Go.Proofs.YtkhacpapkalkiaaGreat
set_option linter.unusedVariables false
set_option maxRecDepth 100000
open Go.RowKit

/-- all numbers of a slice that is read, appended to a row of the call's own -/
theorem push_all (w : World) {ops : Array Oper} {rest : List Oper} {o : Oper} {a : Act} {Z : Exit → Act → World → Prop} (hg : o.guard = none) (s x : Operand)
    (hop : o.op = Op.call { callee := Callee.builtin Builtin.append, args := #[s, x], argTypes := #[49, 49] }) {B : Nat} (v : Value) (T U : List Int) {A : Option Addr} {m c : Nat}
    (hs : a.eval s = v) (row : OwnI 3 w B v T) (hx : a.eval x = .slice A m c) (hm : m = U.length) (hA : A = none → c = 0) (hc : Cells w A m (fun k => .int .i64 (U.getD k 0))) (hn : T.length + m ≤ 100000) (hB : B ≤ w.heap.size)
    (h : ∀ v' w', OwnI 3 w' B v' (T ++ U) → w.grownBy w' v.ownBlock → At2 w v v' → wpList Tryz.prog ops Z rest (a.put o.dst v') w') : wpList Tryz.prog ops Z (o :: rest) a w := by
  obtain ⟨i0, hi, hz0, hz1, hz2⟩ := info_parts foInt_info
  cases A with
  | none =>
    have hU : U = [] := by
      rcases Nat.eq_zero_or_pos m with q | q
      · exact List.eq_nil_of_length_eq_zero (by omega)
      · obtain ⟨b, o, e, _⟩ := hc q; cases e
    subst hU
    have hc0 := hA rfl
    subst hc0
    simp at hm
    subst hm
    refine wpList_append_own_none hg s x 49 hop B 3 i0 1 Tryz.underlying49 hi v T.length (ints T) hs row hx ?_
    exact h v w (by rw [List.append_nil]; exact row) ⟨rfl, rfl, rfl, Nat.le_refl _, fun _ _ _ => rfl⟩ (At2.refl _ _)
  | some ad =>
    refine wpList_append_own_at w hg s x 49 hop B 3 i0 (.int .i64 0) 1 8 Tryz.underlying49 hi hz0 hz1 hz2 rfl (by decide) v T.length (ints T) hs row ad m c (ints U) hx (by rw [ints_len]; omega) (fun j u hj => ?_) (fun u hu => ?_) (by unfold maxLen; omega) (by omega) hB ?_
    · have hjl : j < U.length := by have := (List.getElem?_eq_some_iff.1 hj).1; rwa [ints_len] at this
      obtain ⟨b, o, e, hbl, hcell⟩ := hc (by omega)
      injection e with e
      subst e
      have q := hcell j (by omega)
      have eu : u = .int .i64 (U.getD j 0) := by
        have := List.getElem?_eq_getElem hjl
        simp [ints, this] at hj
        rw [← hj]; simp [List.getD_eq_getElem?_getD, this]
      rw [eu]
      refine Eq.trans (congrArg w.cell? ?_) q
      unfold Addr.add
      split
      · rename_i hz; rw [hz]; rfl
      · rfl
    · unfold ints at hu
      obtain ⟨x, _, rfl⟩ := List.mem_map.1 hu
      rfl
    · intro v' w' r1 r2 _ r4
      refine h v' w' ⟨by simp [ints], ?_⟩ r2 (at_two (r4.imp id fun q => ⟨_, q, Nat.le_refl _⟩))
      have q := r1.2
      rw [← ints_app] at q
      rw [List.length_append, ← hm]
      exact q
/-- a slice of numbers that is read, and can be cut -/
structure IntsC (w : World) (A : Option Addr) (n c : Nat) (T : List Int) : Prop where
  at' : IntsAt w (.slice A n c) T
  le : n ≤ c
  nil : A = none → c = 0
theorem IntsC.below {w w' : World} {A : Option Addr} {n c : Nat} {T : List Int} (h : IntsC w A n c T) (hb : Below w.heap.size w w') : IntsC w' A n c T := ⟨h.at'.below hb, h.le, h.nil⟩
theorem IntsC.len {w : World} {A : Option Addr} {n c : Nat} {T : List Int} (h : IntsC w A n c T) : n = T.length := (ints_cells h.at').1
theorem IntsC.cells {w : World} {A : Option Addr} {n c : Nat} {T : List Int} (h : IntsC w A n c T) : Cells w A n (fun k => .int .i64 (T.getD k 0)) := by have := (ints_cells h.at').2; rwa [← h.len] at this
theorem intsC_nil (w : World) : IntsC w none 0 0 [] := ⟨ints_nil w, Nat.le_refl _, fun _ => rfl⟩
theorem ownI_c {e : TypeId} {w : World} {B : Nat} {A : Option Addr} {n c : Nat} {T : List Int} (h : OwnI e w B (.slice A n c) T) : IntsC w A n c T := by
  refine ⟨ownI_ints h, ?_, ?_⟩
  · rcases ownI_form h with ⟨e, _⟩ | ⟨g, cap, e, _, _, hn, _⟩
    · injection e with e1 e2 e3; omega
    · injection e with e1 e2 e3; omega
  · intro q
    rcases ownI_form h with ⟨e, _⟩ | ⟨g, cap, e, _, _, hn, _⟩
    · injection e
    · injection e with e1; rw [q] at e1; cases e1
theorem cells_take {w : World} {A : Option Addr} {n k : Nat} {T : List Int} (h : Cells w A n (fun k => .int .i64 (T.getD k 0))) (hk : k ≤ n) : Cells w A k (fun j => .int .i64 ((T.take k).getD j 0)) := fun h0 => by
  obtain ⟨b, o, e, hl, hc⟩ := h (by omega)
  refine ⟨b, o, e, hl, fun j hj => ?_⟩
  rw [hc j (by omega)]
  simp [List.getD_eq_getElem?_getD, hj]
theorem cells_drop {w : World} {a : Addr} {n k c : Nat} {T : List Int} (h : Cells w (some a) n (fun k => .int .i64 (T.getD k 0))) (hk : k ≤ n) (hc : n ≤ c) : Cells w (some (advA a c k 1)) (n - k) (fun j => .int .i64 ((T.drop k).getD j 0)) := fun h0 => by
  obtain ⟨b, o, e, hl, hcell⟩ := h (by omega)
  injection e with e
  subst e
  refine ⟨b, o + k, ?_, hl, fun j hj => ?_⟩
  · have hne : ¬ c = k := by omega
    unfold advA
    rw [if_neg hne]
    unfold Addr.add
    split
    · rename_i hz; rw [Nat.mul_one] at hz; rw [hz]; rfl
    · rw [Nat.mul_one]
  · have q := hcell (k + j) (by omega)
    rw [show o + k + j = o + (k + j) by omega, q]
    simp [List.getD_eq_getElem?_getD]
/-- a slice that lies in new blocks, if anywhere -/
def NewA (A : Option Addr) (k : Nat) : Prop := ∀ ad, A = some ad → k ≤ ad.block
theorem own_newA {e : TypeId} {w : World} {B : Nat} {A : Option Addr} {n c : Nat} {T : List Int} (h : OwnI e w B (.slice A n c) T) : NewA A B := fun ad q => by
  subst q
  exact (World.ownsRow.lt h ad.block rfl).1
theorem NewA.mono {A : Option Addr} {k j : Nat} (h : NewA A k) (hj : j ≤ k) : NewA A j := fun ad q => Nat.le_trans hj (h ad q)
end Go.Proofs.YtkhacpapkalkiaaGreat

/- The document's answers of package dewpondref11: Agenda, Parents. -/
namespace Go.Proofs.YtkhacpapkalkiaaGreat
set_option linter.unusedVariables false
set_option maxRecDepth 100000
open Go.RowKit

theorem agH_bd {ids : List Int} (h : ∀ x ∈ ids, -9223372036854775808 ≤ x ∧ x ≤ 9223372036854775807) (k : Nat) : ∀ y ∈ agH [] (ids.take k), -9223372036854775808 ≤ y ∧ y ≤ 9223372036854775807 := fun y hy => by
  rcases (agH_mem [] (ids.take k) y).1 hy with q | q
  · simp at q
  · exact h y (List.mem_of_mem_take q.2)
theorem agH_tlen (ids : List Int) (k : Nat) : (agH [] (ids.take k)).length ≤ k := by
  have a := agH_len [] (ids.take k)
  simp at a
  omega
end Go.Proofs.YtkhacpapkalkiaaGreat

/- The document's answers of package dewpondref11: Mass, Ready, First. -/
namespace Go.Proofs.YtkhacpapkalkiaaGreat
set_option linter.unusedVariables false
set_option maxRecDepth 100000
open Go.RowKit
attribute [local go_sem ↓] Go.wp_at_zero Go.wp_at_succ

end Go.Proofs.YtkhacpapkalkiaaGreat

/- The document's answer of package dewpondref11: Do. -/
namespace Go.Proofs.YtkhacpapkalkiaaGreat
set_option linter.unusedVariables false
set_option maxRecDepth 100000
open Go.RowKit

end Go.Proofs.YtkhacpapkalkiaaGreat
