/- Texts laid together: FoRef, FoRef2, FoRef3, FoRef4. -/
import Derived.Test.YtabbpcpnabecmaaFoP
import Derived.Test.YtabbpcpnabecmaaTwRef
import Derived.Laws.OwnMore
import Derived.Test.YtabbpcpnabecmaaDsRefN
import Derived.Test.YtabbpcpnabecmaaPoLaw
import Derived.Test.YtabbpcpnabecmaaDsLaw2
import Derived.Deep.RegionHeld3
import Derived.Deep.DrawnRows
import Derived.StillTailTactics
import Derived.Test.YtabbpcpnabecmaaDsRef2
/- The document's answers of package dewpondref11: Ahead, With. -/
namespace Go.Proofs.Ytabbpcpnabecmaa
set_option linter.unusedVariables false
set_option maxRecDepth 100000
open Go.RowKit

/-- all numbers of a slice that is read, appended to a row of the call's own -/
theorem push_all (w : World) {ops : Array Oper} {rest : List Oper} {o : Oper} {a : Act} {Z : Exit → Act → World → Prop} (hg : o.guard = none) (s x : Operand)
    (hop : o.op = Op.call { callee := Callee.builtin Builtin.append, args := #[s, x], argTypes := #[71, 71] }) {B : Nat} (v : Value) (T U : List Int) {A : Option Addr} {m c : Nat}
    (hs : a.eval s = v) (row : OwnI 3 w B v T) (hx : a.eval x = .slice A m c) (hm : m = U.length) (hA : A = none → c = 0) (hc : Cells w A m (fun k => .int .i64 (U.getD k 0))) (hn : T.length + m ≤ 100000) (hB : B ≤ w.heap.size)
    (h : ∀ v' w', OwnI 3 w' B v' (T ++ U) → w.grownBy w' v.ownBlock → At2 w v v' → wpList Try.prog ops Z rest (a.put o.dst v') w') : wpList Try.prog ops Z (o :: rest) a w := by
  obtain ⟨i0, hi, hz0, hz1, hz2⟩ := info_parts foInt_info
  cases A with
  | none =>
    have hU : U = [] := by
      rcases Nat.eq_zero_or_pos m with q | q
      · exact List.eq_nil_of_length_eq_zero (by omega)
      · obtain ⟨b, o, e, _⟩ := hc q; cases e
    subst hU
    have hc0 := hA rfl
    subst hc0
    simp at hm
    subst hm
    refine wpList_append_own_none hg s x 71 hop B 3 i0 1 Try.underlying71 hi v T.length (ints T) hs row hx ?_
    exact h v w (by rw [List.append_nil]; exact row) ⟨rfl, rfl, rfl, Nat.le_refl _, fun _ _ _ => rfl⟩ (At2.refl _ _)
  | some ad =>
    refine wpList_append_own_at w hg s x 71 hop B 3 i0 (.int .i64 0) 1 8 Try.underlying71 hi hz0 hz1 hz2 rfl (by decide) v T.length (ints T) hs row ad m c (ints U) hx (by rw [ints_len]; omega) (fun j u hj => ?_) (fun u hu => ?_) (by unfold maxLen; omega) (by omega) hB ?_
    · have hjl : j < U.length := by have := (List.getElem?_eq_some_iff.1 hj).1; rwa [ints_len] at this
      obtain ⟨b, o, e, hbl, hcell⟩ := hc (by omega)
      injection e with e
      subst e
      have q := hcell j (by omega)
      have eu : u = .int .i64 (U.getD j 0) := by
        have := List.getElem?_eq_getElem hjl
        simp [ints, this] at hj
        rw [← hj]; simp [List.getD_eq_getElem?_getD, this]
      rw [eu]
      refine Eq.trans (congrArg w.cell? ?_) q
      unfold Addr.add
      split
      · rename_i hz; rw [hz]; rfl
      · rfl
    · unfold ints at hu
      obtain ⟨x, _, rfl⟩ := List.mem_map.1 hu
      rfl
    · intro v' w' r1 r2 _ r4
      refine h v' w' ⟨by simp [ints], ?_⟩ r2 (at_two (r4.imp id fun q => ⟨_, q, Nat.le_refl _⟩))
      have q := r1.2
      rw [← ints_app] at q
      rw [List.length_append, ← hm]
      exact q
end Go.Proofs.Ytabbpcpnabecmaa

/- The document's answers of package dewpondref11: Agenda, Parents. -/
namespace Go.Proofs.Ytabbpcpnabecmaa
set_option linter.unusedVariables false
set_option maxRecDepth 100000
open Go.RowKit

theorem agH_bd {ids : List Int} (h : ∀ x ∈ ids, -9223372036854775808 ≤ x ∧ x ≤ 9223372036854775807) (k : Nat) : ∀ y ∈ agH [] (ids.take k), -9223372036854775808 ≤ y ∧ y ≤ 9223372036854775807 := fun y hy => by
  rcases (agH_mem [] (ids.take k) y).1 hy with q | q
  · simp at q
  · exact h y (List.mem_of_mem_take q.2)
theorem agH_tlen (ids : List Int) (k : Nat) : (agH [] (ids.take k)).length ≤ k := by
  have a := agH_len [] (ids.take k)
  simp at a
  omega
end Go.Proofs.Ytabbpcpnabecmaa

/- The document's answers of package dewpondref11: Mass, Ready, First. -/
namespace Go.Proofs.Ytabbpcpnabecmaa
set_option linter.unusedVariables false
set_option maxRecDepth 100000
open Go.RowKit
attribute [local go_sem ↓] Go.wp_at_zero Go.wp_at_succ

end Go.Proofs.Ytabbpcpnabecmaa

/- The document's answer of package dewpondref11: Do. -/
namespace Go.Proofs.Ytabbpcpnabecmaa
set_option linter.unusedVariables false
set_option maxRecDepth 100000
open Go.RowKit

end Go.Proofs.Ytabbpcpnabecmaa
