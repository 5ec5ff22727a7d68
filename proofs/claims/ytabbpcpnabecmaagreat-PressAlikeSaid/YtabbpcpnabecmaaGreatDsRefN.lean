/- The document's answers of package dewpondref07, of a list that lies wherever it lies (an argument's): Add, Do. -/
import Derived.Test.YtabbpcpnabecmaaGreatDsRef2
namespace Go.Proofs.YtabbpcpnabecmaaGreat
set_option linter.unusedVariables false
set_option maxRecDepth 100000
open Go.RowKit

/-- a store handed out, and a number: its list is the one that came in, or a row of its own -/
def StPostS (l : Int) (M : List Nd) (n : Int) (v0 : Value) (L : List Nd) (w : World) (e : Ending) (w' : World) : Prop :=
  ∃ A m c, e = .returned (.tuple #[.agg #[.int .i64 l, .slice A m c], .int .i64 n]) ∧ ((Value.slice A m c = v0 ∧ M = L) ∨ OwnNd 49 w' 0 (.slice A m c) M) ∧ Below w.heap.size w w'
set_option maxHeartbeats 1600000 in
theorem rsAddN_arg (l id cc : Int) (A : Option Addr) (n c : Nat) (L : List Nd) (w : World) (h : NodesAt w (.slice A n c) L) (hq : rightB l id = false ∨ cc < 0) (L0 : -9223372036854775808 ≤ l) (L1 : l ≤ 9223372036854775807) (A0 : -9223372036854775808 ≤ id) (A1 : id ≤ 9223372036854775807) (B0 : -9223372036854775808 ≤ cc) (B1 : cc ≤ 9223372036854775807) :
    Calls Tryz.prog 68 #[.agg #[.int .i64 l, .slice A n c], .int .i64 id, .int .i64 cc] w (StPostS l L 2 (.slice A n c) L w) := by
  have HN := Lib.hid h
  have HB0 := Lib.hid (below_two w (.cells #[.int .i64 l, .slice A n c] 27) (.cells #[.int .i64 0, .slice none 0 0] 27))
  clear h
  cases hr : rightB l id
  · clear hq
    go_enter Tryz.func68, Tryz.ntmps68
    go_wp2_with (go_at_call 79; refine (rright_any _ _ _ L0 L1 A0 A1).mono ?_; rintro e w1 ⟨rfl, rfl⟩)
    exact bodyPost_ret (v := .tuple #[.agg #[.int .i64 l, .slice A n c], .int .i64 2]) (by simp [results, Tryz.results68, go_sem]) rfl ⟨_, _, _, rfl, .inl ⟨rfl, rfl⟩, below_two ..⟩
  · have hc : cc < 0 := by rcases hq with g | g; rw [hr] at g; simp at g; exact g
    clear hq
    go_enter Tryz.func68, Tryz.ntmps68
    go_wp2_with (go_at_call 79; refine (rright_any _ _ _ L0 L1 A0 A1).mono ?_; rintro e w1 ⟨rfl, rfl⟩)
    exact bodyPost_ret (v := .tuple #[.agg #[.int .i64 l, .slice A n c], .int .i64 2]) (by simp [results, Tryz.results68, go_sem]) rfl ⟨_, _, _, rfl, .inl ⟨rfl, rfl⟩, below_two ..⟩
set_option maxHeartbeats 1600000 in
theorem rsAddN_full (l id cc : Int) (A : Option Addr) (n c : Nat) (L : List Nd) (w : World) (h : NodesAt w (.slice A n c) L) (hr : RollC l L) (hn : n ≤ 1000000) (hq : rightB l id = true) (hc : ¬ cc < 0) (hf : 72057594037927935 < sumC L + cc) (L0 : -9223372036854775808 ≤ l) (L1 : l ≤ 9223372036854775807) (A0 : -9223372036854775808 ≤ id) (A1 : id ≤ 9223372036854775807) (B0 : -9223372036854775808 ≤ cc) (B1 : cc ≤ 9223372036854775807) :
    Calls Tryz.prog 68 #[.agg #[.int .i64 l, .slice A n c], .int .i64 id, .int .i64 cc] w (StPostS l L 5 (.slice A n c) L w) := by
  have HN := Lib.hid h
  have HR := Lib.hid hr
  have s0 := sumC_nonneg hr.2.2.2.1
  have s1 := hr.2.2.2.2
  have HB0 := Lib.hid (below_two w (.cells #[.int .i64 l, .slice A n c] 27) (.cells #[.int .i64 0, .slice none 0 0] 27))
  have K0 := Lib.hid (k4_new w 27 27 (.int .i64 l) (.slice A n c) (.int .i64 0) (.slice none 0 0))
  clear h hr
  go_enter Tryz.func68, Tryz.ntmps68
  go_wp2_with (first | (go_at_call 79; refine (rright_any _ _ _ L0 L1 A0 A1).mono ?_; rintro e w1 ⟨rfl, rfl⟩) | (go_at_call 65; refine (rsTotal_any _ _ _ _ L _ (HN.out.below HB0.out) HR.out hn).mono ?_; rintro e w1 ⟨rfl, hb1⟩; obtain ⟨c0, c1, d0, d1, f0, f1, g0, g1, lt⟩ := K0.out.to hb1 (by simp); obtain ⟨q0, q1⟩ := set_two d0 d1))
  have hb2 : Below w.heap.size w w1 := HB0.out.trans (hb1.mono (by simp; omega))
  have hb3 := fun u u' => (hb2.setCell (p := ⟨w.heap.size + 1, 0, none⟩) (by simp) u).setCell (p := ⟨w.heap.size + 1, 1, none⟩) (by simp) u'
  exact bodyPost_ret (v := .tuple #[.agg #[.int .i64 l, .slice A n c], .int .i64 5]) (by simp [results, Tryz.results68, go_sem, q0, q1]) rfl ⟨_, _, _, rfl, .inl ⟨rfl, rfl⟩, hb3 _ _⟩
theorem rsAddN_any (l id cc : Int) (A : Option Addr) (n c : Nat) (L : List Nd) (w : World) (h : NodesAt w (.slice A n c) L) (hr : RollC l L) (hn : n ≤ 400000) (A0 : -9223372036854775808 ≤ id) (A1 : id ≤ 9223372036854775807) (B0 : -9223372036854775808 ≤ cc) (B1 : cc ≤ 9223372036854775807) :
    Calls Tryz.prog 68 #[.agg #[.int .i64 l, .slice A n c], .int .i64 id, .int .i64 cc] w (StPostS l (addS l L id cc) (addE l L id cc) (.slice A n c) L w) := by
  have hu : 1 ≤ l ∧ l ≤ 48 := of_decide_eq_true hr.1
  by_cases h1 : rightB l id = false ∨ cc < 0
  · rw [(add_arg h1).1, (add_arg h1).2]
    exact rsAddN_arg l id cc A n c L w h h1 (by omega) (by omega) A0 A1 B0 B1
  · have a : rightB l id = true := by cases q : rightB l id <;> simp [q] at h1 ⊢
    have b : ¬ cc < 0 := fun g => h1 (.inr g)
    by_cases h2 : 72057594037927935 < sumC L + cc
    · rw [(add_full a b h2).1, (add_full a b h2).2]
      exact rsAddN_full l id cc A n c L w h hr (by omega) a b h2 (by omega) (by omega) A0 A1 B0 B1
    · rw [(add_ok a b h2).1, (add_ok a b h2).2]
      refine (rsAdd_ok l id cc A n c L w h hr hn a b h2 (by omega) (by omega) A0 A1 B0 B1).mono fun e w' q => ?_
      obtain ⟨A2, m2, c2, e1, e2, e3, _⟩ := q
      exact ⟨A2, m2, c2, e1, .inr e2, e3⟩
end Go.Proofs.YtabbpcpnabecmaaGreat
