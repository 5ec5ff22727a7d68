/- Arguments that are structs of a slice of nodes and of numbers, opened. No program is spoken of here. -/
import Derived.Test.YtikiflhpicjefaaMmy
import Derived.WalkKit
import Derived.ProofKit
import Derived.OpenShut
import Derived.Lib.SmallJoins
import Derived.Laws.Cover2
import Derived.ChangeMaps5
import Derived.Deep.Slices
import Derived.ChangeSame
import Derived.WideShapes
import Derived.Deep.Strs
namespace Go.Proofs.Ytikiflhpicjefaa
set_option linter.unusedVariables false
open Go.RowKit Go.ChangeShapes Go.WideShapes Go.Deep Go.Joins

section
variable {H : Type} {enc : TypeId × Value → H} {P : Program} {w : World} {base : Nat} {spare : Nat → Bool} {held : Bool}
/-- cells that are read as a slice of structs of two whole numbers -/
theorem nodes_of_trod {t e : TypeId} {f0 f1 : Field} {fuel : Nat} {cs : List Value} {x : DataW H × List MemPlace} (ht : P.underlying t = some (.slice e)) (hs : P.underlying e = some (.struct #[f0, f1])) (hone : oneCellFields P #[f0, f1] = true) (hC : P.cellsOf e = 2)
    (h0 : P.underlying f0.type = some (.int .i64)) (h1 : P.underlying f1.type = some (.int .i64)) (hf : DataW.trod enc P w base spare held fuel t cs = some x) :
    ∃ (A : Option Addr) (n c : Nat) (L : List Nd), cs = [.slice A n c] ∧ NodesAt w (.slice A n c) L ∧ NBds L ∧ n ≤ 9223372036854775807 := by
  rcases open_slice ht hf with ⟨hcs, _⟩ | ⟨ad, n, c, m, k, D, Pl, hcs, _, hl, hm, hmm, _, hi⟩
  · subst hcs
    exact ⟨none, 0, 0, [], rfl, nodes_nil w, fun n h => by simp at h, by omega⟩
  · subst hcs
    have hnm : n ≤ m := by rw [hmm]; split <;> omega
    have key : ∀ i, i < n → ∃ q : Int × Int, w.cell? (ad.add (i * 2)) = some (.int .i64 q.1) ∧ w.cell? (ad.add (i * 2 + 1)) = some (.int .i64 q.2) ∧ (Lit.int .i64 q.1).wf = true ∧ (Lit.int .i64 q.2).wf = true := by
      intro i hin
      obtain ⟨cs', hc, ht'⟩ := hi i (by omega)
      rw [hC] at hc
      obtain ⟨_, hcl, hat⟩ := World.cells?_some hc
      obtain ⟨y0, y1, n', _, _, g0, g1⟩ := trod_struct2 hs ht'
      obtain ⟨o0, k0⟩ := hone_of hone 0 f0 rfl
      obtain ⟨o1, k1⟩ := hone_of hone 1 f1 rfl
      rw [o0, k0] at g0
      rw [o1, k1] at g1
      match cs', hcl with
      | [u, v], _ =>
        obtain ⟨a, e0, _, wa⟩ := DataW.trod_int h0 g0
        obtain ⟨b, e1, _, wb⟩ := DataW.trod_int h1 g1
        simp at e0 e1
        subst e0 e1
        refine ⟨(a, b), ?_, ?_, wa, wb⟩
        · have := hat 0 (by omega)
          rw [add_add] at this; simpa using this
        · have := hat 1 (by omega)
          rw [add_add] at this; simpa using this
    obtain ⟨q, hq⟩ := choose_lt key
    have hLl : ((List.range n).map fun k => ((q k).1, (q k).2)).length = n := by simp
    have hLk : ∀ k, k < n → ((List.range n).map fun k => (((q k).1, (q k).2) : Nd)).getD k nz = ((q k).1, (q k).2) := fun k hk => by
      simp [List.getD_eq_getElem?_getD, hk]
    refine ⟨some ad, n, c, (List.range n).map fun k => ((q k).1, (q k).2), rfl, ⟨some ad, c, by rw [hLl], by rw [hLl]; exact hl, hm, fun e => by simp at e, fun h0 => ?_⟩, fun y hy => ?_, by unfold maxLen at hm; omega⟩
    · rw [hLl] at h0
      have hsp := World.cell?_spot (hq 0 h0).1
      have hlt : ad.block < w.heap.size := by
        have hc := (hq 0 h0).1
        rw [Nat.zero_mul] at hc
        have e0 : ad.add 0 = ad := by simp [Addr.add]
        rw [e0] at hc
        rcases Nat.lt_or_ge ad.block w.heap.size with g | g
        · exact g
        · simp [World.cell?, Array.getElem?_eq_none g] at hc
      rw [Nat.zero_mul] at hsp
      have e0 : ad.add 0 = ad := by simp [Addr.add]
      rw [e0] at hsp
      obtain ⟨b, o, s⟩ := ad
      dsimp only at hsp
      subst hsp
      have ea : ∀ i, (⟨b, o, none⟩ : Addr).add i = ⟨b, o + i, none⟩ := by
        intro i; unfold Addr.add; split
        · rename_i h; subst h; rfl
        · rfl
      refine ⟨b, o, rfl, hlt, fun k hk => ?_⟩
      rw [hLl] at hk
      have h2 := hq k hk
      rw [ea, ea] at h2
      rw [hLk k hk]
      exact ⟨h2.1, by rw [Nat.add_assoc]; exact h2.2.1⟩
    · obtain ⟨k, hk, rfl⟩ := List.mem_map.1 hy
      have hk' : k < n := by simpa using hk
      exact ⟨int_bd (hq k hk').2.2.1, int_bd (hq k hk').2.2.2⟩
/-- a struct of a slice of nodes and a number -/
theorem open_steps {r : Reach} {b0 : Nat} {t ts e : TypeId} {g0 g1 f0 f1 : Field} {v : Value} {d : DataW H} {p : List MemPlace} (hs : P.underlying t = some (.struct #[g0, g1])) (hC : P.cellsOf t = 2) (o0 : g0.offset = 0) (k0 : P.cellsOf g0.type = 1) (o1 : g1.offset = 1) (k1 : P.cellsOf g1.type = 1)
    (ht : P.underlying g0.type = some (.slice e)) (he : P.underlying e = some (.struct #[f0, f1])) (hone : oneCellFields P #[f0, f1] = true) (hCe : P.cellsOf e = 2) (h0 : P.underlying f0.type = some (.int .i64)) (h1 : P.underlying f1.type = some (.int .i64)) (h2 : P.underlying g1.type = some (.int .i64))
    (hv : Value.okWide P w r b0 t v) (h : DataW.Trod enc P w base spare held t v d p) :
    ∃ (A : Option Addr) (n c : Nat) (L : List Nd) (a : Int), v = .agg #[.slice A n c, .int .i64 a] ∧ NodesAt w (.slice A n c) L ∧ NBds L ∧ n ≤ 9223372036854775807 ∧ (Lit.int .i64 a).wf = true := by
  obtain ⟨cs, rfl, hsz⟩ := okWide_struct hs hv
  obtain ⟨fuel, hf⟩ := h
  obtain ⟨y0, y1, n', _, _, q0, q1⟩ := trod_struct2 hs hf
  rw [o0, k0] at q0
  rw [o1, k1] at q1
  rw [hC] at hsz
  obtain ⟨l⟩ := cs
  match l, hsz with
  | [u0, u1], _ =>
    simp [Value.cells] at q0 q1
    obtain ⟨A, n, c, L, e0, hn, hb, hm⟩ := nodes_of_trod ht he hone hCe h0 h1 q0
    obtain ⟨a, e1, _, wa⟩ := DataW.trod_int h2 q1
    injection e0 with e0 _
    injection e1 with e1 _
    subst e0 e1
    exact ⟨A, n, c, L, a, rfl, hn, hb, hm, wa⟩
/-- a struct of a slice of nodes and a call -/
theorem open_turned {r : Reach} {b0 : Nat} {t ts e : TypeId} {g0 g1 f0 f1 m0 m1 m2 : Field} {v : Value} {d : DataW H} {p : List MemPlace} (hs : P.underlying t = some (.struct #[g0, g1])) (hC : P.cellsOf t = 4) (o0 : g0.offset = 0) (k0 : P.cellsOf g0.type = 1) (o1 : g1.offset = 1) (k1 : P.cellsOf g1.type = 3)
    (ht : P.underlying g0.type = some (.slice e)) (he : P.underlying e = some (.struct #[f0, f1])) (hone : oneCellFields P #[f0, f1] = true) (hCe : P.cellsOf e = 2) (h0 : P.underlying f0.type = some (.int .i64)) (h1 : P.underlying f1.type = some (.int .i64))
    (hm : P.underlying g1.type = some (.struct #[m0, m1, m2])) (hone3 : oneCellFields P #[m0, m1, m2] = true) (i0 : P.underlying m0.type = some (.int .i64)) (i1 : P.underlying m1.type = some (.int .i64)) (i2 : P.underlying m2.type = some (.int .i64))
    (hv : Value.okWide P w r b0 t v) (h : DataW.Trod enc P w base spare held t v d p) :
    ∃ (A : Option Addr) (n c : Nat) (L : List Nd) (a b x : Int), v = .agg #[.slice A n c, .int .i64 a, .int .i64 b, .int .i64 x] ∧ NodesAt w (.slice A n c) L ∧ NBds L ∧ n ≤ 9223372036854775807 ∧ (Lit.int .i64 a).wf = true ∧ (Lit.int .i64 b).wf = true ∧ (Lit.int .i64 x).wf = true := by
  obtain ⟨cs, rfl, hsz⟩ := okWide_struct hs hv
  obtain ⟨fuel, hf⟩ := h
  obtain ⟨y0, y1, n', _, _, q0, q1⟩ := trod_struct2 hs hf
  rw [o0, k0] at q0
  rw [o1, k1] at q1
  rw [hC] at hsz
  obtain ⟨l⟩ := cs
  match l, hsz with
  | [u0, u1, u2, u3], _ =>
    simp [Value.cells] at q0 q1
    obtain ⟨A, n, c, L, e0, hn, hb, hmm⟩ := nodes_of_trod ht he hone hCe h0 h1 q0
    obtain ⟨z0, z1, z2, n2, _, _, t0, t1, t2⟩ := trod_struct3 hm q1
    obtain ⟨p0, l0⟩ := hone_of hone3 0 m0 rfl
    obtain ⟨p1, l1⟩ := hone_of hone3 1 m1 rfl
    obtain ⟨p2, l2⟩ := hone_of hone3 2 m2 rfl
    rw [p0, l0] at t0
    rw [p1, l1] at t1
    rw [p2, l2] at t2
    simp at t0 t1 t2
    obtain ⟨a, e1, _, wa⟩ := DataW.trod_int i0 t0
    obtain ⟨b, e2, _, wb⟩ := DataW.trod_int i1 t1
    obtain ⟨x, e3, _, wx⟩ := DataW.trod_int i2 t2
    injection e0 with e0 _
    injection e1 with e1 _
    injection e2 with e2 _
    injection e3 with e3 _
    subst e0 e1 e2 e3
    exact ⟨A, n, c, L, a, b, x, rfl, hn, hb, hmm, wa, wb, wx⟩
end

end Go.Proofs.Ytikiflhpicjefaa
