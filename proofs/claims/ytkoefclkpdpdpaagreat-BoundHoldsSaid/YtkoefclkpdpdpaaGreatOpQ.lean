/- Texts laid together: Open, Open2, Open6, Open7, Open8, Open9, Open10, Open11, Open12. -/
import Derived.WalkKit
import Derived.ProofKit
import Derived.OpenShut
import Derived.Test.YtkoefclkpdpdpaaGreatMmy
import Derived.Lib.SmallJoins
import Derived.Laws.Cover2
import Derived.ChangeMaps5
import Derived.Deep.Slices
import Derived.ChangeSame
import Derived.WideShapes
import Derived.Deep.Strs
import Derived.ChangeSlices
import Derived.Test.YtkoefclkpdpdpaaGreatRoQ
/- Arguments that are arrays of whole numbers, opened: what the reading of such an argument says of its cells. No program is spoken of here. -/
namespace Go.Proofs.YtkoefclkpdpdpaaGreat
set_option linter.unusedVariables false
open Go.RowKit

section
variable {H : Type} {enc : TypeId × Value → H} {P : Program} {w : World} {base : Nat} {spare : Nat → Bool} {held : Bool}

/-- an array of n numbers of one kind, as a value -/
theorem open_arr {n : Nat} {t e : TypeId} {K : IntKind} {r : Reach} {b0 : Nat} {v : Value} {d : DataW H} {p : List MemPlace} (ht : P.underlying t = some (.array n e)) (he : P.underlying e = some (.int K))
    (hce : P.cellsOf e = 1) (hct : P.cellsOf t = n) (hv : Value.okWide P w r b0 t v) (h : DataW.Trod enc P w base spare held t v d p) :
    ∃ l : List Int, l.length = n ∧ v = .agg (l.map (Value.int K)).toArray ∧ ∀ (i : Nat) (x : Int), l[i]? = some x → (Lit.int K x).wf = true := by
  unfold Value.okWide at hv
  rw [ht] at hv
  obtain ⟨cs, rfl, hsz, _⟩ := hv
  obtain ⟨fuel, hf⟩ := h
  obtain ⟨xs, m, _, _, hlen, hxs, hel⟩ := DataW.trod_array ht hf
  simp only [Value.cells] at hlen hel
  rw [hct] at hsz hlen
  have key : ∀ i, i < n → ∃ x, cs.toList[i]? = some (.int K x) ∧ (Lit.int K x).wf = true := by
    intro i hi
    have h1 := hel i hi
    rw [hce, Nat.mul_one] at h1
    have hx : i < xs.length := by omega
    rw [List.getElem?_eq_getElem hx] at h1
    obtain ⟨x, e1, _, wf⟩ := DataW.trod_int he h1
    refine ⟨x, ?_, wf⟩
    have e2 : (cs.toList.drop i)[0]? = some (.int K x) := by
      have := congrArg (fun l => l[0]?) e1
      simpa [List.getElem?_take] using this
    simpa using e2
  refine ⟨cs.toList.map intOf, by simp [hsz], ?_, ?_⟩
  · congr 1
    apply Array.ext'
    rw [List.toList_toArray, List.map_map]
    apply List.ext_getElem?
    intro i
    by_cases hi : i < n
    · obtain ⟨x, hx, _⟩ := key i hi
      rw [List.getElem?_map, hx]; rfl
    · rw [List.getElem?_eq_none (by omega), List.getElem?_eq_none (by simp; omega)]
  · intro i x hx
    rw [List.getElem?_map] at hx
    by_cases hi : i < n
    · obtain ⟨y, hy, wf⟩ := key i hi
      rw [hy] at hx
      simp only [Option.map_some, Option.some.injEq, intOf] at hx
      rw [← hx]; exact wf
    · rw [List.getElem?_eq_none (by omega)] at hx; cases hx

theorem list_two {α : Type} (l : List α) (h : l.length = 2) : ∃ a b, l = [a, b] := by
  match l, h with
  | [a, b], _ => exact ⟨a, b, rfl⟩
theorem list_four {α : Type} (l : List α) (h : l.length = 4) : ∃ a b c d, l = [a, b, c, d] := by
  match l, h with
  | [a, b, c, d], _ => exact ⟨a, b, c, d, rfl⟩
theorem open_two {t e : TypeId} {K : IntKind} {r : Reach} {b0 : Nat} {v : Value} {d : DataW H} {p : List MemPlace} (ht : P.underlying t = some (.array 2 e)) (he : P.underlying e = some (.int K))
    (hce : P.cellsOf e = 1) (hct : P.cellsOf t = 2) (hv : Value.okWide P w r b0 t v) (h : DataW.Trod enc P w base spare held t v d p) :
    ∃ a b, v = .agg #[.int K a, .int K b] ∧ (Lit.int K a).wf = true ∧ (Lit.int K b).wf = true := by
  obtain ⟨l, hl, rfl, hw⟩ := open_arr ht he hce hct hv h
  obtain ⟨a, b, rfl⟩ := list_two l hl
  exact ⟨a, b, rfl, hw 0 a rfl, hw 1 b rfl⟩
theorem open_four {t e : TypeId} {K : IntKind} {r : Reach} {b0 : Nat} {v : Value} {d : DataW H} {p : List MemPlace} (ht : P.underlying t = some (.array 4 e)) (he : P.underlying e = some (.int K))
    (hce : P.cellsOf e = 1) (hct : P.cellsOf t = 4) (hv : Value.okWide P w r b0 t v) (h : DataW.Trod enc P w base spare held t v d p) :
    ∃ a b c d, v = .agg #[.int K a, .int K b, .int K c, .int K d] ∧ (Lit.int K a).wf = true ∧ (Lit.int K b).wf = true ∧ (Lit.int K c).wf = true ∧ (Lit.int K d).wf = true := by
  obtain ⟨l, hl, rfl, hw⟩ := open_arr ht he hce hct hv h
  obtain ⟨a, b, c, d, rfl⟩ := list_four l hl
  exact ⟨a, b, c, d, rfl, hw 0 a rfl, hw 1 b rfl, hw 2 c rfl, hw 3 d rfl⟩
end

end Go.Proofs.YtkoefclkpdpdpaaGreat

/- Arguments that are structs of two whole numbers, and slices of such, opened: what the reading of such an argument says of its cells. No program is spoken of here. -/
namespace Go.Proofs.YtkoefclkpdpdpaaGreat
set_option linter.unusedVariables false
open Go.RowKit Go.ChangeShapes Go.WideShapes Go.Deep Go.Joins

section
variable {H : Type} {enc : TypeId × Value → H} {P : Program} {w : World} {base : Nat} {spare : Nat → Bool} {held : Bool}

/-- a struct of two whole numbers, by value -/
theorem open_pair {r : Reach} {b0 : Nat} {t : TypeId} {f0 f1 : Field} {v : Value} {d : DataW H} {p : List MemPlace} (hs : P.underlying t = some (.struct #[f0, f1])) (hone : oneCellFields P #[f0, f1] = true) (hC : P.cellsOf t = 2)
    (h0 : P.underlying f0.type = some (.int .i64)) (h1 : P.underlying f1.type = some (.int .i64)) (hv : Value.okWide P w r b0 t v) (h : DataW.Trod enc P w base spare held t v d p) :
    ∃ a b, v = .agg #[.int .i64 a, .int .i64 b] ∧ (Lit.int .i64 a).wf = true ∧ (Lit.int .i64 b).wf = true := by
  obtain ⟨v0, v1, y0, y1, n, rfl, _, _, g0, g1⟩ := open_agg2 hs hone hC hv h
  obtain ⟨a, e0, _, wa⟩ := DataW.trod_int h0 g0
  obtain ⟨b, e1, _, wb⟩ := DataW.trod_int h1 g1
  injection e0 with e0 _
  injection e1 with e1 _
  subst e0 e1
  exact ⟨a, b, rfl, wa, wb⟩

/-- a slice of structs of two whole numbers -/
theorem open_pairs {r : Reach} {b0 : Nat} {t e : TypeId} {f0 f1 : Field} {v : Value} {d : DataW H} {p : List MemPlace} (ht : P.underlying t = some (.slice e)) (hs : P.underlying e = some (.struct #[f0, f1])) (hone : oneCellFields P #[f0, f1] = true) (hC : P.cellsOf e = 2)
    (h0 : P.underlying f0.type = some (.int .i64)) (h1 : P.underlying f1.type = some (.int .i64)) (hv : Value.okWide P w r b0 t v) (h : DataW.Trod enc P w base spare held t v d p) :
    ∃ (A : Option Addr) (n c : Nat) (a x : Nat → Int), v = .slice A n c ∧ n ≤ maxLen ∧ Pairs w A n a x ∧
      ∀ k, k < n → (-9223372036854775808 ≤ a k ∧ a k ≤ 9223372036854775807) ∧ (-9223372036854775808 ≤ x k ∧ x k ≤ 9223372036854775807) := by
  obtain ⟨A, n, c, rfl⟩ := okWide_slice ht hv
  obtain ⟨fuel, hf⟩ := h
  rcases open_slice ht hf with ⟨hcs, _⟩ | ⟨ad, len, cap, m, k, D, Pl, hcs, _, hl, hm, hmm, _, hi⟩
  · simp [Value.cells] at hcs
    obtain ⟨rfl, rfl, rfl⟩ := hcs
    exact ⟨none, 0, 0, fun _ => 0, fun _ => 0, rfl, by unfold maxLen; omega, fun h => by omega, fun k h => by omega⟩
  · simp [Value.cells] at hcs
    obtain ⟨rfl, rfl, rfl⟩ := hcs
    have hnm : n ≤ m := by rw [hmm]; split <;> omega
    have key : ∀ i, i < n → ∃ q : Int × Int, w.cell? (ad.add (i * 2)) = some (.int .i64 q.1) ∧ w.cell? (ad.add (i * 2 + 1)) = some (.int .i64 q.2) ∧ (Lit.int .i64 q.1).wf = true ∧ (Lit.int .i64 q.2).wf = true := by
      intro i hin
      obtain ⟨cs', hc, ht'⟩ := hi i (by omega)
      rw [hC] at hc
      obtain ⟨_, hcl, hat⟩ := World.cells?_some hc
      obtain ⟨y0, y1, n', _, _, g0, g1⟩ := trod_struct2 hs ht'
      obtain ⟨o0, k0⟩ := hone_of hone 0 f0 rfl
      obtain ⟨o1, k1⟩ := hone_of hone 1 f1 rfl
      rw [o0, k0] at g0
      rw [o1, k1] at g1
      match cs', hcl with
      | [u, v], _ =>
        obtain ⟨a, e0, _, wa⟩ := DataW.trod_int h0 g0
        obtain ⟨b, e1, _, wb⟩ := DataW.trod_int h1 g1
        simp at e0 e1
        subst e0 e1
        refine ⟨(a, b), ?_, ?_, wa, wb⟩
        · have := hat 0 (by omega)
          rw [add_add] at this; simpa using this
        · have := hat 1 (by omega)
          rw [add_add] at this; simpa using this
    obtain ⟨q, hq⟩ := choose_lt key
    have bd : ∀ k, k < n → (-9223372036854775808 ≤ (q k).1 ∧ (q k).1 ≤ 9223372036854775807) ∧ (-9223372036854775808 ≤ (q k).2 ∧ (q k).2 ≤ 9223372036854775807) := fun k hk => ⟨int_bd (hq k hk).2.2.1, int_bd (hq k hk).2.2.2⟩
    refine ⟨some ad, n, c, fun i => (q i).1, fun i => (q i).2, rfl, by omega, fun h0 => ?_, bd⟩
    have hsp := World.cell?_spot (hq 0 h0).1
    have hlt : ad.block < w.heap.size := by
      have hc := (hq 0 h0).1
      rw [Nat.zero_mul] at hc
      have e0 : ad.add 0 = ad := by simp [Addr.add]
      rw [e0] at hc
      rcases Nat.lt_or_ge ad.block w.heap.size with g | g
      · exact g
      · simp [World.cell?, Array.getElem?_eq_none g] at hc
    rw [Nat.zero_mul] at hsp
    have e0 : ad.add 0 = ad := by simp [Addr.add]
    rw [e0] at hsp
    obtain ⟨b, o, s⟩ := ad
    dsimp only at hsp
    subst hsp
    have ea : ∀ i, (⟨b, o, none⟩ : Addr).add i = ⟨b, o + i, none⟩ := by
      intro i; unfold Addr.add; split
      · rename_i h; subst h; rfl
      · rfl
    refine ⟨b, o, rfl, hlt, fun k hk => ?_⟩
    have h2 := hq k hk
    rw [ea, ea] at h2
    exact ⟨h2.1, by rw [Nat.add_assoc]; exact h2.2.1⟩
end

end Go.Proofs.YtkoefclkpdpdpaaGreat

/- Arguments that are structs of a slice of nodes and of numbers, opened. No program is spoken of here. -/
namespace Go.Proofs.YtkoefclkpdpdpaaGreat
set_option linter.unusedVariables false
open Go.RowKit Go.ChangeShapes Go.WideShapes Go.Deep Go.Joins

section
variable {H : Type} {enc : TypeId × Value → H} {P : Program} {w : World} {base : Nat} {spare : Nat → Bool} {held : Bool}
/-- cells that are read as a slice of structs of two whole numbers -/
theorem nodes_of_trod {t e : TypeId} {f0 f1 : Field} {fuel : Nat} {cs : List Value} {x : DataW H × List MemPlace} (ht : P.underlying t = some (.slice e)) (hs : P.underlying e = some (.struct #[f0, f1])) (hone : oneCellFields P #[f0, f1] = true) (hC : P.cellsOf e = 2)
    (h0 : P.underlying f0.type = some (.int .i64)) (h1 : P.underlying f1.type = some (.int .i64)) (hf : DataW.trod enc P w base spare held fuel t cs = some x) :
    ∃ (A : Option Addr) (n c : Nat) (L : List Nd), cs = [.slice A n c] ∧ NodesAt w (.slice A n c) L ∧ NBds L ∧ n ≤ 9223372036854775807 := by
  rcases open_slice ht hf with ⟨hcs, _⟩ | ⟨ad, n, c, m, k, D, Pl, hcs, _, hl, hm, hmm, _, hi⟩
  · subst hcs
    exact ⟨none, 0, 0, [], rfl, nodes_nil w, fun n h => by simp at h, by omega⟩
  · subst hcs
    have hnm : n ≤ m := by rw [hmm]; split <;> omega
    have key : ∀ i, i < n → ∃ q : Int × Int, w.cell? (ad.add (i * 2)) = some (.int .i64 q.1) ∧ w.cell? (ad.add (i * 2 + 1)) = some (.int .i64 q.2) ∧ (Lit.int .i64 q.1).wf = true ∧ (Lit.int .i64 q.2).wf = true := by
      intro i hin
      obtain ⟨cs', hc, ht'⟩ := hi i (by omega)
      rw [hC] at hc
      obtain ⟨_, hcl, hat⟩ := World.cells?_some hc
      obtain ⟨y0, y1, n', _, _, g0, g1⟩ := trod_struct2 hs ht'
      obtain ⟨o0, k0⟩ := hone_of hone 0 f0 rfl
      obtain ⟨o1, k1⟩ := hone_of hone 1 f1 rfl
      rw [o0, k0] at g0
      rw [o1, k1] at g1
      match cs', hcl with
      | [u, v], _ =>
        obtain ⟨a, e0, _, wa⟩ := DataW.trod_int h0 g0
        obtain ⟨b, e1, _, wb⟩ := DataW.trod_int h1 g1
        simp at e0 e1
        subst e0 e1
        refine ⟨(a, b), ?_, ?_, wa, wb⟩
        · have := hat 0 (by omega)
          rw [add_add] at this; simpa using this
        · have := hat 1 (by omega)
          rw [add_add] at this; simpa using this
    obtain ⟨q, hq⟩ := choose_lt key
    have hLl : ((List.range n).map fun k => ((q k).1, (q k).2)).length = n := by simp
    have hLk : ∀ k, k < n → ((List.range n).map fun k => (((q k).1, (q k).2) : Nd)).getD k nz = ((q k).1, (q k).2) := fun k hk => by
      simp [List.getD_eq_getElem?_getD, hk]
    refine ⟨some ad, n, c, (List.range n).map fun k => ((q k).1, (q k).2), rfl, ⟨some ad, c, by rw [hLl], by rw [hLl]; exact hl, hm, fun e => by simp at e, fun h0 => ?_⟩, fun y hy => ?_, by unfold maxLen at hm; omega⟩
    · rw [hLl] at h0
      have hsp := World.cell?_spot (hq 0 h0).1
      have hlt : ad.block < w.heap.size := by
        have hc := (hq 0 h0).1
        rw [Nat.zero_mul] at hc
        have e0 : ad.add 0 = ad := by simp [Addr.add]
        rw [e0] at hc
        rcases Nat.lt_or_ge ad.block w.heap.size with g | g
        · exact g
        · simp [World.cell?, Array.getElem?_eq_none g] at hc
      rw [Nat.zero_mul] at hsp
      have e0 : ad.add 0 = ad := by simp [Addr.add]
      rw [e0] at hsp
      obtain ⟨b, o, s⟩ := ad
      dsimp only at hsp
      subst hsp
      have ea : ∀ i, (⟨b, o, none⟩ : Addr).add i = ⟨b, o + i, none⟩ := by
        intro i; unfold Addr.add; split
        · rename_i h; subst h; rfl
        · rfl
      refine ⟨b, o, rfl, hlt, fun k hk => ?_⟩
      rw [hLl] at hk
      have h2 := hq k hk
      rw [ea, ea] at h2
      rw [hLk k hk]
      exact ⟨h2.1, by rw [Nat.add_assoc]; exact h2.2.1⟩
    · obtain ⟨k, hk, rfl⟩ := List.mem_map.1 hy
      have hk' : k < n := by simpa using hk
      exact ⟨int_bd (hq k hk').2.2.1, int_bd (hq k hk').2.2.2⟩
/-- a struct of a slice of nodes and a number -/
theorem open_steps {r : Reach} {b0 : Nat} {t ts e : TypeId} {g0 g1 f0 f1 : Field} {v : Value} {d : DataW H} {p : List MemPlace} (hs : P.underlying t = some (.struct #[g0, g1])) (hC : P.cellsOf t = 2) (o0 : g0.offset = 0) (k0 : P.cellsOf g0.type = 1) (o1 : g1.offset = 1) (k1 : P.cellsOf g1.type = 1)
    (ht : P.underlying g0.type = some (.slice e)) (he : P.underlying e = some (.struct #[f0, f1])) (hone : oneCellFields P #[f0, f1] = true) (hCe : P.cellsOf e = 2) (h0 : P.underlying f0.type = some (.int .i64)) (h1 : P.underlying f1.type = some (.int .i64)) (h2 : P.underlying g1.type = some (.int .i64))
    (hv : Value.okWide P w r b0 t v) (h : DataW.Trod enc P w base spare held t v d p) :
    ∃ (A : Option Addr) (n c : Nat) (L : List Nd) (a : Int), v = .agg #[.slice A n c, .int .i64 a] ∧ NodesAt w (.slice A n c) L ∧ NBds L ∧ n ≤ 9223372036854775807 ∧ (Lit.int .i64 a).wf = true := by
  obtain ⟨cs, rfl, hsz⟩ := okWide_struct hs hv
  obtain ⟨fuel, hf⟩ := h
  obtain ⟨y0, y1, n', _, _, q0, q1⟩ := trod_struct2 hs hf
  rw [o0, k0] at q0
  rw [o1, k1] at q1
  rw [hC] at hsz
  obtain ⟨l⟩ := cs
  match l, hsz with
  | [u0, u1], _ =>
    simp [Value.cells] at q0 q1
    obtain ⟨A, n, c, L, e0, hn, hb, hm⟩ := nodes_of_trod ht he hone hCe h0 h1 q0
    obtain ⟨a, e1, _, wa⟩ := DataW.trod_int h2 q1
    injection e0 with e0 _
    injection e1 with e1 _
    subst e0 e1
    exact ⟨A, n, c, L, a, rfl, hn, hb, hm, wa⟩
/-- a struct of a slice of nodes and a call -/
theorem open_turned {r : Reach} {b0 : Nat} {t ts e : TypeId} {g0 g1 f0 f1 m0 m1 m2 : Field} {v : Value} {d : DataW H} {p : List MemPlace} (hs : P.underlying t = some (.struct #[g0, g1])) (hC : P.cellsOf t = 4) (o0 : g0.offset = 0) (k0 : P.cellsOf g0.type = 1) (o1 : g1.offset = 1) (k1 : P.cellsOf g1.type = 3)
    (ht : P.underlying g0.type = some (.slice e)) (he : P.underlying e = some (.struct #[f0, f1])) (hone : oneCellFields P #[f0, f1] = true) (hCe : P.cellsOf e = 2) (h0 : P.underlying f0.type = some (.int .i64)) (h1 : P.underlying f1.type = some (.int .i64))
    (hm : P.underlying g1.type = some (.struct #[m0, m1, m2])) (hone3 : oneCellFields P #[m0, m1, m2] = true) (i0 : P.underlying m0.type = some (.int .i64)) (i1 : P.underlying m1.type = some (.int .i64)) (i2 : P.underlying m2.type = some (.int .i64))
    (hv : Value.okWide P w r b0 t v) (h : DataW.Trod enc P w base spare held t v d p) :
    ∃ (A : Option Addr) (n c : Nat) (L : List Nd) (a b x : Int), v = .agg #[.slice A n c, .int .i64 a, .int .i64 b, .int .i64 x] ∧ NodesAt w (.slice A n c) L ∧ NBds L ∧ n ≤ 9223372036854775807 ∧ (Lit.int .i64 a).wf = true ∧ (Lit.int .i64 b).wf = true ∧ (Lit.int .i64 x).wf = true := by
  obtain ⟨cs, rfl, hsz⟩ := okWide_struct hs hv
  obtain ⟨fuel, hf⟩ := h
  obtain ⟨y0, y1, n', _, _, q0, q1⟩ := trod_struct2 hs hf
  rw [o0, k0] at q0
  rw [o1, k1] at q1
  rw [hC] at hsz
  obtain ⟨l⟩ := cs
  match l, hsz with
  | [u0, u1, u2, u3], _ =>
    simp [Value.cells] at q0 q1
    obtain ⟨A, n, c, L, e0, hn, hb, hmm⟩ := nodes_of_trod ht he hone hCe h0 h1 q0
    obtain ⟨z0, z1, z2, n2, _, _, t0, t1, t2⟩ := trod_struct3 hm q1
    obtain ⟨p0, l0⟩ := hone_of hone3 0 m0 rfl
    obtain ⟨p1, l1⟩ := hone_of hone3 1 m1 rfl
    obtain ⟨p2, l2⟩ := hone_of hone3 2 m2 rfl
    rw [p0, l0] at t0
    rw [p1, l1] at t1
    rw [p2, l2] at t2
    simp at t0 t1 t2
    obtain ⟨a, e1, _, wa⟩ := DataW.trod_int i0 t0
    obtain ⟨b, e2, _, wb⟩ := DataW.trod_int i1 t1
    obtain ⟨x, e3, _, wx⟩ := DataW.trod_int i2 t2
    injection e0 with e0 _
    injection e1 with e1 _
    injection e2 with e2 _
    injection e3 with e3 _
    subst e0 e1 e2 e3
    exact ⟨A, n, c, L, a, b, x, rfl, hn, hb, hmm, wa, wb, wx⟩
end

end Go.Proofs.YtkoefclkpdpdpaaGreat

/- Arguments that are arrays of three whole numbers, and arrays of two slices of structs of two whole numbers, opened. No program is spoken of here. -/
namespace Go.Proofs.YtkoefclkpdpdpaaGreat
set_option linter.unusedVariables false
open Go.RowKit Go.ChangeShapes Go.WideShapes Go.Deep Go.Joins

section
variable {H : Type} {enc : TypeId × Value → H} {P : Program} {w : World} {base : Nat} {spare : Nat → Bool} {held : Bool}
theorem list_three {α : Type} (l : List α) (h : l.length = 3) : ∃ a b c, l = [a, b, c] := by
  match l, h with
  | [a, b, c], _ => exact ⟨a, b, c, rfl⟩
theorem open_three {t e : TypeId} {K : IntKind} {r : Reach} {b0 : Nat} {v : Value} {d : DataW H} {p : List MemPlace} (ht : P.underlying t = some (.array 3 e)) (he : P.underlying e = some (.int K))
    (hce : P.cellsOf e = 1) (hct : P.cellsOf t = 3) (hv : Value.okWide P w r b0 t v) (h : DataW.Trod enc P w base spare held t v d p) :
    ∃ a b c, v = .agg #[.int K a, .int K b, .int K c] ∧ (Lit.int K a).wf = true ∧ (Lit.int K b).wf = true ∧ (Lit.int K c).wf = true := by
  obtain ⟨l, hl, rfl, hw⟩ := open_arr ht he hce hct hv h
  obtain ⟨a, b, c, rfl⟩ := list_three l hl
  exact ⟨a, b, c, rfl, hw 0 a rfl, hw 1 b rfl, hw 2 c rfl⟩
theorem open_nodes2 {r : Reach} {b0 : Nat} {t s e : TypeId} {f0 f1 : Field} {v : Value} {d : DataW H} {p : List MemPlace} (ht : P.underlying t = some (.array 2 s)) (hts : P.underlying s = some (.slice e)) (hs : P.underlying e = some (.struct #[f0, f1])) (hone : oneCellFields P #[f0, f1] = true) (hC : P.cellsOf e = 2)
    (h0 : P.underlying f0.type = some (.int .i64)) (h1 : P.underlying f1.type = some (.int .i64)) (hcs : P.cellsOf s = 1) (hct : P.cellsOf t = 2) (hv : Value.okWide P w r b0 t v) (h : DataW.Trod enc P w base spare held t v d p) :
    ∃ (A : Option Addr) (n c : Nat) (L : List Nd) (A2 : Option Addr) (n2 c2 : Nat) (L2 : List Nd), v = .agg #[.slice A n c, .slice A2 n2 c2] ∧ NodesAt w (.slice A n c) L ∧ NBds L ∧ n ≤ 9223372036854775807 ∧ NodesAt w (.slice A2 n2 c2) L2 ∧ NBds L2 ∧ n2 ≤ 9223372036854775807 := by
  unfold Value.okWide at hv
  rw [ht] at hv
  obtain ⟨cs, rfl, hsz, _⟩ := hv
  obtain ⟨fuel, hf⟩ := h
  obtain ⟨xs, m, _, _, hlen, hxs, hel⟩ := DataW.trod_array ht hf
  simp only [Value.cells] at hlen hel
  rw [hct] at hsz hlen
  have key : ∀ i, i < 2 → ∃ (A : Option Addr) (n c : Nat) (L : List Nd), cs.toList[i]? = some (.slice A n c) ∧ NodesAt w (.slice A n c) L ∧ NBds L ∧ n ≤ 9223372036854775807 := by
    intro i hi
    have g := hel i hi
    rw [hcs, Nat.mul_one] at g
    have hx : i < xs.length := by omega
    rw [List.getElem?_eq_getElem hx] at g
    obtain ⟨A, n, c, L, e1, q1, q2, q3⟩ := nodes_of_trod hts hs hone hC h0 h1 g
    refine ⟨A, n, c, L, ?_, q1, q2, q3⟩
    have e2 : (cs.toList.drop i)[0]? = some (.slice A n c) := by
      have := congrArg (fun l => l[0]?) e1
      simpa [List.getElem?_take] using this
    simpa using e2
  obtain ⟨A, n, c, L, e1, q1, q2, q3⟩ := key 0 (by omega)
  obtain ⟨A2, n2, c2, L2, e4, q4, q5, q6⟩ := key 1 (by omega)
  refine ⟨A, n, c, L, A2, n2, c2, L2, ?_, q1, q2, q3, q4, q5, q6⟩
  congr 1
  apply Array.ext'
  obtain ⟨a, b, e⟩ := list_two cs.toList (by rw [Array.length_toList]; exact hsz)
  rw [e] at e1 e4 ⊢
  simp at e1 e4
  rw [e1, e4]
end

end Go.Proofs.YtkoefclkpdpdpaaGreat

/- Arguments that are slices of whole numbers, and structs of a slice of nodes and three numbers, opened. No program is spoken of here. -/
namespace Go.Proofs.YtkoefclkpdpdpaaGreat
set_option linter.unusedVariables false
open Go.RowKit Go.ChangeShapes Go.WideShapes Go.Deep Go.Joins

/-- numbers that a slice of them may hold -/
def BdZ (T : List Int) : Prop := ∀ t ∈ T, -9223372036854775808 ≤ t ∧ t ≤ 9223372036854775807
section
variable {H : Type} {enc : TypeId × Value → H} {P : Program} {w : World} {base : Nat} {spare : Nat → Bool} {held : Bool}
theorem open_slintZ {r : Reach} {b0 : Nat} {t e : TypeId} {v : Value} {d : DataW H} {p : List MemPlace} (ht : P.underlying t = some (.slice e)) (he : P.underlying e = some (.int .i64)) (hC : P.cellsOf e = 1)
    (hv : Value.okWide P w r b0 t v) (h : DataW.Trod enc P w base spare held t v d p) : ∃ (A : Option Addr) (n c : Nat) (T : List Int), v = .slice A n c ∧ IntsAt w (.slice A n c) T ∧ BdZ T ∧ n ≤ 9223372036854775807 := by
  obtain ⟨A, n, c, rfl⟩ := okWide_slice ht hv
  obtain ⟨fuel, hf⟩ := h
  rcases Go.ChangeShapes.open_ints ht he hC hf with ⟨hcs, _⟩ | ⟨ad, len, cap, zs, hcs, hb, hl, hm, hlen, _, hcell, hwf⟩
  · simp [Value.cells] at hcs
    obtain ⟨rfl, rfl, rfl⟩ := hcs
    exact ⟨none, 0, 0, [], rfl, ints_nil w, fun t h => by simp at h, by omega⟩
  · simp [Value.cells] at hcs
    obtain ⟨rfl, rfl, rfl⟩ := hcs
    have hnz : n ≤ zs.length := by rw [hlen]; split <;> omega
    have hTl : (zs.take n).length = n := by simp; omega
    refine ⟨some ad, n, c, zs.take n, rfl, ?_, fun t ht => ?_, by unfold maxLen at hm; omega⟩
    · refine ⟨some ad, c, by rw [hTl], fun h0 => ?_⟩
      rw [hTl] at h0
      have hsp := World.cell?_spot (hcell 0 (by omega))
      have e0 : ad.add 0 = ad := by simp [Addr.add]
      have hlt : ad.block < w.heap.size := by
        have hc := hcell 0 (by omega)
        rw [e0] at hc
        rcases Nat.lt_or_ge ad.block w.heap.size with g | g
        · exact g
        · simp [World.cell?, Array.getElem?_eq_none g] at hc
      rw [e0] at hsp
      obtain ⟨b, o, s⟩ := ad
      dsimp only at hsp
      subst hsp
      have ea : ∀ i, (⟨b, o, none⟩ : Addr).add i = ⟨b, o + i, none⟩ := by
        intro i; unfold Addr.add; split
        · rename_i h; subst h; rfl
        · rfl
      refine ⟨b, o, rfl, hlt, fun k hk => ?_⟩
      rw [hTl] at hk
      have h2 := hcell k (by omega)
      rw [ea] at h2
      rw [h2]
      have hk2 : k < (zs.take n).length := by omega
      simp [List.getD_eq_getElem?_getD, hk]
    · exact int_bd (hwf t (List.mem_of_mem_take ht))

/-- a struct of a slice of nodes and three numbers -/
theorem open_asked {r : Reach} {b0 : Nat} {t e ei : TypeId} {g0 g1 f0 f1 : Field} {v : Value} {d : DataW H} {p : List MemPlace} (hs : P.underlying t = some (.struct #[g0, g1])) (hC : P.cellsOf t = 4) (o0 : g0.offset = 0) (k0 : P.cellsOf g0.type = 1) (o1 : g1.offset = 1) (k1 : P.cellsOf g1.type = 3)
    (ht : P.underlying g0.type = some (.slice e)) (he : P.underlying e = some (.struct #[f0, f1])) (hone : oneCellFields P #[f0, f1] = true) (hCe : P.cellsOf e = 2) (h0 : P.underlying f0.type = some (.int .i64)) (h1 : P.underlying f1.type = some (.int .i64))
    (hm : P.underlying g1.type = some (.array 3 ei)) (hei : P.underlying ei = some (.int .i64)) (hci : P.cellsOf ei = 1)
    (hv : Value.okWide P w r b0 t v) (h : DataW.Trod enc P w base spare held t v d p) :
    ∃ (A : Option Addr) (n c : Nat) (L : List Nd) (a b x : Int), v = .agg #[.slice A n c, .int .i64 a, .int .i64 b, .int .i64 x] ∧ NodesAt w (.slice A n c) L ∧ NBds L ∧ n ≤ 9223372036854775807 ∧ (Lit.int .i64 a).wf = true ∧ (Lit.int .i64 b).wf = true ∧ (Lit.int .i64 x).wf = true := by
  obtain ⟨cs, rfl, hsz⟩ := okWide_struct hs hv
  obtain ⟨fuel, hf⟩ := h
  obtain ⟨y0, y1, n', _, _, q0, q1⟩ := trod_struct2 hs hf
  rw [o0, k0] at q0
  rw [o1, k1] at q1
  rw [hC] at hsz
  obtain ⟨l⟩ := cs
  match l, hsz with
  | [u0, u1, u2, u3], _ =>
    simp [Value.cells] at q0 q1
    obtain ⟨A, n, c, L, e0, hn, hb, hmm⟩ := nodes_of_trod ht he hone hCe h0 h1 q0
    obtain ⟨xs, m, _, _, hlen, hxs, hel⟩ := DataW.trod_array hm q1
    have key : ∀ i, i < 3 → ∃ a, [u1, u2, u3][i]? = some (.int .i64 a) ∧ (Lit.int .i64 a).wf = true := by
      intro i hi
      have g := hel i hi
      rw [hci, Nat.mul_one] at g
      have hx : i < xs.length := by omega
      rw [List.getElem?_eq_getElem hx] at g
      obtain ⟨a, e1, _, wa⟩ := DataW.trod_int hei g
      refine ⟨a, ?_, wa⟩
      have e2 := congrArg (fun l => l[0]?) e1
      simpa [List.getElem?_take] using e2
    obtain ⟨a, e1, wa⟩ := key 0 (by omega)
    obtain ⟨b, e2, wb⟩ := key 1 (by omega)
    obtain ⟨x, e3, wx⟩ := key 2 (by omega)
    injection e0 with e0 _
    simp at e1 e2 e3
    subst e0 e1 e2 e3
    exact ⟨A, n, c, L, a, b, x, rfl, hn, hb, hmm, wa, wb, wx⟩
end

end Go.Proofs.YtkoefclkpdpdpaaGreat

/- Arguments that are structs of three whole numbers, and arrays of two slices of such, opened. No program is spoken of here. -/
namespace Go.Proofs.YtkoefclkpdpdpaaGreat
set_option linter.unusedVariables false
open Go.RowKit Go.ChangeShapes Go.WideShapes Go.Deep Go.Joins

section
variable {H : Type} {enc : TypeId × Value → H} {P : Program} {w : World} {base : Nat} {spare : Nat → Bool} {held : Bool}
/-- a struct of three whole numbers -/
theorem open_conf {r : Reach} {b0 : Nat} {t : TypeId} {f0 f1 f2 : Field} {v : Value} {d : DataW H} {p : List MemPlace} (hs : P.underlying t = some (.struct #[f0, f1, f2])) (hone : oneCellFields P #[f0, f1, f2] = true) (hC : P.cellsOf t = 3)
    (h0 : P.underlying f0.type = some (.int .i64)) (h1 : P.underlying f1.type = some (.int .i64)) (h2 : P.underlying f2.type = some (.int .i64)) (hv : Value.okWide P w r b0 t v) (h : DataW.Trod enc P w base spare held t v d p) :
    ∃ a b c, v = .agg #[.int .i64 a, .int .i64 b, .int .i64 c] ∧ (Lit.int .i64 a).wf = true ∧ (Lit.int .i64 b).wf = true ∧ (Lit.int .i64 c).wf = true := by
  obtain ⟨v0, v1, v2, y0, y1, y2, n, rfl, _, _, g0, g1, g2⟩ := open_agg3 hs hone hC hv h
  obtain ⟨a, e0, _, wa⟩ := DataW.trod_int h0 g0
  obtain ⟨b, e1, _, wb⟩ := DataW.trod_int h1 g1
  obtain ⟨c, e2, _, wc⟩ := DataW.trod_int h2 g2
  injection e0 with e0 _
  injection e1 with e1 _
  injection e2 with e2 _
  subst e0 e1 e2
  exact ⟨a, b, c, rfl, wa, wb, wc⟩
theorem list_two9 {α : Type} (l : List α) (h : l.length = 2) : ∃ a b, l = [a, b] := by
  match l, h with
  | [a, b], _ => exact ⟨a, b, rfl⟩
/-- cells that are read as a slice of structs of three whole numbers -/
theorem ops_of_trod {t e : TypeId} {f0 f1 f2 : Field} {fuel : Nat} {cs : List Value} {x : DataW H × List MemPlace} (ht : P.underlying t = some (.slice e)) (hs : P.underlying e = some (.struct #[f0, f1, f2])) (hone : oneCellFields P #[f0, f1, f2] = true) (hC : P.cellsOf e = 3)
    (h0 : P.underlying f0.type = some (.int .i64)) (h1 : P.underlying f1.type = some (.int .i64)) (h2 : P.underlying f2.type = some (.int .i64)) (hf : DataW.trod enc P w base spare held fuel t cs = some x) :
    ∃ (A : Option Addr) (n c : Nat) (L : List Pl), cs = [.slice A n c] ∧ PlacedAt w (.slice A n c) L ∧ OBds L ∧ n ≤ 9223372036854775807 := by
  rcases open_slice ht hf with ⟨hcs, _⟩ | ⟨ad, n, c, m, k, D, Pq, hcs, _, hl, hm, hmm, _, hi⟩
  · subst hcs
    exact ⟨none, 0, 0, [], rfl, placed_nil w, fun n h => by simp at h, by omega⟩
  · subst hcs
    have hnm : n ≤ m := by rw [hmm]; split <;> omega
    have key : ∀ i, i < n → ∃ q : Pl, (w.cell? (ad.add (i * 3)) = some (.int .i64 q.1.1) ∧ w.cell? (ad.add (i * 3 + 1)) = some (.int .i64 q.1.2) ∧ w.cell? (ad.add (i * 3 + 2)) = some (.int .i64 q.2)) ∧ (Lit.int .i64 q.1.1).wf = true ∧ (Lit.int .i64 q.1.2).wf = true ∧ (Lit.int .i64 q.2).wf = true := by
      intro i hin
      obtain ⟨cs', hc, ht'⟩ := hi i (by omega)
      rw [hC] at hc
      obtain ⟨_, hcl, hat⟩ := World.cells?_some hc
      obtain ⟨y0, y1, y2, n', _, _, g0, g1, g2⟩ := trod_struct3 hs ht'
      obtain ⟨o0, k0⟩ := hone_of hone 0 f0 rfl
      obtain ⟨o1, k1⟩ := hone_of hone 1 f1 rfl
      obtain ⟨o2, k2⟩ := hone_of hone 2 f2 rfl
      rw [o0, k0] at g0
      rw [o1, k1] at g1
      rw [o2, k2] at g2
      match cs', hcl with
      | [u, v, z], _ =>
        obtain ⟨a, e0, _, wa⟩ := DataW.trod_int h0 g0
        obtain ⟨b, e1, _, wb⟩ := DataW.trod_int h1 g1
        obtain ⟨c, e2, _, wc⟩ := DataW.trod_int h2 g2
        simp at e0 e1 e2
        subst e0 e1 e2
        refine ⟨((a, b), c), ⟨?_, ?_, ?_⟩, wa, wb, wc⟩
        · have := hat 0 (by omega)
          rw [add_add] at this; simpa using this
        · have := hat 1 (by omega)
          rw [add_add] at this; simpa using this
        · have := hat 2 (by omega)
          rw [add_add] at this; simpa using this
    obtain ⟨q, hq⟩ := choose_lt key
    have hLl : ((List.range n).map fun k => q k).length = n := by simp
    have hLk : ∀ k, k < n → ((List.range n).map fun k => q k).getD k plz = q k := fun k hk => by
      simp [List.getD_eq_getElem?_getD, hk]
    refine ⟨some ad, n, c, (List.range n).map fun k => q k, rfl, ⟨some ad, c, by rw [hLl], by rw [hLl]; exact hl, hm, fun e => by simp at e, fun h0 => ?_⟩, fun y hy => ?_, by unfold maxLen at hm; omega⟩
    · rw [hLl] at h0
      have hsp := World.cell?_spot (hq 0 h0).1.1
      have hlt : ad.block < w.heap.size := by
        have hc := (hq 0 h0).1.1
        rw [Nat.zero_mul] at hc
        have e0 : ad.add 0 = ad := by simp [Addr.add]
        rw [e0] at hc
        rcases Nat.lt_or_ge ad.block w.heap.size with g | g
        · exact g
        · simp [World.cell?, Array.getElem?_eq_none g] at hc
      rw [Nat.zero_mul] at hsp
      have e0 : ad.add 0 = ad := by simp [Addr.add]
      rw [e0] at hsp
      obtain ⟨b, o, s⟩ := ad
      dsimp only at hsp
      subst hsp
      have ea : ∀ i, (⟨b, o, none⟩ : Addr).add i = ⟨b, o + i, none⟩ := by
        intro i; unfold Addr.add; split
        · rename_i h; subst h; rfl
        · rfl
      refine ⟨b, o, rfl, hlt, fun k hk => ?_⟩
      rw [hLl] at hk
      have h2 := (hq k hk).1
      rw [ea, ea, ea] at h2
      rw [hLk k hk]
      exact ⟨h2.1, by rw [Nat.add_assoc]; exact h2.2.1, by rw [Nat.add_assoc]; exact h2.2.2⟩
    · obtain ⟨k, hk, rfl⟩ := List.mem_map.1 hy
      have hk' : k < n := by simpa using hk
      exact ⟨int_bd (hq k hk').2.1, int_bd (hq k hk').2.2.1, int_bd (hq k hk').2.2.2⟩
theorem open_ops2 {r : Reach} {b0 : Nat} {t s e : TypeId} {f0 f1 f2 : Field} {v : Value} {d : DataW H} {p : List MemPlace} (ht : P.underlying t = some (.array 2 s)) (hts : P.underlying s = some (.slice e)) (hs : P.underlying e = some (.struct #[f0, f1, f2])) (hone : oneCellFields P #[f0, f1, f2] = true) (hC : P.cellsOf e = 3)
    (h0 : P.underlying f0.type = some (.int .i64)) (h1 : P.underlying f1.type = some (.int .i64)) (h2 : P.underlying f2.type = some (.int .i64)) (hcs : P.cellsOf s = 1) (hct : P.cellsOf t = 2) (hv : Value.okWide P w r b0 t v) (h : DataW.Trod enc P w base spare held t v d p) :
    ∃ (A : Option Addr) (n c : Nat) (L : List Pl) (A2 : Option Addr) (n2 c2 : Nat) (L2 : List Pl), v = .agg #[.slice A n c, .slice A2 n2 c2] ∧ PlacedAt w (.slice A n c) L ∧ OBds L ∧ n ≤ 9223372036854775807 ∧ PlacedAt w (.slice A2 n2 c2) L2 ∧ OBds L2 ∧ n2 ≤ 9223372036854775807 := by
  unfold Value.okWide at hv
  rw [ht] at hv
  obtain ⟨cs, rfl, hsz, _⟩ := hv
  obtain ⟨fuel, hf⟩ := h
  obtain ⟨xs, m, _, _, hlen, hxs, hel⟩ := DataW.trod_array ht hf
  simp only [Value.cells] at hlen hel
  rw [hct] at hsz hlen
  have key : ∀ i, i < 2 → ∃ (A : Option Addr) (n c : Nat) (L : List Pl), cs.toList[i]? = some (.slice A n c) ∧ PlacedAt w (.slice A n c) L ∧ OBds L ∧ n ≤ 9223372036854775807 := by
    intro i hi
    have g := hel i hi
    rw [hcs, Nat.mul_one] at g
    have hx : i < xs.length := by omega
    rw [List.getElem?_eq_getElem hx] at g
    obtain ⟨A, n, c, L, e1, q1, q2, q3⟩ := ops_of_trod hts hs hone hC h0 h1 h2 g
    refine ⟨A, n, c, L, ?_, q1, q2, q3⟩
    have e2 : (cs.toList.drop i)[0]? = some (.slice A n c) := by
      have := congrArg (fun l => l[0]?) e1
      simpa [List.getElem?_take] using this
    simpa using e2
  obtain ⟨A, n, c, L, e1, q1, q2, q3⟩ := key 0 (by omega)
  obtain ⟨A2, n2, c2, L2, e4, q4, q5, q6⟩ := key 1 (by omega)
  refine ⟨A, n, c, L, A2, n2, c2, L2, ?_, q1, q2, q3, q4, q5, q6⟩
  congr 1
  apply Array.ext'
  obtain ⟨a, b, e⟩ := list_two9 cs.toList (by rw [Array.length_toList]; exact hsz)
  rw [e] at e1 e4 ⊢
  simp at e1 e4
  rw [e1, e4]
end

end Go.Proofs.YtkoefclkpdpdpaaGreat

/- Arguments that are structs of a struct of three whole numbers and of a slice of structs of such, and slices of those, opened. No program is spoken of here. -/
namespace Go.Proofs.YtkoefclkpdpdpaaGreat
set_option linter.unusedVariables false
open Go.RowKit Go.ChangeShapes Go.WideShapes Go.Deep Go.Joins

/-- a side: its conf (bits, k, kind), and its calls -/
structure SideX where
  l : Int
  k : Int
  kd : Int
  A : Option Addr
  n : Nat
  c : Nat
  O : List Pl
/-- its numbers are numbers, and its calls are there -/
def SideG (w : World) (s : SideX) : Prop := (-9223372036854775808 ≤ s.l ∧ s.l ≤ 9223372036854775807) ∧ (-9223372036854775808 ≤ s.k ∧ s.k ≤ 9223372036854775807) ∧ (-9223372036854775808 ≤ s.kd ∧ s.kd ≤ 9223372036854775807) ∧ PlacedAt w (.slice s.A s.n s.c) s.O ∧ OBds s.O ∧ s.n ≤ 9223372036854775807
instance : Inhabited SideX := ⟨⟨0, 0, 0, none, 0, 0, []⟩⟩
def sideCv (s : SideX) : List Value := [.int .i64 s.l, .int .i64 s.k, .int .i64 s.kd, .slice s.A s.n s.c]
/-- a slice of sides that is read -/
def SidesAt (w : World) (A : Option Addr) (S : List SideX) : Prop := ∀ i (h : i < S.length), ∃ b o, A = some ⟨b, o, none⟩ ∧ b < w.heap.size ∧ w.cell? ⟨b, o + i * 4, none⟩ = some (.int .i64 S[i].l) ∧ w.cell? ⟨b, o + i * 4 + 1, none⟩ = some (.int .i64 S[i].k) ∧ w.cell? ⟨b, o + i * 4 + 2, none⟩ = some (.int .i64 S[i].kd) ∧ w.cell? ⟨b, o + i * 4 + 3, none⟩ = some (.slice S[i].A S[i].n S[i].c)
theorem SidesAt.below {w w' : World} {A : Option Addr} {S : List SideX} (h : SidesAt w A S) (hb : Below w.heap.size w w') : SidesAt w' A S := fun i hi => by
  obtain ⟨b, o, e, hz, c0, c1, c2, c3⟩ := h i hi
  exact ⟨b, o, e, Nat.lt_of_lt_of_le hz hb.size, (hb.cell (p := ⟨b, o + i * 4, none⟩) hz).trans c0, (hb.cell (p := ⟨b, o + i * 4 + 1, none⟩) hz).trans c1, (hb.cell (p := ⟨b, o + i * 4 + 2, none⟩) hz).trans c2, (hb.cell (p := ⟨b, o + i * 4 + 3, none⟩) hz).trans c3⟩
theorem SideG.below {w w' : World} {s : SideX} (h : SideG w s) (hb : Below w.heap.size w w') : SideG w' s := ⟨h.1, h.2.1, h.2.2.1, h.2.2.2.1.below hb, h.2.2.2.2⟩
section
variable {H : Type} {enc : TypeId × Value → H} {P : Program} {w : World} {base : Nat} {spare : Nat → Bool} {held : Bool}
/-- cells that are read as a side -/
theorem side_of_trod {t ts e : TypeId} {g0 g1 f0 f1 f2 m0 m1 m2 : Field} {fuel : Nat} {cs : List Value} {x : DataW H × List MemPlace} (hcl : cs.length = 4) (hs : P.underlying t = some (.struct #[g0, g1])) (o0 : g0.offset = 0) (k0 : P.cellsOf g0.type = 3) (o1 : g1.offset = 3) (k1 : P.cellsOf g1.type = 1)
    (hm : P.underlying g0.type = some (.struct #[m0, m1, m2])) (hone3 : oneCellFields P #[m0, m1, m2] = true) (i0 : P.underlying m0.type = some (.int .i64)) (i1 : P.underlying m1.type = some (.int .i64)) (i2 : P.underlying m2.type = some (.int .i64))
    (ht : P.underlying g1.type = some (.slice e)) (he : P.underlying e = some (.struct #[f0, f1, f2])) (hone : oneCellFields P #[f0, f1, f2] = true) (hCe : P.cellsOf e = 3) (h0 : P.underlying f0.type = some (.int .i64)) (h1 : P.underlying f1.type = some (.int .i64)) (h2 : P.underlying f2.type = some (.int .i64))
    (hf : DataW.trod enc P w base spare held fuel t cs = some x) : ∃ s, cs = sideCv s ∧ SideG w s := by
  obtain ⟨y0, y1, n', _, _, q0, q1⟩ := trod_struct2 hs hf
  rw [o0, k0] at q0
  rw [o1, k1] at q1
  match cs, hcl with
  | [u0, u1, u2, u3], _ =>
    simp at q0 q1
    obtain ⟨A, n, c, L, e3, hn, hb, hmm⟩ := ops_of_trod ht he hone hCe h0 h1 h2 q1
    obtain ⟨z0, z1, z2, n2, _, _, t0, t1, t2⟩ := trod_struct3 hm q0
    obtain ⟨p0, l0⟩ := hone_of hone3 0 m0 rfl
    obtain ⟨p1, l1⟩ := hone_of hone3 1 m1 rfl
    obtain ⟨p2, l2⟩ := hone_of hone3 2 m2 rfl
    rw [p0, l0] at t0
    rw [p1, l1] at t1
    rw [p2, l2] at t2
    simp at t0 t1 t2
    obtain ⟨a, e0, _, wa⟩ := DataW.trod_int i0 t0
    obtain ⟨b, e1, _, wb⟩ := DataW.trod_int i1 t1
    obtain ⟨x, e2, _, wx⟩ := DataW.trod_int i2 t2
    injection e0 with e0 _
    injection e1 with e1 _
    injection e2 with e2 _
    injection e3 with e3 _
    subst e0 e1 e2 e3
    exact ⟨⟨a, b, x, A, n, c, L⟩, rfl, int_bd wa, int_bd wb, int_bd wx, hn, hb, hmm⟩
theorem open_side {r : Reach} {b0 : Nat} {t ts e : TypeId} {g0 g1 f0 f1 f2 m0 m1 m2 : Field} {v : Value} {d : DataW H} {p : List MemPlace} (hs : P.underlying t = some (.struct #[g0, g1])) (hC : P.cellsOf t = 4) (o0 : g0.offset = 0) (k0 : P.cellsOf g0.type = 3) (o1 : g1.offset = 3) (k1 : P.cellsOf g1.type = 1)
    (hm : P.underlying g0.type = some (.struct #[m0, m1, m2])) (hone3 : oneCellFields P #[m0, m1, m2] = true) (i0 : P.underlying m0.type = some (.int .i64)) (i1 : P.underlying m1.type = some (.int .i64)) (i2 : P.underlying m2.type = some (.int .i64))
    (ht : P.underlying g1.type = some (.slice e)) (he : P.underlying e = some (.struct #[f0, f1, f2])) (hone : oneCellFields P #[f0, f1, f2] = true) (hCe : P.cellsOf e = 3) (h0 : P.underlying f0.type = some (.int .i64)) (h1 : P.underlying f1.type = some (.int .i64)) (h2 : P.underlying f2.type = some (.int .i64))
    (hv : Value.okWide P w r b0 t v) (h : DataW.Trod enc P w base spare held t v d p) : ∃ s : SideX, v = .agg #[.int .i64 s.l, .int .i64 s.k, .int .i64 s.kd, .slice s.A s.n s.c] ∧ SideG w s := by
  obtain ⟨cs, rfl, hsz⟩ := okWide_struct hs hv
  obtain ⟨fuel, hf⟩ := h
  rw [hC] at hsz
  obtain ⟨l⟩ := cs
  obtain ⟨s, e1, g⟩ := side_of_trod (ts := ts) (show l.length = 4 from hsz) hs o0 k0 o1 k1 hm hone3 i0 i1 i2 ht he hone hCe h0 h1 h2 hf
  exact ⟨s, by rw [e1]; rfl, g⟩
theorem open_sides {r : Reach} {b0 : Nat} {tt t ts e : TypeId} {g0 g1 f0 f1 f2 m0 m1 m2 : Field} {v : Value} {d : DataW H} {p : List MemPlace} (htt : P.underlying tt = some (.slice t)) (hs : P.underlying t = some (.struct #[g0, g1])) (hC : P.cellsOf t = 4) (o0 : g0.offset = 0) (k0 : P.cellsOf g0.type = 3) (o1 : g1.offset = 3) (k1 : P.cellsOf g1.type = 1)
    (hm : P.underlying g0.type = some (.struct #[m0, m1, m2])) (hone3 : oneCellFields P #[m0, m1, m2] = true) (i0 : P.underlying m0.type = some (.int .i64)) (i1 : P.underlying m1.type = some (.int .i64)) (i2 : P.underlying m2.type = some (.int .i64))
    (ht : P.underlying g1.type = some (.slice e)) (he : P.underlying e = some (.struct #[f0, f1, f2])) (hone : oneCellFields P #[f0, f1, f2] = true) (hCe : P.cellsOf e = 3) (h0 : P.underlying f0.type = some (.int .i64)) (h1 : P.underlying f1.type = some (.int .i64)) (h2 : P.underlying f2.type = some (.int .i64))
    (hv : Value.okWide P w r b0 tt v) (h : DataW.Trod enc P w base spare held tt v d p) : ∃ (A : Option Addr) (n c : Nat) (S : List SideX), v = .slice A n c ∧ S.length = n ∧ SidesAt w A S ∧ (∀ s ∈ S, SideG w s) ∧ n ≤ 9223372036854775807 := by
  obtain ⟨A, n, c, rfl⟩ := okWide_slice htt hv
  obtain ⟨fuel, hf⟩ := h
  rcases open_slice htt hf with ⟨hcs, _⟩ | ⟨ad, len, cap, m, k, D, Pq, hcs, _, hl, hmx, hmm, _, hi⟩
  · simp [Value.cells] at hcs
    obtain ⟨rfl, rfl, rfl⟩ := hcs
    exact ⟨none, 0, 0, [], rfl, rfl, fun i h => by simp at h, fun s h => by simp at h, by omega⟩
  · simp [Value.cells] at hcs
    obtain ⟨rfl, rfl, rfl⟩ := hcs
    have hnm : n ≤ m := by rw [hmm]; split <;> omega
    have key : ∀ i, i < n → ∃ q : SideX, (w.cell? (ad.add (i * 4)) = some (.int .i64 q.l) ∧ w.cell? (ad.add (i * 4 + 1)) = some (.int .i64 q.k) ∧ w.cell? (ad.add (i * 4 + 2)) = some (.int .i64 q.kd) ∧ w.cell? (ad.add (i * 4 + 3)) = some (.slice q.A q.n q.c)) ∧ SideG w q := by
      intro i hin
      obtain ⟨cs', hc, ht'⟩ := hi i (by omega)
      rw [hC] at hc
      obtain ⟨_, hcl, hat⟩ := World.cells?_some hc
      obtain ⟨s, e1, g⟩ := side_of_trod (ts := ts) hcl hs o0 k0 o1 k1 hm hone3 i0 i1 i2 ht he hone hCe h0 h1 h2 ht'
      subst e1
      refine ⟨s, ⟨?_, ?_, ?_, ?_⟩, g⟩
      · have := hat 0 (by omega)
        rw [add_add] at this; simpa [sideCv] using this
      · have := hat 1 (by omega)
        rw [add_add] at this; simpa [sideCv] using this
      · have := hat 2 (by omega)
        rw [add_add] at this; simpa [sideCv] using this
      · have := hat 3 (by omega)
        rw [add_add] at this; simpa [sideCv] using this
    obtain ⟨q, hq⟩ := choose_lt key
    refine ⟨some ad, n, c, (List.range n).map fun k => q k, rfl, by simp, fun i hi => ?_, fun y hy => ?_, by unfold maxLen at hmx; omega⟩
    · have hin : i < n := by simpa using hi
      have hg : ((List.range n).map fun k => q k)[i] = q i := by simp
      have hsp := World.cell?_spot (hq 0 (by omega)).1.1
      have hlt : ad.block < w.heap.size := by
        have hc := (hq 0 (by omega)).1.1
        rw [Nat.zero_mul] at hc
        have e0 : ad.add 0 = ad := by simp [Addr.add]
        rw [e0] at hc
        rcases Nat.lt_or_ge ad.block w.heap.size with g | g
        · exact g
        · simp [World.cell?, Array.getElem?_eq_none g] at hc
      rw [Nat.zero_mul] at hsp
      have e0 : ad.add 0 = ad := by simp [Addr.add]
      rw [e0] at hsp
      obtain ⟨b, o, s⟩ := ad
      dsimp only at hsp
      subst hsp
      have ea : ∀ i, (⟨b, o, none⟩ : Addr).add i = ⟨b, o + i, none⟩ := by
        intro i; unfold Addr.add; split
        · rename_i h; subst h; rfl
        · rfl
      have h2 := (hq i hin).1
      rw [ea, ea, ea, ea] at h2
      rw [hg]
      exact ⟨b, o, rfl, hlt, h2.1, by rw [Nat.add_assoc]; exact h2.2.1, by rw [Nat.add_assoc]; exact h2.2.2.1, by rw [Nat.add_assoc]; exact h2.2.2.2⟩
    · obtain ⟨k, hk, rfl⟩ := List.mem_map.1 hy
      exact (hq k (by simpa using hk)).2
end

end Go.Proofs.YtkoefclkpdpdpaaGreat

/- Arguments that are structs of a struct of three whole numbers and of a slice of nodes, and slices of bytes, opened. No program is spoken of here. -/
namespace Go.Proofs.YtkoefclkpdpdpaaGreat
set_option linter.unusedVariables false
open Go.RowKit Go.ChangeShapes Go.WideShapes Go.Deep Go.Joins

/-- bytes that a slice of them may hold -/
def BdB (T : List Int) : Prop := ∀ t ∈ T, 0 ≤ t ∧ t ≤ 255
/-- a slice of bytes that is read -/
def BytesAt (w : World) (A : Option Addr) (T : List Int) : Prop := Cells w A T.length (fun k => .int .u8 (T.getD k 0))
theorem u8_bd {z : Int} (h : (Lit.int .u8 z).wf = true) : 0 ≤ z ∧ z ≤ 255 := by
  have := bounds_u8 h; omega
section
variable {H : Type} {enc : TypeId × Value → H} {P : Program} {w : World} {base : Nat} {spare : Nat → Bool} {held : Bool}
theorem open_loaded {r : Reach} {b0 : Nat} {t ts e : TypeId} {g0 g1 f0 f1 m0 m1 m2 : Field} {v : Value} {d : DataW H} {p : List MemPlace} (hs : P.underlying t = some (.struct #[g0, g1])) (hC : P.cellsOf t = 4) (o0 : g0.offset = 0) (k0 : P.cellsOf g0.type = 3) (o1 : g1.offset = 3) (k1 : P.cellsOf g1.type = 1)
    (hm : P.underlying g0.type = some (.struct #[m0, m1, m2])) (hone3 : oneCellFields P #[m0, m1, m2] = true) (i0 : P.underlying m0.type = some (.int .i64)) (i1 : P.underlying m1.type = some (.int .i64)) (i2 : P.underlying m2.type = some (.int .i64))
    (ht : P.underlying g1.type = some (.slice e)) (he : P.underlying e = some (.struct #[f0, f1])) (hone : oneCellFields P #[f0, f1] = true) (hCe : P.cellsOf e = 2) (h0 : P.underlying f0.type = some (.int .i64)) (h1 : P.underlying f1.type = some (.int .i64))
    (hv : Value.okWide P w r b0 t v) (h : DataW.Trod enc P w base spare held t v d p) :
    ∃ (a b x : Int) (A : Option Addr) (n c : Nat) (L : List Nd), v = .agg #[.int .i64 a, .int .i64 b, .int .i64 x, .slice A n c] ∧ (-9223372036854775808 ≤ a ∧ a ≤ 9223372036854775807) ∧ (-9223372036854775808 ≤ b ∧ b ≤ 9223372036854775807) ∧ (-9223372036854775808 ≤ x ∧ x ≤ 9223372036854775807) ∧ NodesAt w (.slice A n c) L ∧ NBds L ∧ n ≤ 9223372036854775807 := by
  obtain ⟨cs, rfl, hsz⟩ := okWide_struct hs hv
  obtain ⟨fuel, hf⟩ := h
  rw [hC] at hsz
  obtain ⟨l⟩ := cs
  obtain ⟨y0, y1, n', _, _, q0, q1⟩ := trod_struct2 hs hf
  rw [o0, k0] at q0
  rw [o1, k1] at q1
  match l, hsz with
  | [u0, u1, u2, u3], _ =>
    simp [Value.cells] at q0 q1
    obtain ⟨A, n, c, L, e3, hn, hb, hmm⟩ := nodes_of_trod ht he hone hCe h0 h1 q1
    obtain ⟨z0, z1, z2, n2, _, _, t0, t1, t2⟩ := trod_struct3 hm q0
    obtain ⟨p0, l0⟩ := hone_of hone3 0 m0 rfl
    obtain ⟨p1, l1⟩ := hone_of hone3 1 m1 rfl
    obtain ⟨p2, l2⟩ := hone_of hone3 2 m2 rfl
    rw [p0, l0] at t0
    rw [p1, l1] at t1
    rw [p2, l2] at t2
    simp at t0 t1 t2
    obtain ⟨a, e0, _, wa⟩ := DataW.trod_int i0 t0
    obtain ⟨b, e1, _, wb⟩ := DataW.trod_int i1 t1
    obtain ⟨x, e2, _, wx⟩ := DataW.trod_int i2 t2
    injection e0 with e0 _
    injection e1 with e1 _
    injection e2 with e2 _
    injection e3 with e3 _
    subst e0 e1 e2 e3
    exact ⟨a, b, x, A, n, c, L, rfl, int_bd wa, int_bd wb, int_bd wx, hn, hb, hmm⟩
theorem open_bytesZ {r : Reach} {b0 : Nat} {t e : TypeId} {v : Value} {d : DataW H} {p : List MemPlace} (ht : P.underlying t = some (.slice e)) (he : P.underlying e = some (.int .u8)) (hC : P.cellsOf e = 1)
    (hv : Value.okWide P w r b0 t v) (h : DataW.Trod enc P w base spare held t v d p) : ∃ (A : Option Addr) (n c : Nat) (T : List Int), v = .slice A n c ∧ T.length = n ∧ BytesAt w A T ∧ BdB T ∧ n ≤ 9223372036854775807 := by
  obtain ⟨A, n, c, rfl⟩ := okWide_slice ht hv
  obtain ⟨fuel, hf⟩ := h
  rcases Go.ChangeShapes.open_ints ht he hC hf with ⟨hcs, _⟩ | ⟨ad, len, cap, zs, hcs, hb, hl, hm, hlen, _, hcell, hwf⟩
  · simp [Value.cells] at hcs
    obtain ⟨rfl, rfl, rfl⟩ := hcs
    exact ⟨none, 0, 0, [], rfl, rfl, fun h => by simp at h, fun t h => by simp at h, by omega⟩
  · simp [Value.cells] at hcs
    obtain ⟨rfl, rfl, rfl⟩ := hcs
    have hnz : n ≤ zs.length := by rw [hlen]; split <;> omega
    have hTl : (zs.take n).length = n := by simp; omega
    refine ⟨some ad, n, c, zs.take n, rfl, hTl, fun h0 => ?_, fun t ht => ?_, by unfold maxLen at hm; omega⟩
    · rw [hTl] at h0
      have hsp := World.cell?_spot (hcell 0 (by omega))
      have e0 : ad.add 0 = ad := by simp [Addr.add]
      have hlt : ad.block < w.heap.size := by
        have hc := hcell 0 (by omega)
        rw [e0] at hc
        rcases Nat.lt_or_ge ad.block w.heap.size with g | g
        · exact g
        · simp [World.cell?, Array.getElem?_eq_none g] at hc
      rw [e0] at hsp
      obtain ⟨b, o, s⟩ := ad
      dsimp only at hsp
      subst hsp
      have ea : ∀ i, (⟨b, o, none⟩ : Addr).add i = ⟨b, o + i, none⟩ := by
        intro i; unfold Addr.add; split
        · rename_i h; subst h; rfl
        · rfl
      refine ⟨b, o, rfl, hlt, fun k hk => ?_⟩
      rw [hTl] at hk
      have h2 := hcell k (by omega)
      rw [ea] at h2
      rw [h2]
      have hk2 : k < (zs.take n).length := by omega
      simp [List.getD_eq_getElem?_getD, hk]
    · exact u8_bd (hwf t (List.mem_of_mem_take ht))
end

end Go.Proofs.YtkoefclkpdpdpaaGreat

/- An argument that is a slice of numbers, which can be cut. -/
namespace Go.Proofs.YtkoefclkpdpdpaaGreat
open Go.ChangeShapes Go.WideShapes Go.ChangeAt Go.RowKit
set_option linter.unusedVariables false

section
variable {H : Type} {enc : TypeId × Value → H} {P : Program} {w : World} {base : Nat} {spare : Nat → Bool} {held : Bool}
theorem slint_le {r : Reach} {b0 : Nat} {t e : TypeId} {A : Option Addr} {n c : Nat} {d : DataW H} {p : List MemPlace} (ht : P.underlying t = some (.slice e)) (he : P.underlying e = some (.int .i64)) (hC : P.cellsOf e = 1)
    (hv : Value.okWide P w r b0 t (.slice A n c)) (h : DataW.Trod enc P w base spare held t (.slice A n c) d p) : n ≤ c := by
  obtain ⟨fuel, hf⟩ := h
  rcases Go.ChangeShapes.open_ints ht he hC hf with ⟨hcs, _⟩ | ⟨ad, len, cap, zs, hcs, hb, hl, hm, hlen, _, hcell, hwf⟩
  · simp [Value.cells] at hcs
    obtain ⟨rfl, rfl, rfl⟩ := hcs
    exact Nat.le_refl _
  · simp [Value.cells] at hcs
    obtain ⟨rfl, rfl, rfl⟩ := hcs
    exact hl
end

end Go.Proofs.YtkoefclkpdpdpaaGreat
