/- Texts laid together: Open, Open2, Open6, Open7, Open8, Open9, Open10, Open11, Open12. -/
import Derived.WalkKit
import Derived.ProofKit
import Derived.OpenShut
import Derived.Test.YtelekchdbiimiaaGreatMmy
import Derived.Lib.SmallJoins
import Derived.Laws.Cover2
import Derived.ChangeMaps5
import Derived.Deep.Slices
import Derived.ChangeSame
import Derived.WideShapes
import Derived.Deep.Strs
import Derived.ChangeSlices
import Derived.Test.YtelekchdbiimiaaGreatRoQ
namespace Go.Proofs.YtelekchdbiimiaaGreat
set_option linter.unusedVariables false
open Go.RowKit
section
variable {H : Type} {enc : TypeId × Value → H} {P : Program} {w : World} {base : Nat} {spare : Nat → Bool} {held : Bool}
/-- an array of n numbers of one kind, as a value -/
theorem open_arr {n : Nat} {t e : TypeId} {K : IntKind} {r : Reach} {b0 : Nat} {v : Value} {d : DataW H} {p : List MemPlace} (ht : P.underlying t = some (.array n e)) (he : P.underlying e = some (.int K))
    (hce : P.cellsOf e = 1) (hct : P.cellsOf t = n) (hv : Value.okWide P w r b0 t v) (h : DataW.Trod enc P w base spare held t v d p) :
    ∃ l : List Int, l.length = n ∧ v = .agg (l.map (Value.int K)).toArray ∧ ∀ (i : Nat) (x : Int), l[i]? = some x → (Lit.int K x).wf = true := by
  unfold Value.okWide at hv
  rw [ht] at hv
  obtain ⟨cs, rfl, hsz, _⟩ := hv
  obtain ⟨fuel, hf⟩ := h
  obtain ⟨xs, m, _, _, hlen, hxs, hel⟩ := DataW.trod_array ht hf
  simp only [Value.cells] at hlen hel
  rw [hct] at hsz hlen
  have key : ∀ i, i < n → ∃ x, cs.toList[i]? = some (.int K x) ∧ (Lit.int K x).wf = true := by
    intro i hi
    have h1 := hel i hi
    rw [hce, Nat.mul_one] at h1
    have hx : i < xs.length := by omega
    rw [List.getElem?_eq_getElem hx] at h1
    obtain ⟨x, e1, _, wf⟩ := DataW.trod_int he h1
    refine ⟨x, ?_, wf⟩
    have e2 : (cs.toList.drop i)[0]? = some (.int K x) := by
      have := congrArg (fun l => l[0]?) e1
      simpa [List.getElem?_take] using this
    simpa using e2
  refine ⟨cs.toList.map intOf, by simp [hsz], ?_, ?_⟩
  · congr 1
    apply Array.ext'
    rw [List.toList_toArray, List.map_map]
    apply List.ext_getElem?
    intro i
    by_cases hi : i < n
    · obtain ⟨x, hx, _⟩ := key i hi
      rw [List.getElem?_map, hx]; rfl
    · rw [List.getElem?_eq_none (by omega), List.getElem?_eq_none (by simp; omega)]
  · intro i x hx
    rw [List.getElem?_map] at hx
    by_cases hi : i < n
    · obtain ⟨y, hy, wf⟩ := key i hi
      rw [hy] at hx
      simp only [Option.map_some, Option.some.injEq, intOf] at hx
      rw [← hx]; exact wf
    · rw [List.getElem?_eq_none (by omega)] at hx; cases hx
theorem list_two {α : Type} (l : List α) (h : l.length = 2) : ∃ a b, l = [a, b] := by
  match l, h with
  | [a, b], _ => exact ⟨a, b, rfl⟩
theorem open_two {t e : TypeId} {K : IntKind} {r : Reach} {b0 : Nat} {v : Value} {d : DataW H} {p : List MemPlace} (ht : P.underlying t = some (.array 2 e)) (he : P.underlying e = some (.int K))
    (hce : P.cellsOf e = 1) (hct : P.cellsOf t = 2) (hv : Value.okWide P w r b0 t v) (h : DataW.Trod enc P w base spare held t v d p) :
    ∃ a b, v = .agg #[.int K a, .int K b] ∧ (Lit.int K a).wf = true ∧ (Lit.int K b).wf = true := by
  obtain ⟨l, hl, rfl, hw⟩ := open_arr ht he hce hct hv h
  obtain ⟨a, b, rfl⟩ := list_two l hl
  exact ⟨a, b, rfl, hw 0 a rfl, hw 1 b rfl⟩
end
end Go.Proofs.YtelekchdbiimiaaGreat
namespace Go.Proofs.YtelekchdbiimiaaGreat
set_option linter.unusedVariables false
open Go.RowKit Go.ChangeShapes Go.WideShapes Go.Deep Go.Joins
end Go.Proofs.YtelekchdbiimiaaGreat
namespace Go.Proofs.YtelekchdbiimiaaGreat
set_option linter.unusedVariables false
open Go.RowKit Go.ChangeShapes Go.WideShapes Go.Deep Go.Joins
section
variable {H : Type} {enc : TypeId × Value → H} {P : Program} {w : World} {base : Nat} {spare : Nat → Bool} {held : Bool}
/-- cells that are read as a slice of structs of two whole numbers -/
theorem nodes_of_trod {t e : TypeId} {f0 f1 : Field} {fuel : Nat} {cs : List Value} {x : DataW H × List MemPlace} (ht : P.underlying t = some (.slice e)) (hs : P.underlying e = some (.struct #[f0, f1])) (hone : oneCellFields P #[f0, f1] = true) (hC : P.cellsOf e = 2)
    (h0 : P.underlying f0.type = some (.int .i64)) (h1 : P.underlying f1.type = some (.int .i64)) (hf : DataW.trod enc P w base spare held fuel t cs = some x) :
    ∃ (A : Option Addr) (n c : Nat) (L : List Nd), cs = [.slice A n c] ∧ NodesAt w (.slice A n c) L ∧ NBds L ∧ n ≤ 9223372036854775807 := by
  rcases open_slice ht hf with ⟨hcs, _⟩ | ⟨ad, n, c, m, k, D, Pl, hcs, _, hl, hm, hmm, _, hi⟩
  · subst hcs
    exact ⟨none, 0, 0, [], rfl, nodes_nil w, fun n h => by simp at h, by omega⟩
  · subst hcs
    have hnm : n ≤ m := by rw [hmm]; split <;> omega
    have key : ∀ i, i < n → ∃ q : Int × Int, w.cell? (ad.add (i * 2)) = some (.int .i64 q.1) ∧ w.cell? (ad.add (i * 2 + 1)) = some (.int .i64 q.2) ∧ (Lit.int .i64 q.1).wf = true ∧ (Lit.int .i64 q.2).wf = true := by
      intro i hin
      obtain ⟨cs', hc, ht'⟩ := hi i (by omega)
      rw [hC] at hc
      obtain ⟨_, hcl, hat⟩ := World.cells?_some hc
      obtain ⟨y0, y1, n', _, _, g0, g1⟩ := trod_struct2 hs ht'
      obtain ⟨o0, k0⟩ := hone_of hone 0 f0 rfl
      obtain ⟨o1, k1⟩ := hone_of hone 1 f1 rfl
      rw [o0, k0] at g0
      rw [o1, k1] at g1
      match cs', hcl with
      | [u, v], _ =>
        obtain ⟨a, e0, _, wa⟩ := DataW.trod_int h0 g0
        obtain ⟨b, e1, _, wb⟩ := DataW.trod_int h1 g1
        simp at e0 e1
        subst e0 e1
        refine ⟨(a, b), ?_, ?_, wa, wb⟩
        · have := hat 0 (by omega)
          rw [add_add] at this; simpa using this
        · have := hat 1 (by omega)
          rw [add_add] at this; simpa using this
    obtain ⟨q, hq⟩ := choose_lt key
    have hLl : ((List.range n).map fun k => ((q k).1, (q k).2)).length = n := by simp
    have hLk : ∀ k, k < n → ((List.range n).map fun k => (((q k).1, (q k).2) : Nd)).getD k nz = ((q k).1, (q k).2) := fun k hk => by
      simp [List.getD_eq_getElem?_getD, hk]
    refine ⟨some ad, n, c, (List.range n).map fun k => ((q k).1, (q k).2), rfl, ⟨some ad, c, by rw [hLl], by rw [hLl]; exact hl, hm, fun e => by simp at e, fun h0 => ?_⟩, fun y hy => ?_, by unfold maxLen at hm; omega⟩
    · rw [hLl] at h0
      have hsp := World.cell?_spot (hq 0 h0).1
      have hlt : ad.block < w.heap.size := by
        have hc := (hq 0 h0).1
        rw [Nat.zero_mul] at hc
        have e0 : ad.add 0 = ad := by simp [Addr.add]
        rw [e0] at hc
        rcases Nat.lt_or_ge ad.block w.heap.size with g | g
        · exact g
        · simp [World.cell?, Array.getElem?_eq_none g] at hc
      rw [Nat.zero_mul] at hsp
      have e0 : ad.add 0 = ad := by simp [Addr.add]
      rw [e0] at hsp
      obtain ⟨b, o, s⟩ := ad
      dsimp only at hsp
      subst hsp
      have ea : ∀ i, (⟨b, o, none⟩ : Addr).add i = ⟨b, o + i, none⟩ := by
        intro i; unfold Addr.add; split
        · rename_i h; subst h; rfl
        · rfl
      refine ⟨b, o, rfl, hlt, fun k hk => ?_⟩
      rw [hLl] at hk
      have h2 := hq k hk
      rw [ea, ea] at h2
      rw [hLk k hk]
      exact ⟨h2.1, by rw [Nat.add_assoc]; exact h2.2.1⟩
    · obtain ⟨k, hk, rfl⟩ := List.mem_map.1 hy
      have hk' : k < n := by simpa using hk
      exact ⟨int_bd (hq k hk').2.2.1, int_bd (hq k hk').2.2.2⟩
end
end Go.Proofs.YtelekchdbiimiaaGreat
namespace Go.Proofs.YtelekchdbiimiaaGreat
set_option linter.unusedVariables false
open Go.RowKit Go.ChangeShapes Go.WideShapes Go.Deep Go.Joins
end Go.Proofs.YtelekchdbiimiaaGreat
namespace Go.Proofs.YtelekchdbiimiaaGreat
set_option linter.unusedVariables false
open Go.RowKit Go.ChangeShapes Go.WideShapes Go.Deep Go.Joins
end Go.Proofs.YtelekchdbiimiaaGreat
namespace Go.Proofs.YtelekchdbiimiaaGreat
set_option linter.unusedVariables false
open Go.RowKit Go.ChangeShapes Go.WideShapes Go.Deep Go.Joins
section
variable {H : Type} {enc : TypeId × Value → H} {P : Program} {w : World} {base : Nat} {spare : Nat → Bool} {held : Bool}
/-- cells that are read as a slice of structs of three whole numbers -/
theorem ops_of_trod {t e : TypeId} {f0 f1 f2 : Field} {fuel : Nat} {cs : List Value} {x : DataW H × List MemPlace} (ht : P.underlying t = some (.slice e)) (hs : P.underlying e = some (.struct #[f0, f1, f2])) (hone : oneCellFields P #[f0, f1, f2] = true) (hC : P.cellsOf e = 3)
    (h0 : P.underlying f0.type = some (.int .i64)) (h1 : P.underlying f1.type = some (.int .i64)) (h2 : P.underlying f2.type = some (.int .i64)) (hf : DataW.trod enc P w base spare held fuel t cs = some x) :
    ∃ (A : Option Addr) (n c : Nat) (L : List Pl), cs = [.slice A n c] ∧ PlacedAt w (.slice A n c) L ∧ OBds L ∧ n ≤ 9223372036854775807 := by
  rcases open_slice ht hf with ⟨hcs, _⟩ | ⟨ad, n, c, m, k, D, Pq, hcs, _, hl, hm, hmm, _, hi⟩
  · subst hcs
    exact ⟨none, 0, 0, [], rfl, placed_nil w, fun n h => by simp at h, by omega⟩
  · subst hcs
    have hnm : n ≤ m := by rw [hmm]; split <;> omega
    have key : ∀ i, i < n → ∃ q : Pl, (w.cell? (ad.add (i * 3)) = some (.int .i64 q.1.1) ∧ w.cell? (ad.add (i * 3 + 1)) = some (.int .i64 q.1.2) ∧ w.cell? (ad.add (i * 3 + 2)) = some (.int .i64 q.2)) ∧ (Lit.int .i64 q.1.1).wf = true ∧ (Lit.int .i64 q.1.2).wf = true ∧ (Lit.int .i64 q.2).wf = true := by
      intro i hin
      obtain ⟨cs', hc, ht'⟩ := hi i (by omega)
      rw [hC] at hc
      obtain ⟨_, hcl, hat⟩ := World.cells?_some hc
      obtain ⟨y0, y1, y2, n', _, _, g0, g1, g2⟩ := trod_struct3 hs ht'
      obtain ⟨o0, k0⟩ := hone_of hone 0 f0 rfl
      obtain ⟨o1, k1⟩ := hone_of hone 1 f1 rfl
      obtain ⟨o2, k2⟩ := hone_of hone 2 f2 rfl
      rw [o0, k0] at g0
      rw [o1, k1] at g1
      rw [o2, k2] at g2
      match cs', hcl with
      | [u, v, z], _ =>
        obtain ⟨a, e0, _, wa⟩ := DataW.trod_int h0 g0
        obtain ⟨b, e1, _, wb⟩ := DataW.trod_int h1 g1
        obtain ⟨c, e2, _, wc⟩ := DataW.trod_int h2 g2
        simp at e0 e1 e2
        subst e0 e1 e2
        refine ⟨((a, b), c), ⟨?_, ?_, ?_⟩, wa, wb, wc⟩
        · have := hat 0 (by omega)
          rw [add_add] at this; simpa using this
        · have := hat 1 (by omega)
          rw [add_add] at this; simpa using this
        · have := hat 2 (by omega)
          rw [add_add] at this; simpa using this
    obtain ⟨q, hq⟩ := choose_lt key
    have hLl : ((List.range n).map fun k => q k).length = n := by simp
    have hLk : ∀ k, k < n → ((List.range n).map fun k => q k).getD k plz = q k := fun k hk => by
      simp [List.getD_eq_getElem?_getD, hk]
    refine ⟨some ad, n, c, (List.range n).map fun k => q k, rfl, ⟨some ad, c, by rw [hLl], by rw [hLl]; exact hl, hm, fun e => by simp at e, fun h0 => ?_⟩, fun y hy => ?_, by unfold maxLen at hm; omega⟩
    · rw [hLl] at h0
      have hsp := World.cell?_spot (hq 0 h0).1.1
      have hlt : ad.block < w.heap.size := by
        have hc := (hq 0 h0).1.1
        rw [Nat.zero_mul] at hc
        have e0 : ad.add 0 = ad := by simp [Addr.add]
        rw [e0] at hc
        rcases Nat.lt_or_ge ad.block w.heap.size with g | g
        · exact g
        · simp [World.cell?, Array.getElem?_eq_none g] at hc
      rw [Nat.zero_mul] at hsp
      have e0 : ad.add 0 = ad := by simp [Addr.add]
      rw [e0] at hsp
      obtain ⟨b, o, s⟩ := ad
      dsimp only at hsp
      subst hsp
      have ea : ∀ i, (⟨b, o, none⟩ : Addr).add i = ⟨b, o + i, none⟩ := by
        intro i; unfold Addr.add; split
        · rename_i h; subst h; rfl
        · rfl
      refine ⟨b, o, rfl, hlt, fun k hk => ?_⟩
      rw [hLl] at hk
      have h2 := (hq k hk).1
      rw [ea, ea, ea] at h2
      rw [hLk k hk]
      exact ⟨h2.1, by rw [Nat.add_assoc]; exact h2.2.1, by rw [Nat.add_assoc]; exact h2.2.2⟩
    · obtain ⟨k, hk, rfl⟩ := List.mem_map.1 hy
      have hk' : k < n := by simpa using hk
      exact ⟨int_bd (hq k hk').2.1, int_bd (hq k hk').2.2.1, int_bd (hq k hk').2.2.2⟩
end
end Go.Proofs.YtelekchdbiimiaaGreat
namespace Go.Proofs.YtelekchdbiimiaaGreat
set_option linter.unusedVariables false
open Go.RowKit Go.ChangeShapes Go.WideShapes Go.Deep Go.Joins
/-- a side: its conf (bits, k, kind), and its calls -/
structure SideX where
  l : Int
  k : Int
  kd : Int
  A : Option Addr
  n : Nat
  c : Nat
  O : List Pl
/-- its numbers are numbers, and its calls are there -/
def SideG (w : World) (s : SideX) : Prop := (-9223372036854775808 ≤ s.l ∧ s.l ≤ 9223372036854775807) ∧ (-9223372036854775808 ≤ s.k ∧ s.k ≤ 9223372036854775807) ∧ (-9223372036854775808 ≤ s.kd ∧ s.kd ≤ 9223372036854775807) ∧ PlacedAt w (.slice s.A s.n s.c) s.O ∧ OBds s.O ∧ s.n ≤ 9223372036854775807
instance : Inhabited SideX := ⟨⟨0, 0, 0, none, 0, 0, []⟩⟩
def sideCv (s : SideX) : List Value := [.int .i64 s.l, .int .i64 s.k, .int .i64 s.kd, .slice s.A s.n s.c]
/-- a slice of sides that is read -/
def SidesAt (w : World) (A : Option Addr) (S : List SideX) : Prop := ∀ i (h : i < S.length), ∃ b o, A = some ⟨b, o, none⟩ ∧ b < w.heap.size ∧ w.cell? ⟨b, o + i * 4, none⟩ = some (.int .i64 S[i].l) ∧ w.cell? ⟨b, o + i * 4 + 1, none⟩ = some (.int .i64 S[i].k) ∧ w.cell? ⟨b, o + i * 4 + 2, none⟩ = some (.int .i64 S[i].kd) ∧ w.cell? ⟨b, o + i * 4 + 3, none⟩ = some (.slice S[i].A S[i].n S[i].c)
theorem SidesAt.below {w w' : World} {A : Option Addr} {S : List SideX} (h : SidesAt w A S) (hb : Below w.heap.size w w') : SidesAt w' A S := fun i hi => by
  obtain ⟨b, o, e, hz, c0, c1, c2, c3⟩ := h i hi
  exact ⟨b, o, e, Nat.lt_of_lt_of_le hz hb.size, (hb.cell (p := ⟨b, o + i * 4, none⟩) hz).trans c0, (hb.cell (p := ⟨b, o + i * 4 + 1, none⟩) hz).trans c1, (hb.cell (p := ⟨b, o + i * 4 + 2, none⟩) hz).trans c2, (hb.cell (p := ⟨b, o + i * 4 + 3, none⟩) hz).trans c3⟩
theorem SideG.below {w w' : World} {s : SideX} (h : SideG w s) (hb : Below w.heap.size w w') : SideG w' s := ⟨h.1, h.2.1, h.2.2.1, h.2.2.2.1.below hb, h.2.2.2.2⟩
section
variable {H : Type} {enc : TypeId × Value → H} {P : Program} {w : World} {base : Nat} {spare : Nat → Bool} {held : Bool}
/-- cells that are read as a side -/
theorem side_of_trod {t ts e : TypeId} {g0 g1 f0 f1 f2 m0 m1 m2 : Field} {fuel : Nat} {cs : List Value} {x : DataW H × List MemPlace} (hcl : cs.length = 4) (hs : P.underlying t = some (.struct #[g0, g1])) (o0 : g0.offset = 0) (k0 : P.cellsOf g0.type = 3) (o1 : g1.offset = 3) (k1 : P.cellsOf g1.type = 1)
    (hm : P.underlying g0.type = some (.struct #[m0, m1, m2])) (hone3 : oneCellFields P #[m0, m1, m2] = true) (i0 : P.underlying m0.type = some (.int .i64)) (i1 : P.underlying m1.type = some (.int .i64)) (i2 : P.underlying m2.type = some (.int .i64))
    (ht : P.underlying g1.type = some (.slice e)) (he : P.underlying e = some (.struct #[f0, f1, f2])) (hone : oneCellFields P #[f0, f1, f2] = true) (hCe : P.cellsOf e = 3) (h0 : P.underlying f0.type = some (.int .i64)) (h1 : P.underlying f1.type = some (.int .i64)) (h2 : P.underlying f2.type = some (.int .i64))
    (hf : DataW.trod enc P w base spare held fuel t cs = some x) : ∃ s, cs = sideCv s ∧ SideG w s := by
  obtain ⟨y0, y1, n', _, _, q0, q1⟩ := trod_struct2 hs hf
  rw [o0, k0] at q0
  rw [o1, k1] at q1
  match cs, hcl with
  | [u0, u1, u2, u3], _ =>
    simp at q0 q1
    obtain ⟨A, n, c, L, e3, hn, hb, hmm⟩ := ops_of_trod ht he hone hCe h0 h1 h2 q1
    obtain ⟨z0, z1, z2, n2, _, _, t0, t1, t2⟩ := trod_struct3 hm q0
    obtain ⟨p0, l0⟩ := hone_of hone3 0 m0 rfl
    obtain ⟨p1, l1⟩ := hone_of hone3 1 m1 rfl
    obtain ⟨p2, l2⟩ := hone_of hone3 2 m2 rfl
    rw [p0, l0] at t0
    rw [p1, l1] at t1
    rw [p2, l2] at t2
    simp at t0 t1 t2
    obtain ⟨a, e0, _, wa⟩ := DataW.trod_int i0 t0
    obtain ⟨b, e1, _, wb⟩ := DataW.trod_int i1 t1
    obtain ⟨x, e2, _, wx⟩ := DataW.trod_int i2 t2
    injection e0 with e0 _
    injection e1 with e1 _
    injection e2 with e2 _
    injection e3 with e3 _
    subst e0 e1 e2 e3
    exact ⟨⟨a, b, x, A, n, c, L⟩, rfl, int_bd wa, int_bd wb, int_bd wx, hn, hb, hmm⟩
theorem open_side {r : Reach} {b0 : Nat} {t ts e : TypeId} {g0 g1 f0 f1 f2 m0 m1 m2 : Field} {v : Value} {d : DataW H} {p : List MemPlace} (hs : P.underlying t = some (.struct #[g0, g1])) (hC : P.cellsOf t = 4) (o0 : g0.offset = 0) (k0 : P.cellsOf g0.type = 3) (o1 : g1.offset = 3) (k1 : P.cellsOf g1.type = 1)
    (hm : P.underlying g0.type = some (.struct #[m0, m1, m2])) (hone3 : oneCellFields P #[m0, m1, m2] = true) (i0 : P.underlying m0.type = some (.int .i64)) (i1 : P.underlying m1.type = some (.int .i64)) (i2 : P.underlying m2.type = some (.int .i64))
    (ht : P.underlying g1.type = some (.slice e)) (he : P.underlying e = some (.struct #[f0, f1, f2])) (hone : oneCellFields P #[f0, f1, f2] = true) (hCe : P.cellsOf e = 3) (h0 : P.underlying f0.type = some (.int .i64)) (h1 : P.underlying f1.type = some (.int .i64)) (h2 : P.underlying f2.type = some (.int .i64))
    (hv : Value.okWide P w r b0 t v) (h : DataW.Trod enc P w base spare held t v d p) : ∃ s : SideX, v = .agg #[.int .i64 s.l, .int .i64 s.k, .int .i64 s.kd, .slice s.A s.n s.c] ∧ SideG w s := by
  obtain ⟨cs, rfl, hsz⟩ := okWide_struct hs hv
  obtain ⟨fuel, hf⟩ := h
  rw [hC] at hsz
  obtain ⟨l⟩ := cs
  obtain ⟨s, e1, g⟩ := side_of_trod (ts := ts) (show l.length = 4 from hsz) hs o0 k0 o1 k1 hm hone3 i0 i1 i2 ht he hone hCe h0 h1 h2 hf
  exact ⟨s, by rw [e1]; rfl, g⟩
end
end Go.Proofs.YtelekchdbiimiaaGreat
namespace Go.Proofs.YtelekchdbiimiaaGreat
set_option linter.unusedVariables false
open Go.RowKit Go.ChangeShapes Go.WideShapes Go.Deep Go.Joins
section
variable {H : Type} {enc : TypeId × Value → H} {P : Program} {w : World} {base : Nat} {spare : Nat → Bool} {held : Bool}
theorem open_loaded {r : Reach} {b0 : Nat} {t ts e : TypeId} {g0 g1 f0 f1 m0 m1 m2 : Field} {v : Value} {d : DataW H} {p : List MemPlace} (hs : P.underlying t = some (.struct #[g0, g1])) (hC : P.cellsOf t = 4) (o0 : g0.offset = 0) (k0 : P.cellsOf g0.type = 3) (o1 : g1.offset = 3) (k1 : P.cellsOf g1.type = 1)
    (hm : P.underlying g0.type = some (.struct #[m0, m1, m2])) (hone3 : oneCellFields P #[m0, m1, m2] = true) (i0 : P.underlying m0.type = some (.int .i64)) (i1 : P.underlying m1.type = some (.int .i64)) (i2 : P.underlying m2.type = some (.int .i64))
    (ht : P.underlying g1.type = some (.slice e)) (he : P.underlying e = some (.struct #[f0, f1])) (hone : oneCellFields P #[f0, f1] = true) (hCe : P.cellsOf e = 2) (h0 : P.underlying f0.type = some (.int .i64)) (h1 : P.underlying f1.type = some (.int .i64))
    (hv : Value.okWide P w r b0 t v) (h : DataW.Trod enc P w base spare held t v d p) :
    ∃ (a b x : Int) (A : Option Addr) (n c : Nat) (L : List Nd), v = .agg #[.int .i64 a, .int .i64 b, .int .i64 x, .slice A n c] ∧ (-9223372036854775808 ≤ a ∧ a ≤ 9223372036854775807) ∧ (-9223372036854775808 ≤ b ∧ b ≤ 9223372036854775807) ∧ (-9223372036854775808 ≤ x ∧ x ≤ 9223372036854775807) ∧ NodesAt w (.slice A n c) L ∧ NBds L ∧ n ≤ 9223372036854775807 := by
  obtain ⟨cs, rfl, hsz⟩ := okWide_struct hs hv
  obtain ⟨fuel, hf⟩ := h
  rw [hC] at hsz
  obtain ⟨l⟩ := cs
  obtain ⟨y0, y1, n', _, _, q0, q1⟩ := trod_struct2 hs hf
  rw [o0, k0] at q0
  rw [o1, k1] at q1
  match l, hsz with
  | [u0, u1, u2, u3], _ =>
    simp [Value.cells] at q0 q1
    obtain ⟨A, n, c, L, e3, hn, hb, hmm⟩ := nodes_of_trod ht he hone hCe h0 h1 q1
    obtain ⟨z0, z1, z2, n2, _, _, t0, t1, t2⟩ := trod_struct3 hm q0
    obtain ⟨p0, l0⟩ := hone_of hone3 0 m0 rfl
    obtain ⟨p1, l1⟩ := hone_of hone3 1 m1 rfl
    obtain ⟨p2, l2⟩ := hone_of hone3 2 m2 rfl
    rw [p0, l0] at t0
    rw [p1, l1] at t1
    rw [p2, l2] at t2
    simp at t0 t1 t2
    obtain ⟨a, e0, _, wa⟩ := DataW.trod_int i0 t0
    obtain ⟨b, e1, _, wb⟩ := DataW.trod_int i1 t1
    obtain ⟨x, e2, _, wx⟩ := DataW.trod_int i2 t2
    injection e0 with e0 _
    injection e1 with e1 _
    injection e2 with e2 _
    injection e3 with e3 _
    subst e0 e1 e2 e3
    exact ⟨a, b, x, A, n, c, L, rfl, int_bd wa, int_bd wb, int_bd wx, hn, hb, hmm⟩
end
end Go.Proofs.YtelekchdbiimiaaGreat
namespace Go.Proofs.YtelekchdbiimiaaGreat
open Go.ChangeShapes Go.WideShapes Go.ChangeAt Go.RowKit
set_option linter.unusedVariables false
end Go.Proofs.YtelekchdbiimiaaGreat
