/- Arguments that are structs of three whole numbers, and arrays of two slices of such, opened. No program is spoken of here. -/
import Derived.Test.YtmcbfoimgefaoaaGreatDrQ
namespace Go.Proofs.YtmcbfoimgefaoaaGreat
set_option linter.unusedVariables false
open Go.RowKit Go.ChangeShapes Go.WideShapes Go.Deep Go.Joins

section
variable {H : Type} {enc : TypeId × Value → H} {P : Program} {w : World} {base : Nat} {spare : Nat → Bool} {held : Bool}
/-- a struct of three whole numbers -/
theorem open_conf {r : Reach} {b0 : Nat} {t : TypeId} {f0 f1 f2 : Field} {v : Value} {d : DataW H} {p : List MemPlace} (hs : P.underlying t = some (.struct #[f0, f1, f2])) (hone : oneCellFields P #[f0, f1, f2] = true) (hC : P.cellsOf t = 3)
    (h0 : P.underlying f0.type = some (.int .i64)) (h1 : P.underlying f1.type = some (.int .i64)) (h2 : P.underlying f2.type = some (.int .i64)) (hv : Value.okWide P w r b0 t v) (h : DataW.Trod enc P w base spare held t v d p) :
    ∃ a b c, v = .agg #[.int .i64 a, .int .i64 b, .int .i64 c] ∧ (Lit.int .i64 a).wf = true ∧ (Lit.int .i64 b).wf = true ∧ (Lit.int .i64 c).wf = true := by
  obtain ⟨v0, v1, v2, y0, y1, y2, n, rfl, _, _, g0, g1, g2⟩ := open_agg3 hs hone hC hv h
  obtain ⟨a, e0, _, wa⟩ := DataW.trod_int h0 g0
  obtain ⟨b, e1, _, wb⟩ := DataW.trod_int h1 g1
  obtain ⟨c, e2, _, wc⟩ := DataW.trod_int h2 g2
  injection e0 with e0 _
  injection e1 with e1 _
  injection e2 with e2 _
  subst e0 e1 e2
  exact ⟨a, b, c, rfl, wa, wb, wc⟩
theorem list_two9 {α : Type} (l : List α) (h : l.length = 2) : ∃ a b, l = [a, b] := by
  match l, h with
  | [a, b], _ => exact ⟨a, b, rfl⟩
/-- cells that are read as a slice of structs of three whole numbers -/
theorem ops_of_trod {t e : TypeId} {f0 f1 f2 : Field} {fuel : Nat} {cs : List Value} {x : DataW H × List MemPlace} (ht : P.underlying t = some (.slice e)) (hs : P.underlying e = some (.struct #[f0, f1, f2])) (hone : oneCellFields P #[f0, f1, f2] = true) (hC : P.cellsOf e = 3)
    (h0 : P.underlying f0.type = some (.int .i64)) (h1 : P.underlying f1.type = some (.int .i64)) (h2 : P.underlying f2.type = some (.int .i64)) (hf : DataW.trod enc P w base spare held fuel t cs = some x) :
    ∃ (A : Option Addr) (n c : Nat) (L : List Pl), cs = [.slice A n c] ∧ PlacedAt w (.slice A n c) L ∧ OBds L ∧ n ≤ 9223372036854775807 := by
  rcases open_slice ht hf with ⟨hcs, _⟩ | ⟨ad, n, c, m, k, D, Pq, hcs, _, hl, hm, hmm, _, hi⟩
  · subst hcs
    exact ⟨none, 0, 0, [], rfl, placed_nil w, fun n h => by simp at h, by omega⟩
  · subst hcs
    have hnm : n ≤ m := by rw [hmm]; split <;> omega
    have key : ∀ i, i < n → ∃ q : Pl, (w.cell? (ad.add (i * 3)) = some (.int .i64 q.1.1) ∧ w.cell? (ad.add (i * 3 + 1)) = some (.int .i64 q.1.2) ∧ w.cell? (ad.add (i * 3 + 2)) = some (.int .i64 q.2)) ∧ (Lit.int .i64 q.1.1).wf = true ∧ (Lit.int .i64 q.1.2).wf = true ∧ (Lit.int .i64 q.2).wf = true := by
      intro i hin
      obtain ⟨cs', hc, ht'⟩ := hi i (by omega)
      rw [hC] at hc
      obtain ⟨_, hcl, hat⟩ := World.cells?_some hc
      obtain ⟨y0, y1, y2, n', _, _, g0, g1, g2⟩ := trod_struct3 hs ht'
      obtain ⟨o0, k0⟩ := hone_of hone 0 f0 rfl
      obtain ⟨o1, k1⟩ := hone_of hone 1 f1 rfl
      obtain ⟨o2, k2⟩ := hone_of hone 2 f2 rfl
      rw [o0, k0] at g0
      rw [o1, k1] at g1
      rw [o2, k2] at g2
      match cs', hcl with
      | [u, v, z], _ =>
        obtain ⟨a, e0, _, wa⟩ := DataW.trod_int h0 g0
        obtain ⟨b, e1, _, wb⟩ := DataW.trod_int h1 g1
        obtain ⟨c, e2, _, wc⟩ := DataW.trod_int h2 g2
        simp at e0 e1 e2
        subst e0 e1 e2
        refine ⟨((a, b), c), ⟨?_, ?_, ?_⟩, wa, wb, wc⟩
        · have := hat 0 (by omega)
          rw [add_add] at this; simpa using this
        · have := hat 1 (by omega)
          rw [add_add] at this; simpa using this
        · have := hat 2 (by omega)
          rw [add_add] at this; simpa using this
    obtain ⟨q, hq⟩ := choose_lt key
    have hLl : ((List.range n).map fun k => q k).length = n := by simp
    have hLk : ∀ k, k < n → ((List.range n).map fun k => q k).getD k plz = q k := fun k hk => by
      simp [List.getD_eq_getElem?_getD, hk]
    refine ⟨some ad, n, c, (List.range n).map fun k => q k, rfl, ⟨some ad, c, by rw [hLl], by rw [hLl]; exact hl, hm, fun e => by simp at e, fun h0 => ?_⟩, fun y hy => ?_, by unfold maxLen at hm; omega⟩
    · rw [hLl] at h0
      have hsp := World.cell?_spot (hq 0 h0).1.1
      have hlt : ad.block < w.heap.size := by
        have hc := (hq 0 h0).1.1
        rw [Nat.zero_mul] at hc
        have e0 : ad.add 0 = ad := by simp [Addr.add]
        rw [e0] at hc
        rcases Nat.lt_or_ge ad.block w.heap.size with g | g
        · exact g
        · simp [World.cell?, Array.getElem?_eq_none g] at hc
      rw [Nat.zero_mul] at hsp
      have e0 : ad.add 0 = ad := by simp [Addr.add]
      rw [e0] at hsp
      obtain ⟨b, o, s⟩ := ad
      dsimp only at hsp
      subst hsp
      have ea : ∀ i, (⟨b, o, none⟩ : Addr).add i = ⟨b, o + i, none⟩ := by
        intro i; unfold Addr.add; split
        · rename_i h; subst h; rfl
        · rfl
      refine ⟨b, o, rfl, hlt, fun k hk => ?_⟩
      rw [hLl] at hk
      have h2 := (hq k hk).1
      rw [ea, ea, ea] at h2
      rw [hLk k hk]
      exact ⟨h2.1, by rw [Nat.add_assoc]; exact h2.2.1, by rw [Nat.add_assoc]; exact h2.2.2⟩
    · obtain ⟨k, hk, rfl⟩ := List.mem_map.1 hy
      have hk' : k < n := by simpa using hk
      exact ⟨int_bd (hq k hk').2.1, int_bd (hq k hk').2.2.1, int_bd (hq k hk').2.2.2⟩
theorem open_ops2 {r : Reach} {b0 : Nat} {t s e : TypeId} {f0 f1 f2 : Field} {v : Value} {d : DataW H} {p : List MemPlace} (ht : P.underlying t = some (.array 2 s)) (hts : P.underlying s = some (.slice e)) (hs : P.underlying e = some (.struct #[f0, f1, f2])) (hone : oneCellFields P #[f0, f1, f2] = true) (hC : P.cellsOf e = 3)
    (h0 : P.underlying f0.type = some (.int .i64)) (h1 : P.underlying f1.type = some (.int .i64)) (h2 : P.underlying f2.type = some (.int .i64)) (hcs : P.cellsOf s = 1) (hct : P.cellsOf t = 2) (hv : Value.okWide P w r b0 t v) (h : DataW.Trod enc P w base spare held t v d p) :
    ∃ (A : Option Addr) (n c : Nat) (L : List Pl) (A2 : Option Addr) (n2 c2 : Nat) (L2 : List Pl), v = .agg #[.slice A n c, .slice A2 n2 c2] ∧ PlacedAt w (.slice A n c) L ∧ OBds L ∧ n ≤ 9223372036854775807 ∧ PlacedAt w (.slice A2 n2 c2) L2 ∧ OBds L2 ∧ n2 ≤ 9223372036854775807 := by
  unfold Value.okWide at hv
  rw [ht] at hv
  obtain ⟨cs, rfl, hsz, _⟩ := hv
  obtain ⟨fuel, hf⟩ := h
  obtain ⟨xs, m, _, _, hlen, hxs, hel⟩ := DataW.trod_array ht hf
  simp only [Value.cells] at hlen hel
  rw [hct] at hsz hlen
  have key : ∀ i, i < 2 → ∃ (A : Option Addr) (n c : Nat) (L : List Pl), cs.toList[i]? = some (.slice A n c) ∧ PlacedAt w (.slice A n c) L ∧ OBds L ∧ n ≤ 9223372036854775807 := by
    intro i hi
    have g := hel i hi
    rw [hcs, Nat.mul_one] at g
    have hx : i < xs.length := by omega
    rw [List.getElem?_eq_getElem hx] at g
    obtain ⟨A, n, c, L, e1, q1, q2, q3⟩ := ops_of_trod hts hs hone hC h0 h1 h2 g
    refine ⟨A, n, c, L, ?_, q1, q2, q3⟩
    have e2 : (cs.toList.drop i)[0]? = some (.slice A n c) := by
      have := congrArg (fun l => l[0]?) e1
      simpa [List.getElem?_take] using this
    simpa using e2
  obtain ⟨A, n, c, L, e1, q1, q2, q3⟩ := key 0 (by omega)
  obtain ⟨A2, n2, c2, L2, e4, q4, q5, q6⟩ := key 1 (by omega)
  refine ⟨A, n, c, L, A2, n2, c2, L2, ?_, q1, q2, q3, q4, q5, q6⟩
  congr 1
  apply Array.ext'
  obtain ⟨a, b, e⟩ := list_two9 cs.toList (by rw [Array.length_toList]; exact hsz)
  rw [e] at e1 e4 ⊢
  simp at e1 e4
  rw [e1, e4]
end

end Go.Proofs.YtmcbfoimgefaoaaGreat
