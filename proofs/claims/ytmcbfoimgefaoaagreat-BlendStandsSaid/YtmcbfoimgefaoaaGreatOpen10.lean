/- Arguments that are structs of a struct of three whole numbers and of a slice of structs of such, and slices of those, opened. No program is spoken of here. -/
import Derived.Test.YtmcbfoimgefaoaaGreatOpen9
namespace Go.Proofs.YtmcbfoimgefaoaaGreat
set_option linter.unusedVariables false
open Go.RowKit Go.ChangeShapes Go.WideShapes Go.Deep Go.Joins

/-- a side: its conf (bits, k, kind), and its calls -/
structure SideX where
  l : Int
  k : Int
  kd : Int
  A : Option Addr
  n : Nat
  c : Nat
  O : List Pl
/-- its numbers are numbers, and its calls are there -/
def SideG (w : World) (s : SideX) : Prop := (-9223372036854775808 ≤ s.l ∧ s.l ≤ 9223372036854775807) ∧ (-9223372036854775808 ≤ s.k ∧ s.k ≤ 9223372036854775807) ∧ (-9223372036854775808 ≤ s.kd ∧ s.kd ≤ 9223372036854775807) ∧ PlacedAt w (.slice s.A s.n s.c) s.O ∧ OBds s.O ∧ s.n ≤ 9223372036854775807
instance : Inhabited SideX := ⟨⟨0, 0, 0, none, 0, 0, []⟩⟩
def sideCv (s : SideX) : List Value := [.int .i64 s.l, .int .i64 s.k, .int .i64 s.kd, .slice s.A s.n s.c]
/-- a slice of sides that is read -/
def SidesAt (w : World) (A : Option Addr) (S : List SideX) : Prop := ∀ i (h : i < S.length), ∃ b o, A = some ⟨b, o, none⟩ ∧ b < w.heap.size ∧ w.cell? ⟨b, o + i * 4, none⟩ = some (.int .i64 S[i].l) ∧ w.cell? ⟨b, o + i * 4 + 1, none⟩ = some (.int .i64 S[i].k) ∧ w.cell? ⟨b, o + i * 4 + 2, none⟩ = some (.int .i64 S[i].kd) ∧ w.cell? ⟨b, o + i * 4 + 3, none⟩ = some (.slice S[i].A S[i].n S[i].c)
theorem SidesAt.below {w w' : World} {A : Option Addr} {S : List SideX} (h : SidesAt w A S) (hb : Below w.heap.size w w') : SidesAt w' A S := fun i hi => by
  obtain ⟨b, o, e, hz, c0, c1, c2, c3⟩ := h i hi
  exact ⟨b, o, e, Nat.lt_of_lt_of_le hz hb.size, (hb.cell (p := ⟨b, o + i * 4, none⟩) hz).trans c0, (hb.cell (p := ⟨b, o + i * 4 + 1, none⟩) hz).trans c1, (hb.cell (p := ⟨b, o + i * 4 + 2, none⟩) hz).trans c2, (hb.cell (p := ⟨b, o + i * 4 + 3, none⟩) hz).trans c3⟩
theorem SideG.below {w w' : World} {s : SideX} (h : SideG w s) (hb : Below w.heap.size w w') : SideG w' s := ⟨h.1, h.2.1, h.2.2.1, h.2.2.2.1.below hb, h.2.2.2.2⟩
section
variable {H : Type} {enc : TypeId × Value → H} {P : Program} {w : World} {base : Nat} {spare : Nat → Bool} {held : Bool}
/-- cells that are read as a side -/
theorem side_of_trod {t ts e : TypeId} {g0 g1 f0 f1 f2 m0 m1 m2 : Field} {fuel : Nat} {cs : List Value} {x : DataW H × List MemPlace} (hcl : cs.length = 4) (hs : P.underlying t = some (.struct #[g0, g1])) (o0 : g0.offset = 0) (k0 : P.cellsOf g0.type = 3) (o1 : g1.offset = 3) (k1 : P.cellsOf g1.type = 1)
    (hm : P.underlying g0.type = some (.struct #[m0, m1, m2])) (hone3 : oneCellFields P #[m0, m1, m2] = true) (i0 : P.underlying m0.type = some (.int .i64)) (i1 : P.underlying m1.type = some (.int .i64)) (i2 : P.underlying m2.type = some (.int .i64))
    (ht : P.underlying g1.type = some (.slice e)) (he : P.underlying e = some (.struct #[f0, f1, f2])) (hone : oneCellFields P #[f0, f1, f2] = true) (hCe : P.cellsOf e = 3) (h0 : P.underlying f0.type = some (.int .i64)) (h1 : P.underlying f1.type = some (.int .i64)) (h2 : P.underlying f2.type = some (.int .i64))
    (hf : DataW.trod enc P w base spare held fuel t cs = some x) : ∃ s, cs = sideCv s ∧ SideG w s := by
  obtain ⟨y0, y1, n', _, _, q0, q1⟩ := trod_struct2 hs hf
  rw [o0, k0] at q0
  rw [o1, k1] at q1
  match cs, hcl with
  | [u0, u1, u2, u3], _ =>
    simp at q0 q1
    obtain ⟨A, n, c, L, e3, hn, hb, hmm⟩ := ops_of_trod ht he hone hCe h0 h1 h2 q1
    obtain ⟨z0, z1, z2, n2, _, _, t0, t1, t2⟩ := trod_struct3 hm q0
    obtain ⟨p0, l0⟩ := hone_of hone3 0 m0 rfl
    obtain ⟨p1, l1⟩ := hone_of hone3 1 m1 rfl
    obtain ⟨p2, l2⟩ := hone_of hone3 2 m2 rfl
    rw [p0, l0] at t0
    rw [p1, l1] at t1
    rw [p2, l2] at t2
    simp at t0 t1 t2
    obtain ⟨a, e0, _, wa⟩ := DataW.trod_int i0 t0
    obtain ⟨b, e1, _, wb⟩ := DataW.trod_int i1 t1
    obtain ⟨x, e2, _, wx⟩ := DataW.trod_int i2 t2
    injection e0 with e0 _
    injection e1 with e1 _
    injection e2 with e2 _
    injection e3 with e3 _
    subst e0 e1 e2 e3
    exact ⟨⟨a, b, x, A, n, c, L⟩, rfl, int_bd wa, int_bd wb, int_bd wx, hn, hb, hmm⟩
theorem open_side {r : Reach} {b0 : Nat} {t ts e : TypeId} {g0 g1 f0 f1 f2 m0 m1 m2 : Field} {v : Value} {d : DataW H} {p : List MemPlace} (hs : P.underlying t = some (.struct #[g0, g1])) (hC : P.cellsOf t = 4) (o0 : g0.offset = 0) (k0 : P.cellsOf g0.type = 3) (o1 : g1.offset = 3) (k1 : P.cellsOf g1.type = 1)
    (hm : P.underlying g0.type = some (.struct #[m0, m1, m2])) (hone3 : oneCellFields P #[m0, m1, m2] = true) (i0 : P.underlying m0.type = some (.int .i64)) (i1 : P.underlying m1.type = some (.int .i64)) (i2 : P.underlying m2.type = some (.int .i64))
    (ht : P.underlying g1.type = some (.slice e)) (he : P.underlying e = some (.struct #[f0, f1, f2])) (hone : oneCellFields P #[f0, f1, f2] = true) (hCe : P.cellsOf e = 3) (h0 : P.underlying f0.type = some (.int .i64)) (h1 : P.underlying f1.type = some (.int .i64)) (h2 : P.underlying f2.type = some (.int .i64))
    (hv : Value.okWide P w r b0 t v) (h : DataW.Trod enc P w base spare held t v d p) : ∃ s : SideX, v = .agg #[.int .i64 s.l, .int .i64 s.k, .int .i64 s.kd, .slice s.A s.n s.c] ∧ SideG w s := by
  obtain ⟨cs, rfl, hsz⟩ := okWide_struct hs hv
  obtain ⟨fuel, hf⟩ := h
  rw [hC] at hsz
  obtain ⟨l⟩ := cs
  obtain ⟨s, e1, g⟩ := side_of_trod (ts := ts) (show l.length = 4 from hsz) hs o0 k0 o1 k1 hm hone3 i0 i1 i2 ht he hone hCe h0 h1 h2 hf
  exact ⟨s, by rw [e1]; rfl, g⟩
theorem open_sides {r : Reach} {b0 : Nat} {tt t ts e : TypeId} {g0 g1 f0 f1 f2 m0 m1 m2 : Field} {v : Value} {d : DataW H} {p : List MemPlace} (htt : P.underlying tt = some (.slice t)) (hs : P.underlying t = some (.struct #[g0, g1])) (hC : P.cellsOf t = 4) (o0 : g0.offset = 0) (k0 : P.cellsOf g0.type = 3) (o1 : g1.offset = 3) (k1 : P.cellsOf g1.type = 1)
    (hm : P.underlying g0.type = some (.struct #[m0, m1, m2])) (hone3 : oneCellFields P #[m0, m1, m2] = true) (i0 : P.underlying m0.type = some (.int .i64)) (i1 : P.underlying m1.type = some (.int .i64)) (i2 : P.underlying m2.type = some (.int .i64))
    (ht : P.underlying g1.type = some (.slice e)) (he : P.underlying e = some (.struct #[f0, f1, f2])) (hone : oneCellFields P #[f0, f1, f2] = true) (hCe : P.cellsOf e = 3) (h0 : P.underlying f0.type = some (.int .i64)) (h1 : P.underlying f1.type = some (.int .i64)) (h2 : P.underlying f2.type = some (.int .i64))
    (hv : Value.okWide P w r b0 tt v) (h : DataW.Trod enc P w base spare held tt v d p) : ∃ (A : Option Addr) (n c : Nat) (S : List SideX), v = .slice A n c ∧ S.length = n ∧ SidesAt w A S ∧ (∀ s ∈ S, SideG w s) ∧ n ≤ 9223372036854775807 := by
  obtain ⟨A, n, c, rfl⟩ := okWide_slice htt hv
  obtain ⟨fuel, hf⟩ := h
  rcases open_slice htt hf with ⟨hcs, _⟩ | ⟨ad, len, cap, m, k, D, Pq, hcs, _, hl, hmx, hmm, _, hi⟩
  · simp [Value.cells] at hcs
    obtain ⟨rfl, rfl, rfl⟩ := hcs
    exact ⟨none, 0, 0, [], rfl, rfl, fun i h => by simp at h, fun s h => by simp at h, by omega⟩
  · simp [Value.cells] at hcs
    obtain ⟨rfl, rfl, rfl⟩ := hcs
    have hnm : n ≤ m := by rw [hmm]; split <;> omega
    have key : ∀ i, i < n → ∃ q : SideX, (w.cell? (ad.add (i * 4)) = some (.int .i64 q.l) ∧ w.cell? (ad.add (i * 4 + 1)) = some (.int .i64 q.k) ∧ w.cell? (ad.add (i * 4 + 2)) = some (.int .i64 q.kd) ∧ w.cell? (ad.add (i * 4 + 3)) = some (.slice q.A q.n q.c)) ∧ SideG w q := by
      intro i hin
      obtain ⟨cs', hc, ht'⟩ := hi i (by omega)
      rw [hC] at hc
      obtain ⟨_, hcl, hat⟩ := World.cells?_some hc
      obtain ⟨s, e1, g⟩ := side_of_trod (ts := ts) hcl hs o0 k0 o1 k1 hm hone3 i0 i1 i2 ht he hone hCe h0 h1 h2 ht'
      subst e1
      refine ⟨s, ⟨?_, ?_, ?_, ?_⟩, g⟩
      · have := hat 0 (by omega)
        rw [add_add] at this; simpa [sideCv] using this
      · have := hat 1 (by omega)
        rw [add_add] at this; simpa [sideCv] using this
      · have := hat 2 (by omega)
        rw [add_add] at this; simpa [sideCv] using this
      · have := hat 3 (by omega)
        rw [add_add] at this; simpa [sideCv] using this
    obtain ⟨q, hq⟩ := choose_lt key
    refine ⟨some ad, n, c, (List.range n).map fun k => q k, rfl, by simp, fun i hi => ?_, fun y hy => ?_, by unfold maxLen at hmx; omega⟩
    · have hin : i < n := by simpa using hi
      have hg : ((List.range n).map fun k => q k)[i] = q i := by simp
      have hsp := World.cell?_spot (hq 0 (by omega)).1.1
      have hlt : ad.block < w.heap.size := by
        have hc := (hq 0 (by omega)).1.1
        rw [Nat.zero_mul] at hc
        have e0 : ad.add 0 = ad := by simp [Addr.add]
        rw [e0] at hc
        rcases Nat.lt_or_ge ad.block w.heap.size with g | g
        · exact g
        · simp [World.cell?, Array.getElem?_eq_none g] at hc
      rw [Nat.zero_mul] at hsp
      have e0 : ad.add 0 = ad := by simp [Addr.add]
      rw [e0] at hsp
      obtain ⟨b, o, s⟩ := ad
      dsimp only at hsp
      subst hsp
      have ea : ∀ i, (⟨b, o, none⟩ : Addr).add i = ⟨b, o + i, none⟩ := by
        intro i; unfold Addr.add; split
        · rename_i h; subst h; rfl
        · rfl
      have h2 := (hq i hin).1
      rw [ea, ea, ea, ea] at h2
      rw [hg]
      exact ⟨b, o, rfl, hlt, h2.1, by rw [Nat.add_assoc]; exact h2.2.1, by rw [Nat.add_assoc]; exact h2.2.2.1, by rw [Nat.add_assoc]; exact h2.2.2.2⟩
    · obtain ⟨k, hk, rfl⟩ := List.mem_map.1 hy
      exact (hq k (by simpa using hk)).2
end

end Go.Proofs.YtmcbfoimgefaoaaGreat
