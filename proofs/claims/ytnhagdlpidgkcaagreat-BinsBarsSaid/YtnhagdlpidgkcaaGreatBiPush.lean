/- A captured row that grows within a loop over a function: what such a round leaves. No program is spoken of here. -/
import Derived.Test.YtnhagdlpidgkcaaGreatPoQ
import Derived.Test.YtnhagdlpidgkcaaGreatMmy
namespace Go.Proofs.YtnhagdlpidgkcaaGreat
set_option linter.unusedVariables false
set_option maxRecDepth 100000
open Go.RowKit Go.Shelf
/-- what lies behind a round that puts elements to a captured row, whose slice stands in the box gw -/
structure BiPu (TB TI : TypeId) (size : Nat) (B gw : Nat) (W W' : World) (v : Value) (n : Nat) (xs : List Value) (Z : World) : Prop where
  others : KeepsOthers W W'
  kept : KpF (FrP gw 0) W W'
  top : ∃ v, W'.ownsRow B TB 1 (.slice (some ⟨gw, 0, none⟩) 1 1) 1 [v] ∧ W'.ownsRow B TI size v n xs
  below : Below B Z W'
  kp : Kp (fun b => b = gw ∨ v.ownBlock = some b) W W'
theorem biPush {TB TI : TypeId} {size B gw n k g cap : Nat} {W v2 w4 Z : World} {v : Value} {xs news : List Value} {o : Obj} (ht : TB ≠ TI)
    (HR : W.ownsRow B TB 1 (.slice (some ⟨gw, 0, none⟩) 1 1) 1 [v]) (HO : W.ownsRow B TI size v n xs) (HZ : Below B Z W) (hB : B ≤ Z.heap.size)
    (h2 : Below W.heap.size W v2) (hown : w4.ownsRow B TI size (.slice (some ⟨g, 0, none⟩) (n + k) cap) (n + k) (xs ++ news)) (hg : (v2.alloc o).grownBy w4 v.ownBlock) (hat : v.ownBlock = some g ∨ g = v2.heap.size + 1) :
    w4.cell? ⟨gw, 0, none⟩ = some v ∧ w4.frozen? ⟨gw, 0, none⟩ = false ∧ gw < w4.heap.size ∧ (∀ b, b ≠ gw → b < W.heap.size → v.ownBlock ≠ some b → w4.heap[b]? = W.heap[b]?) ∧
      BiPu TB TI size B gw W (w4.setCell ⟨gw, 0, none⟩ (.slice (some ⟨g, 0, none⟩) (n + k) cap)) v (n + k) (xs ++ news) Z := by
  have hne : ∀ b, v.ownBlock = some b → b ≠ gw := fun b e q => by
    rcases own_apart HR HO ht with r | r
    · simp [Value.ownBlock] at r
    · exact r (by rw [e, q]; rfl)
  have zz := HZ.size
  have z2 := h2.size
  have ha : Below W.heap.size W (v2.alloc o) := h2.alloc z2 o
  have hk1 : Kp (fun b => v.ownBlock = some b) W w4 := (Kp.of (F := fun b => v.ownBlock = some b) ha).trans (Kp.grown hg) (fun b _ h => h.symm)
  have TOP1 := own_kp HR hk1 (fun b e h => hne b h (by simp [Value.ownBlock] at e; exact e.symm))
  have c1 := TOP1.cellAt 0 (by omega)
  have f1 := TOP1.frozenAt 0
  have l1 := (TOP1.lt _ rfl).2
  have ST := TOP1.stored 0 (.slice (some ⟨g, 0, none⟩) (n + k) cap)
  have c0 : W.cell? ⟨gw, 0, none⟩ = some v := HR.cellAt 0 (by omega)
  have c4 := ST.1.cellAt 0 (by omega)
  have HK4 : Kp (fun b => b = gw ∨ v.ownBlock = some b) W (w4.setCell ⟨gw, 0, none⟩ (.slice (some ⟨g, 0, none⟩) (n + k) cap)) := (hk1.mono (fun b _ h => .inr h)).trans (Kp.setCell w4 ⟨gw, 0, none⟩ _) (fun b hk h => .inl h)
  have HA : At2 W v (.slice (some ⟨g, 0, none⟩) (n + k) cap) := fun b e => by
    have e : g = b := by simpa [Value.ownBlock] using e
    subst e
    exact hat.imp id (fun q => by omega)
  have vcell : ∀ b, v.ownBlock = some b → ∃ ob : Obj, W.heap[b]? = some ob ∧ ob.isCells = true := fun b e => by
    obtain ⟨A, m, c, rfl⟩ := own_slice HO
    rcases HO.2 with ⟨hv, _⟩ | ⟨g', cap', cur, hv, _, hgg, _⟩
    · cases hv; cases e
    · injection hv with e1
      subst e1
      have e : g' = b := by simpa [Value.ownBlock] using e
      subst e
      exact ⟨_, hgg, rfl⟩
  refine ⟨c1, f1, l1, fun b h1 h3 h4 => hk1.block b h3 h4, ⟨?_, ?_, ⟨_, ST.1, ?_⟩, ?_, HK4⟩⟩
  · refine ⟨HK4.size, fun b ob hb ho => ?_⟩
    refine (HK4.block b (Array.getElem?_eq_some_iff.1 hb).1 (fun e => ?_)).trans hb
    rcases e with e | e
    · subst e
      obtain ⟨og, hog, hogc⟩ := cells_of_cell c0
      rw [hog] at hb; injection hb with hb; rw [hb, ho] at hogc; cases hogc
    · obtain ⟨og, hog, hogc⟩ := vcell b e
      rw [hog] at hb; injection hb with hb; rw [hb, ho] at hogc; cases hogc
  · refine ⟨HK4.size, fun b hlt hf => ?_⟩
    obtain ⟨⟨ob, ho, hcc⟩, hkq, _, hs⟩ := hf
    have hv : v.ownBlock ≠ some b := fun e => by
      obtain ⟨A, m, c, rfl⟩ := own_slice HO
      rcases HO.2 with ⟨hv, _⟩ | ⟨g', cap', cur, hv, _, hgg, _⟩
      · cases hv; cases e
      · injection hv with e1
        subst e1
        have e : g' = b := by simpa [Value.ownBlock] using e
        subst e
        exact hs _ _ c0
    have e1 := HK4.block b hlt (fun e => e.elim hkq hv)
    refine ⟨e1, ⟨ob, e1.trans ho, hcc⟩, hkq, ⟨_, c4⟩, fun m c he => ?_⟩
    rw [c4] at he
    injection he with he
    rcases HA b (by rw [he]; rfl) with q1 | q1
    · exact hv q1
    · omega
  · refine own_kp hown (Kp.setCell w4 ⟨gw, 0, none⟩ _) (fun b e h => ?_)
    rcases own_apart TOP1 hown ht with r | r
    · simp [Value.ownBlock] at r
    · exact r (by rw [e, h]; rfl)
  · exact HZ.trans (HK4.below (fun b hk h => by
      rcases h with h | h
      · have := (World.ownsRow.lt HR gw rfl).1; omega
      · exact (World.ownsRow.lt HO b h).1) (by omega))
theorem frP_of {W : World} {gw b o : Nat} {v : Value} (hc : W.cell? ⟨b, o, none⟩ = some v) (hne : b ≠ gw) (hw : W.cell? ⟨gw, 0, none⟩ = some (.slice none 0 0)) : FrP gw 0 W b :=
  ⟨cells_of_cell hc, hne, ⟨_, hw⟩, fun m c he => by rw [hw] at he; injection he with he; injection he with he; cases he⟩
/-- a box of another type stays as it is behind such a round -/
theorem BiPu.box {TB TI TD : TypeId} {size B gw n dx B2 : Nat} {W W' Z : World} {v u : Value} {m : Nat} {ys xs : List Value} (h : BiPu TB TI size B gw W W' v n xs Z) (HO : W.ownsRow B TI size v m ys) (HD : W.ownsRow B2 TD 1 (.slice (some ⟨dx, 0, none⟩) 1 1) 1 [u]) (t : TD ≠ TI) (hd : dx ≠ gw) : W'.ownsRow B2 TD 1 (.slice (some ⟨dx, 0, none⟩) 1 1) 1 [u] := by
  refine own_kp HD h.kp fun g e q => ?_
  have e : dx = g := by simpa [Value.ownBlock] using e
  subst e
  rcases q with q | q
  · exact hd q
  · rcases own_apart HD HO t with r | r
    · simp [Value.ownBlock] at r
    · exact r (by rw [q]; rfl)
end Go.Proofs.YtnhagdlpidgkcaaGreat
