/- The project's package pool: Turn: a pool of that kind with the same nodes, on its own. -/
import Derived.Test.YtfilmblpikcpnaaGreatPoEach
namespace Go.Proofs.YtfilmblpikcpnaaGreat
set_option linter.unusedVariables false
set_option maxRecDepth 100000
open Go.RowKit Go.Shelf
attribute [local go_sem] Oper.semAt_some

/-- nodes added, one behind the other -/
def foldA (l : Int) (pre : List Nd) : List Nd := pre.foldl (fun M x => addS l M (wrap64 x.1) (wrap64 x.2)) []
theorem foldA_snoc (l : Int) (pre : List Nd) (x : Nd) : foldA l (pre ++ [x]) = addS l (foldA l pre) (wrap64 x.1) (wrap64 x.2) := by simp [foldA]
theorem foldA_take {l : Int} {L : List Nd} (h : RollC l L) : ∀ k, k ≤ L.length → foldA l (L.take k) = L.take k := by
  intro k
  induction k with
  | zero => intro _; simp [foldA]
  | succ k ih =>
    intro hk
    have hb := nbds_roll h _ (nd_mem (show k < L.length by omega))
    have a := add_take h (show k < L.length by omega)
    rw [nd_take (show k < L.length by omega), foldA_snoc, ih (by omega), wrap_in hb.1.1 hb.1.2, wrap_in hb.2.1 hb.2.2, a.1, nd_take (show k < L.length by omega)]
theorem foldA_all {l : Int} {L : List Nd} (h : RollC l L) : foldA l L = L := by
  have := foldA_take h L.length (Nat.le_refl _)
  rwa [List.take_of_length_le (Nat.le_refl _)] at this
theorem box1 (w : World) (TO : TypeId) (a : Value) : (w.alloc (.cells #[a] TO)).ownsRow w.heap.size TO 1 (.slice (some ⟨w.heap.size, 0, none⟩) 1 1) 1 [a] :=
  World.ownsRow_lit (base := w.heap.size) (e := TO) (size := 1) w #[a] 1 (Nat.le_refl _) (by unfold maxLen; omega) rfl
/-- a row is kept while others than cells turn -/
theorem row_grown {W W' : World} {row : Option Nat} {base : Nat} {e : TypeId} {size n : Nat} {v : Value} {xs : List Value} (o : W.ownsRow base e size v n xs) (hg : W.grownBy W' row) (hr : ∀ r, row = some r → ∃ o : Obj, W.heap[r]? = some o ∧ o.isCells = false) : W'.ownsRow base e size v n xs := by
  rcases o.2 with q | ⟨g, cap, cur, rfl, hb, hgg, rest⟩
  · exact o.kept hg (.inl (by rw [q.1]; rfl))
  · refine o.kept hg (.inr ?_)
    intro he
    obtain ⟨ob, h1, h2⟩ := hr g (by simpa [Value.ownBlock] using he.symm)
    rw [hgg] at h1
    injection h1 with h1
    rw [← h1] at h2
    cases h2
theorem PoA.grown {W W' : World} {row : Option Nat} {B p g h : Nat} {kd l : Int} {n : Nat} {L : List Nd} (d : PoA W B p g h kd l n L) (hg : W.grownBy W' row) (hr : ∀ r, row = some r → ∃ o : Obj, W.heap[r]? = some o ∧ o.isCells = false) : PoA W' B p g h kd l n L :=
  ⟨d.roll, d.len, d.st.imp (fun ⟨a, b, c, e⟩ => ⟨a, b, row_grown c hg hr, ⟨row_grown e.top hg hr, row_grown e.row hg hr, e.ne⟩⟩)
    (fun ⟨a, c, b, S, e, t, z⟩ => ⟨a, row_grown c hg hr, b, S, ⟨row_grown e.top hg hr, row_grown e.row hg hr, e.ne⟩, t, z⟩)⟩
def jdK (kd : Int) : Nat := if kd = 1 then 3 else 4
theorem PoA.slots {W : World} {B p g h : Nat} {kd l : Int} {n : Nat} {L : List Nd} (d : PoA W B p g h kd l n L) : (∃ v, W.cell? ⟨g, 0, none⟩ = some v) ∧ ∃ m c, W.cell? ⟨g, jdK kd, none⟩ = some (.slice (some ⟨h, 0, none⟩) m c) := by
  rcases d.st with ⟨hk, _, _, e⟩ | ⟨hk, _, b, S, e, _⟩
  · have c := e.cells
    rw [jdK, if_pos hk]
    exact ⟨⟨_, c.1⟩, _, _, c.2.2.2⟩
  · have c := e.cells
    rw [jdK, if_neg (by omega)]
    exact ⟨⟨_, c.1⟩, _, _, c.2.2.2.2⟩
theorem row_obj {W : World} {base : Nat} {e : TypeId} {size n g : Nat} {m c : Nat} {xs : List Value} (o : W.ownsRow base e size (.slice (some ⟨g, 0, none⟩) m c) n xs) : ∃ ob : Obj, W.heap[g]? = some ob ∧ ob.isCells = true := by
  rcases o.2 with ⟨hv, _⟩ | ⟨g', cap, cur, hv, _, hgg, _⟩
  · cases hv
  · injection hv with e1
    injection e1 with e1
    injection e1 with e1
    subst e1
    exact ⟨_, hgg, rfl⟩
theorem PoA.objs {W : World} {B p g h : Nat} {kd l : Int} {n : Nat} {L : List Nd} (d : PoA W B p g h kd l n L) : (∃ ob : Obj, W.heap[g]? = some ob ∧ ob.isCells = true) ∧ ∃ ob : Obj, W.heap[h]? = some ob ∧ ob.isCells = true := by
  rcases d.st with ⟨hk, _, _, e⟩ | ⟨hk, _, b, S, e, _⟩
  · exact ⟨row_obj e.top, row_obj e.row⟩
  · exact ⟨row_obj e.top, row_obj e.row⟩
/-- what is written at a pool's store turns cells alone -/
theorem PoA.keepsOthers {W W' : World} {B p g h : Nat} {kd l : Int} {n : Nat} {L : List Nd} (d : PoA W B p g h kd l n L) (c : Chg g h W W') : KeepsOthers W W' :=
  ⟨c.size, fun k o hk ho => by
    obtain ⟨⟨a, ha, ha2⟩, ⟨b, hb, hb2⟩⟩ := d.objs
    refine (c.block k (Array.getElem?_eq_some_iff.1 hk).1 (fun e => ?_) (fun e => ?_)).trans hk
    · subst e; rw [ha] at hk; injection hk with hk; rw [hk, ho] at ha2; cases ha2
    · subst e; rw [hb] at hk; injection hk with hk; rw [hk, ho] at hb2; cases hb2⟩
theorem keepsOthers_below {W W' : World} (hb : Below W.heap.size W W') : KeepsOthers W W' :=
  ⟨hb.size, fun k o hk _ => (hb.block k (Array.getElem?_eq_some_iff.1 hk).1).trans hk⟩
/-- blocks that the store g of a pool does not write -/
def FrP (g j : Nat) (W : World) (k : Nat) : Prop := (∃ o : Obj, W.heap[k]? = some o ∧ o.isCells = true) ∧ k ≠ g ∧ (∃ v, W.cell? ⟨g, 0, none⟩ = some v) ∧ ∀ m c, W.cell? ⟨g, j, none⟩ ≠ some (.slice (some ⟨k, 0, none⟩) m c)
theorem frP (g j : Nat) : Frm (FrP g j) := by
  refine ⟨fun h => h.1, fun {W W' row k} hg hr h => ?_⟩
  obtain ⟨⟨o, ho, hc⟩, hk, ⟨v, hv⟩, hs⟩ := h
  have e1 : W'.heap[k]? = W.heap[k]? := hg.block k (Array.getElem?_eq_some_iff.1 ho).1 (fun e => by
    obtain ⟨ob, h1, h2⟩ := hr k e.symm
    rw [ho] at h1; injection h1 with h1; rw [← h1, hc] at h2; cases h2)
  obtain ⟨og, hog, hogc⟩ := cells_of_cell hv
  have e2 : W'.heap[g]? = W.heap[g]? := hg.block g (Array.getElem?_eq_some_iff.1 hog).1 (fun e => by
    obtain ⟨ob, h1, h2⟩ := hr g e.symm
    rw [hog] at h1; injection h1 with h1; rw [← h1, hogc] at h2; cases h2)
  refine ⟨⟨o, e1.trans ho, hc⟩, hk, ⟨v, (World.cell?_of_block (a := ⟨g, 0, none⟩) e2).trans hv⟩, fun m c => ?_⟩
  rw [World.cell?_of_block (a := ⟨g, j, none⟩) e2]
  exact hs m c
/-- the pool's own call leaves such blocks -/
theorem PoA.kpF {W W' : World} {B p g h h2 : Nat} {kd l : Int} {n n2 : Nat} {L M : List Nd} (d : PoA W B p g h kd l n L) (d2 : PoA W' B p g h2 kd l n2 M) (c : Chg g h W W') (hh : h2 = h ∨ W.heap.size ≤ h2) : KpF (FrP g (jdK kd)) W W' := by
  refine ⟨c.size, fun k hk hf => ?_⟩
  obtain ⟨⟨o, ho, hc⟩, hkg, _, hs⟩ := hf
  obtain ⟨_, m, cc, hsl⟩ := d.slots
  obtain ⟨hv2, m2, cc2, hsl2⟩ := d2.slots
  have hkh : k ≠ h := fun e => by subst e; exact hs _ _ hsl
  have e1 := c.block k hk hkg hkh
  refine ⟨e1, ⟨o, e1.trans ho, hc⟩, hkg, hv2, fun m' c' hq => ?_⟩
  rw [hsl2] at hq
  injection hq with hq
  injection hq with hq
  injection hq with hq
  injection hq with hq
  rcases hh with e | e
  · exact hkh (by omega)
  · omega
end Go.Proofs.YtfilmblpikcpnaaGreat
