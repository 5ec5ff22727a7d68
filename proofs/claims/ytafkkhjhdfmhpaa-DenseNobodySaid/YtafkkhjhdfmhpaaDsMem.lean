/- A store that lies in memory: a block of four cells (its bits, its nodes, its weights together, its places), and a row of whole numbers of which a node's place holds its weight; what is kept of both, and of all else, while one of them is written. No program is spoken of here. -/
import Derived.Test.YtafkkhjhdfmhpaaNdFold
import Derived.Test.YtafkkhjhdfmhpaaTiMem
import Derived.Test.YtafkkhjhdfmhpaaStNum
namespace Go.Proofs.Ytafkkhjhdfmhpaa
set_option linter.unusedVariables false
open Go.RowKit

/-- but for the blocks g and h, what was there is as it was -/
structure Chg (g h : Nat) (w w' : World) : Prop where
  os : w'.os = w.os
  tape : w'.tape = w.tape
  output : w'.output = w.output
  size : w.heap.size ≤ w'.heap.size
  block : ∀ k, k < w.heap.size → k ≠ g → k ≠ h → w'.heap[k]? = w.heap[k]?
theorem Chg.of {g h : Nat} {w w' : World} (hb : Below w.heap.size w w') : Chg g h w w' := ⟨hb.os, hb.tape, hb.output, hb.size, fun k hk _ _ => hb.block k hk⟩
theorem Chg.refl (g h : Nat) (w : World) : Chg g h w w := ⟨rfl, rfl, rfl, Nat.le_refl _, fun _ _ _ _ => rfl⟩
theorem Chg.trans {g h : Nat} {a b c : World} (p : Chg g h a b) (q : Chg g h b c) : Chg g h a c :=
  ⟨q.os.trans p.os, q.tape.trans p.tape, q.output.trans p.output, Nat.le_trans p.size q.size, fun k hk h1 h2 => (q.block k (Nat.lt_of_lt_of_le hk p.size) h1 h2).trans (p.block k hk h1 h2)⟩
theorem Chg.grown_g {g h : Nat} {w w' : World} (hg : w.grownBy w' (some g)) : Chg g h w w' := ⟨hg.os, hg.tape, hg.output, hg.size, fun k hk h1 _ => hg.block k hk (by simpa using h1)⟩
theorem Chg.grown_h {g h : Nat} {w w' : World} (hg : w.grownBy w' (some h)) : Chg g h w w' := ⟨hg.os, hg.tape, hg.output, hg.size, fun k hk _ h2 => hg.block k hk (by simpa using h2)⟩
theorem Chg.below {g h B : Nat} {w w' : World} (c : Chg g h w w') (h1 : B ≤ g) (h2 : B ≤ h) (h3 : B ≤ w.heap.size) : Below B w w' :=
  ⟨c.os, c.tape, c.output, c.size, fun k hk => c.block k (by omega) (by omega) (by omega)⟩
theorem Chg.cell {g h : Nat} {w w' : World} (c : Chg g h w w') {b o : Nat} (h0 : b < w.heap.size) (h1 : b ≠ g) (h2 : b ≠ h) : w'.cell? ⟨b, o, none⟩ = w.cell? ⟨b, o, none⟩ := World.cell?_of_block (a := ⟨b, o, none⟩) (c.block b h0 h1 h2)
theorem Chg.frozen {g h : Nat} {w w' : World} (c : Chg g h w w') {b o : Nat} (h0 : b < w.heap.size) (h1 : b ≠ g) (h2 : b ≠ h) : w'.frozen? ⟨b, o, none⟩ = w.frozen? ⟨b, o, none⟩ := World.frozen?_of_block (a := ⟨b, o, none⟩) (c.block b h0 h1 h2)
theorem own_chg {g h : Nat} {w w' : World} {base : Nat} {e : TypeId} {size n : Nat} {v : Value} {xs : List Value} (hv : w.ownsRow base e size v n xs) (c : Chg g h w w') (h1 : v.ownBlock ≠ some g) (h2 : v.ownBlock ≠ some h) : w'.ownsRow base e size v n xs := by
  refine ⟨hv.1, ?_⟩
  rcases hv.2 with hn | ⟨k, cap, cur, rfl, hb, hgg, rest⟩
  · exact .inl hn
  · refine .inr ⟨k, cap, cur, rfl, hb, ?_, rest⟩
    rw [c.block k (Array.getElem?_eq_some_iff.1 hgg).1 (by simpa [Value.ownBlock] using h1) (by simpa [Value.ownBlock] using h2)]
    exact hgg
/-- a block of four cells, and a row of N whole numbers -/
structure Ds (TD TI : TypeId) (w : World) (B g h N : Nat) (xs ys : List Value) : Prop where
  top : w.ownsRow B TD 4 (.slice (some ⟨g, 0, none⟩) 1 1) 1 xs
  row : w.ownsRow B TI 1 (.slice (some ⟨h, 0, none⟩) N N) N ys
  ne : g ≠ h
theorem Ds.setTop {TD TI : TypeId} {w : World} {B g h N : Nat} {xs ys : List Value} (d : Ds TD TI w B g h N xs ys) (j : Nat) (u : Value) :
    Ds TD TI (w.setCell ⟨g, j, none⟩ u) B g h N (xs.set j u) ys ∧ Chg g h w (w.setCell ⟨g, j, none⟩ u) := by
  have q := World.ownsRow.stored d.top j u
  exact ⟨⟨q.1, d.row.kept q.2 (.inr (by simp [Value.ownBlock]; exact fun e => d.ne e.symm)), d.ne⟩, Chg.grown_g q.2⟩
theorem Ds.setRow {TD TI : TypeId} {w : World} {B g h N : Nat} {xs ys : List Value} (d : Ds TD TI w B g h N xs ys) (j : Nat) (u : Value) :
    Ds TD TI (w.setCell ⟨h, j, none⟩ u) B g h N xs (ys.set j u) ∧ Chg g h w (w.setCell ⟨h, j, none⟩ u) := by
  have q := World.ownsRow.stored d.row j u
  exact ⟨⟨d.top.kept q.2 (.inr (by simp [Value.ownBlock]; exact d.ne)), q.1, d.ne⟩, Chg.grown_h q.2⟩
theorem Ds.lt {TD TI : TypeId} {w : World} {B g h N : Nat} {xs ys : List Value} (d : Ds TD TI w B g h N xs ys) : B ≤ g ∧ g < w.heap.size ∧ B ≤ h ∧ h < w.heap.size :=
  ⟨(d.top.lt g rfl).1, (d.top.lt g rfl).2, (d.row.lt h rfl).1, (d.row.lt h rfl).2⟩
theorem Ds.below {TD TI : TypeId} {w w' : World} {B g h N : Nat} {xs ys : List Value} (d : Ds TD TI w B g h N xs ys) (hb : Below w.heap.size w w') : Ds TD TI w' B g h N xs ys :=
  ⟨own_below d.top hb, own_below d.row hb, d.ne⟩
/-- what another store's blocks hold is kept -/
theorem Ds.chg {TD TI : TypeId} {w w' : World} {B g h g2 h2 N : Nat} {xs ys : List Value} (d : Ds TD TI w B g h N xs ys) (c : Chg g2 h2 w w') (a1 : g ≠ g2) (a2 : g ≠ h2) (a3 : h ≠ g2) (a4 : h ≠ h2) : Ds TD TI w' B g h N xs ys :=
  ⟨own_chg d.top c (by simpa [Value.ownBlock] using a1) (by simpa [Value.ownBlock] using a2), own_chg d.row c (by simpa [Value.ownBlock] using a3) (by simpa [Value.ownBlock] using a4), d.ne⟩
/-- a row of another type is kept, too -/
theorem Ds.other {TD TI e : TypeId} {w w' : World} {B g h N base size n : Nat} {v : Value} {xs ys zs : List Value} (d : Ds TD TI w B g h N xs ys) (o : w.ownsRow base e size v n zs) (c : Chg g h w w') (e1 : e ≠ TD) (e2 : e ≠ TI) : w'.ownsRow base e size v n zs := by
  refine own_chg o c ?_ ?_
  · rcases own_apart o d.top e1 with q | q
    · rw [q]; simp
    · exact q
  · rcases own_apart o d.row e2 with q | q
    · rw [q]; simp
    · exact q

def topW (l : Int) (L : List Nd) (h : Nat) : List Value := [.int .i64 l, .int .i64 (L.length : Int), .int .i64 (sumC L), .slice (some ⟨h, 0, none⟩) (plcN l) (plcN l)]
/-- the store of the universe of l bits that holds the list L -/
def DsAt (TD TI : TypeId) (w : World) (B g h : Nat) (l : Int) (L : List Nd) : Prop := Ds TD TI w B g h (plcN l) (topW l L h) (ints (tabW L (plcN l)))
section
variable {TD TI : TypeId} {w w' : World} {B g h : Nat} {l : Int} {L : List Nd}
theorem DsAt.cells (d : DsAt TD TI w B g h l L) : w.cell? ⟨g, 0, none⟩ = some (.int .i64 l) ∧ w.cell? ⟨g, 1, none⟩ = some (.int .i64 (L.length : Int)) ∧ w.cell? ⟨g, 2, none⟩ = some (.int .i64 (sumC L)) ∧ w.cell? ⟨g, 3, none⟩ = some (.slice (some ⟨h, 0, none⟩) (plcN l) (plcN l)) :=
  ⟨d.top.cellAt 0 (by omega), d.top.cellAt 1 (by omega), d.top.cellAt 2 (by omega), d.top.cellAt 3 (by omega)⟩
theorem DsAt.place (d : DsAt TD TI w B g h l L) {k : Nat} (hk : k < plcN l) : w.cell? ⟨h, k, none⟩ = some (.int .i64 (sumAt (k : Int) L)) := by
  rw [d.row.cellAt k (by omega)]
  simp [ints, tab_get L hk]
theorem DsAt.free (d : DsAt TD TI w B g h l L) (k : Nat) : w.frozen? ⟨g, k, none⟩ = false ∧ w.frozen? ⟨h, k, none⟩ = false := ⟨d.top.frozenAt k, d.row.frozenAt k⟩
/-- stored anew: one more node, its weight, and all together -/
theorem DsAt.put1 (d : DsAt TD TI w B g h l L) {M : List Nd} {k : Nat} {x t n : Int} (hk : k < plcN l) (hn : (M.length : Int) = n) (hx : sumAt (k : Int) M = x) (ht : sumC M = t) (ho : ∀ i : Int, i ≠ (k : Int) → sumAt i M = sumAt i L) :
    DsAt TD TI (((w.setCell ⟨g, 1, none⟩ (.int .i64 n)).setCell ⟨h, k, none⟩ (.int .i64 x)).setCell ⟨g, 2, none⟩ (.int .i64 t)) B g h l M ∧ Chg g h w (((w.setCell ⟨g, 1, none⟩ (.int .i64 n)).setCell ⟨h, k, none⟩ (.int .i64 x)).setCell ⟨g, 2, none⟩ (.int .i64 t)) := by
  have a := Ds.setTop d 1 (.int .i64 n)
  have b := a.1.setRow k (.int .i64 x)
  have c := b.1.setTop 2 (.int .i64 t)
  refine ⟨?_, (a.2.trans b.2).trans c.2⟩
  have q := c.1
  have e : (ints (tabW L (plcN l))).set k (.int .i64 x) = ints (tabW M (plcN l)) := by
    rw [← tab_set ho, ints, ints, List.map_set, hx]
  rw [e] at q
  subst hn ht
  exact q
/-- the same, when there are as many nodes as there were -/
theorem DsAt.put0 (d : DsAt TD TI w B g h l L) {M : List Nd} {k : Nat} {x t : Int} (hk : k < plcN l) (hn : M.length = L.length) (hx : sumAt (k : Int) M = x) (ht : sumC M = t) (ho : ∀ i : Int, i ≠ (k : Int) → sumAt i M = sumAt i L) :
    DsAt TD TI ((w.setCell ⟨h, k, none⟩ (.int .i64 x)).setCell ⟨g, 2, none⟩ (.int .i64 t)) B g h l M ∧ Chg g h w ((w.setCell ⟨h, k, none⟩ (.int .i64 x)).setCell ⟨g, 2, none⟩ (.int .i64 t)) := by
  have b := Ds.setRow d k (.int .i64 x)
  have c := b.1.setTop 2 (.int .i64 t)
  refine ⟨?_, b.2.trans c.2⟩
  have q := c.1
  have e : (ints (tabW L (plcN l))).set k (.int .i64 x) = ints (tabW M (plcN l)) := by
    rw [← tab_set ho, ints, ints, List.map_set, hx]
  rw [e] at q
  unfold topW at q
  rw [← hn] at q
  subst ht
  exact q
/-- the weight first, then one node less, then all together -/
theorem DsAt.put2 (d : DsAt TD TI w B g h l L) {M : List Nd} {k : Nat} {x t n : Int} (hk : k < plcN l) (hn : (M.length : Int) = n) (hx : sumAt (k : Int) M = x) (ht : sumC M = t) (ho : ∀ i : Int, i ≠ (k : Int) → sumAt i M = sumAt i L) :
    DsAt TD TI (((w.setCell ⟨h, k, none⟩ (.int .i64 x)).setCell ⟨g, 1, none⟩ (.int .i64 n)).setCell ⟨g, 2, none⟩ (.int .i64 t)) B g h l M ∧ Chg g h w (((w.setCell ⟨h, k, none⟩ (.int .i64 x)).setCell ⟨g, 1, none⟩ (.int .i64 n)).setCell ⟨g, 2, none⟩ (.int .i64 t)) := by
  have a := Ds.setRow d k (.int .i64 x)
  have b := a.1.setTop 1 (.int .i64 n)
  have c := b.1.setTop 2 (.int .i64 t)
  refine ⟨?_, (a.2.trans b.2).trans c.2⟩
  have q := c.1
  have e : (ints (tabW L (plcN l))).set k (.int .i64 x) = ints (tabW M (plcN l)) := by
    rw [← tab_set ho, ints, ints, List.map_set, hx]
  rw [e] at q
  subst hn ht
  exact q
end

end Go.Proofs.Ytafkkhjhdfmhpaa
