/- What the statement BlendAll of layer blend gathers: digests and the document's, in two rows that grow. -/
import Derived.Test.YtmcbfoimgefaoaaGreatBl3
import Derived.Test.YtmcbfoimgefaoaaGreatBlR
import Derived.Test.YtmcbfoimgefaoaaGreatOpen10
namespace Go.Proofs.YtmcbfoimgefaoaaGreat
set_option linter.unusedVariables false
set_option maxRecDepth 100000
open Go.RowKit

/-- bits, k and list -/
abbrev Tr := Int × Int × List Nd
/-- merged, one behind the other: the error, and k and list -/
def allH (l : Int) : Int → List Nd → List Tr → Int × Int × List Nd
  | k, L, [] => (0, k, L)
  | k, L, d :: ds => if bmgE l d.1 L d.2.2 = 0 then allH l (bmgK k d.2.1) (bmgL l (bmgK k d.2.1) L d.2.2) ds else (bmgE l d.1 L d.2.2, 0, [])
/-- what all of them are merged to: the error, and bits, k and list -/
def allT : List Tr → Int × Int × Int × List Nd
  | [] => (7, 0, 0, [])
  | [d] => (0, d.1, d.2.1, pressW d.1 d.2.1 d.2.2)
  | d :: e :: ds => ((allH d.1 d.2.1 d.2.2 (e :: ds)).1, d.1, (allH d.1 d.2.1 d.2.2 (e :: ds)).2.1, (allH d.1 d.2.1 d.2.2 (e :: ds)).2.2)
def tP (d : DgP) : Tr := (d.l, d.k, d.L)
theorem allG_H (l : Int) : ∀ (Ds : List DgP) (k : Int) (L : List Nd), allG l k L (Ds.map some) = allH l k L (Ds.map tP) := by
  intro Ds
  induction Ds with
  | nil => intro k L; rfl
  | cons d Ds ih =>
    intro k L
    rw [List.map_cons, List.map_cons]
    by_cases h : bmgE l d.l L d.L = 0
    · rw [allG_yes h, ih, allH]; exact (if_pos h).symm
    · rw [allG_no h, allH]; exact (if_neg h).symm
theorem tri_new4 (w : World) (x y z : Value) (t : TypeId) (g : Nat) (hg : g = w.heap.size) : ∀ j u, [x, y, z][j]? = some u → (w.alloc (.cells #[x, y, z] t)).cell? ((⟨g, 0, none⟩ : Addr).add j) = some u := fun j u hj => by
  subst hg
  match j, hj with
  | 0, hj => simp at hj; subst hj; simp [Addr.add]
  | 1, hj => simp at hj; subst hj; simp [Addr.add]
  | 2, hj => simp at hj; subst hj; simp [Addr.add]
theorem one_ptr (a : Option Addr) : ∀ u ∈ [Value.pointer a], u.oneCell' = true := fun u hu => by
  simp at hu; subst hu; rfl
theorem cells_dg (k l : Int) (A : Option Addr) (m c : Nat) : ∀ u ∈ [Value.int .i64 k, .int .i64 l, .slice A m c], u.oneCell' = true := fun u hu => by
  simp at hu; rcases hu with rfl | rfl | rfl <;> rfl
theorem ne_of_apart {w : World} {b1 b2 s1 s2 n1 n2 m c q : Nat} {e1 e2 : TypeId} {v1 : Value} {xs ys : List Value} (h1 : w.ownsRow b1 e1 s1 v1 n1 xs) (h2 : w.ownsRow b2 e2 s2 (.slice (some ⟨q, 0, none⟩) m c) n2 ys) (he : e1 ≠ e2) (i : Nat) (hi : v1.ownBlock = some i) : i ≠ q := by
  rcases own_apart h1 h2 he with z | z
  · rw [z] at hi; simp at hi
  · rintro rfl
    exact z (by rw [hi]; rfl)
def tX (d : DgX) : Tr := (d.l, d.k, d.L)
theorem allF_H (l : Int) : ∀ (Ds : List DgX) (k : Int) (L : List Nd), allF l k L Ds = allH l k L (Ds.map tX) := by
  intro Ds
  induction Ds with
  | nil => intro k L; rfl
  | cons d Ds ih =>
    intro k L
    rw [List.map_cons]
    by_cases h : bmgE l d.l L d.L = 0
    · rw [allF_yes h, ih, allH]; exact (if_pos h).symm
    · rw [allF_no h, allH]; exact (if_neg h).symm
def rowX (Dx : List DgX) : List Value := Dx.flatMap fun d => [.int .i64 d.k, .int .i64 d.l, .slice d.A d.m d.c]
theorem rowX_len (Dx : List DgX) : (rowX Dx).length = Dx.length * 3 := by
  induction Dx with
  | nil => rfl
  | cons d Dx ih => simp only [rowX, List.flatMap_cons, List.length_append, List.length_cons, List.length_nil] at ih ⊢; omega
theorem rowX_snoc (Dx : List DgX) (d : DgX) : rowX (Dx ++ [d]) = rowX Dx ++ [.int .i64 d.k, .int .i64 d.l, .slice d.A d.m d.c] := by simp [rowX]
theorem rowX_at : ∀ (Dx : List DgX) (i : Nat) (h : i < Dx.length), (rowX Dx)[i * 3]? = some (.int .i64 Dx[i].k) ∧ (rowX Dx)[i * 3 + 1]? = some (.int .i64 Dx[i].l) ∧ (rowX Dx)[i * 3 + 2]? = some (.slice Dx[i].A Dx[i].m Dx[i].c)
  | [], i, h => by simp at h
  | d :: Dx, 0, h => by simp [rowX]
  | d :: Dx, i + 1, h => by
    have z := rowX_at Dx i (by simpa using h)
    have e : rowX (d :: Dx) = [.int .i64 d.k, .int .i64 d.l, .slice d.A d.m d.c] ++ rowX Dx := by simp [rowX]
    rw [e]
    have f : ∀ j, ([Value.int .i64 d.k, .int .i64 d.l, .slice d.A d.m d.c] ++ rowX Dx)[j + 3]? = (rowX Dx)[j]? := fun j => by
      rw [List.getElem?_append_right (by simp)]; simp
    rw [show (i + 1) * 3 = i * 3 + 3 by omega, show i * 3 + 3 + 1 = i * 3 + 1 + 3 by omega, show i * 3 + 3 + 2 = i * 3 + 2 + 3 by omega, f, f, f]
    exact z
theorem DgA.row_ne {w : World} {B q p g h : Nat} {kd l k : Int} {n : Nat} {L : List Nd} {e : TypeId} {base size m : Nat} {v : Value} {zs : List Value} (d : DgA w B q p g h kd l k n L) (o : w.ownsRow base e size v m zs)
    (e1 : e ≠ 108) (e2 : e ≠ 130) (e3 : e ≠ 149) (e4 : e ≠ 3) (e5 : e ≠ 146) (e6 : e ≠ 79) : ∀ i, v.ownBlock = some i → ¬ dgF q p g h i := by
  intro i hi f
  rcases f with f | f | f | f
  · exact ne_of_apart o d.top e1 i hi f
  · rcases d.po.st with ⟨_, _, z, _⟩ | ⟨_, z, _⟩
    · exact ne_of_apart o z e2 i hi f
    · exact ne_of_apart o z e2 i hi f
  · rcases d.po.st with ⟨_, _, _, z⟩ | ⟨_, _, b, S, z, _⟩
    · exact ne_of_apart o (Ds.top z) e3 i hi f
    · exact ne_of_apart o (Ps.top z) e5 i hi f
  · rcases d.po.st with ⟨_, _, _, z⟩ | ⟨_, _, b, S, z, _⟩
    · exact ne_of_apart o (Ds.row z) e4 i hi f
    · exact ne_of_apart o (Ps.row z) e6 i hi f
/-- what has been gathered -/
structure AllM (w wr : World) (a ws : Value) (Ds : List DgP) (Dx : List DgX) : Prop where
  ra : wr.ownsRow w.heap.size 27 1 a Ds.length (Ds.map fun d => ptrP (some d))
  rx : wr.ownsRow w.heap.size 37 3 ws Dx.length (rowX Dx)
  dg : ∀ d ∈ Ds, DgA wr 0 d.q d.p d.g d.h d.kd d.l d.k d.n d.L ∧ d.n ≤ 60
  nd : ∀ d ∈ Dx, OwnNd 79 wr 0 (.slice d.A d.m d.c) d.L ∧ DgV d.l d.k d.L ∧ d.L.length ≤ 60
  bel : Below w.heap.size w wr
  za : Ds = [] → a = .slice none 0 0
  zx : Dx = [] → ws = .slice none 0 0
theorem AllM.below {w wr w' : World} {a ws : Value} {Ds : List DgP} {Dx : List DgX} (h : AllM w wr a ws Ds Dx) (hb : Below wr.heap.size wr w') : AllM w w' a ws Ds Dx :=
  ⟨own_below h.ra hb, own_below h.rx hb, fun d hd => ⟨(h.dg d hd).1.below hb, (h.dg d hd).2⟩, fun d hd => ⟨own_below (h.nd d hd).1 hb, (h.nd d hd).2⟩, h.bel.trans (hb.mono h.bel.size), h.za, h.zx⟩
theorem all_start (w : World) : AllM w w (.slice none 0 0) (.slice none 0 0) [] [] :=
  ⟨⟨rfl, .inl ⟨rfl, rfl⟩⟩, ⟨rfl, .inl ⟨rfl, rfl⟩⟩, fun d h => by simp at h, fun d h => by simp at h, Below.refl _ _, fun _ => rfl, fun _ => rfl⟩
theorem AllM.pushA {w wr w' : World} {a a' ws : Value} {Ds : List DgP} {Dx : List DgX} {d : DgP} (h : AllM w wr a ws Ds Dx) (hg : wr.grownBy w' a.ownBlock) (ho : w'.ownsRow w.heap.size 27 1 a' (Ds.length + 1) ((Ds.map fun d => ptrP (some d)) ++ [ptrP (some d)]))
    (hd : DgA wr 0 d.q d.p d.g d.h d.kd d.l d.k d.n d.L) (hn : d.n ≤ 60) : AllM w w' a' ws (Ds ++ [d]) Dx := by
  have key : ∀ d : DgP, DgA wr 0 d.q d.p d.g d.h d.kd d.l d.k d.n d.L → DgA w' 0 d.q d.p d.g d.h d.kd d.l d.k d.n d.L := fun d z =>
    z.kp (Kp.grown hg) fun i f q => z.row_ne h.ra (by decide) (by decide) (by decide) (by decide) (by decide) (by decide) i f.symm q
  refine ⟨by rw [List.map_append, List.length_append]; exact ho, h.rx.kept hg (own_apart h.rx h.ra (by decide)), fun e he => ?_, fun e he => ⟨World.ownsRow.kept (h.nd e he).1 hg (own_apart (h.nd e he).1 h.ra (by decide)), (h.nd e he).2⟩, h.bel.grown hg h.bel.size fun g hq => (World.ownsRow.lt h.ra g hq).1, fun z => by simp at z, h.zx⟩
  rcases List.mem_append.1 he with q | q
  · exact ⟨key e (h.dg e q).1, (h.dg e q).2⟩
  · simp at q; subst q; exact ⟨key e hd, hn⟩
theorem AllM.pushX {w wr w' : World} {a ws ws' : Value} {Ds : List DgP} {Dx : List DgX} {d : DgX} (h : AllM w wr a ws Ds Dx) (hg : wr.grownBy w' ws.ownBlock) (ho : w'.ownsRow w.heap.size 37 3 ws' (Dx.length + 1) (rowX Dx ++ [.int .i64 d.k, .int .i64 d.l, .slice d.A d.m d.c]))
    (hd : OwnNd 79 wr 0 (.slice d.A d.m d.c) d.L) (hv : DgV d.l d.k d.L ∧ d.L.length ≤ 60) : AllM w w' a ws' Ds (Dx ++ [d]) := by
  refine ⟨h.ra.kept hg (own_apart h.ra h.rx (by decide)), by rw [rowX_snoc, List.length_append]; exact ho, fun e he => ⟨(h.dg e he).1.kp (Kp.grown hg) fun i f q => (h.dg e he).1.row_ne h.rx (by decide) (by decide) (by decide) (by decide) (by decide) (by decide) i f.symm q, (h.dg e he).2⟩, fun e he => ?_, h.bel.grown hg h.bel.size fun g hq => (World.ownsRow.lt h.rx g hq).1, h.za, fun z => by simp at z⟩
  rcases List.mem_append.1 he with q | q
  · exact ⟨World.ownsRow.kept (h.nd e q).1 hg (own_apart (h.nd e q).1 h.rx (by decide)), (h.nd e q).2⟩
  · simp at q; subst q; exact ⟨World.ownsRow.kept hd hg (own_apart hd h.rx (by decide)), hv⟩
theorem AllM.grownA {w wr w' : World} {a ws : Value} {Ds : List DgP} {Dx : List DgX} (h : AllM w wr a ws Ds Dx) (hg : wr.grownBy w' a.ownBlock) : ∀ d ∈ Ds, DgA w' 0 d.q d.p d.g d.h d.kd d.l d.k d.n d.L ∧ d.n ≤ 60 := fun d hd =>
  ⟨(h.dg d hd).1.kp (Kp.grown hg) fun i f q => (h.dg d hd).1.row_ne h.ra (by decide) (by decide) (by decide) (by decide) (by decide) (by decide) i f.symm q, (h.dg d hd).2⟩
/-- the rows as they are read -/
theorem ptrs_row {T : TypeId} {w : World} {B n : Nat} {a : Value} {Q : List (Option DgP)} (hn : n = Q.length) (r : w.ownsRow B T 1 a n (Q.map ptrP)) : (a = .slice none 0 0 ∧ Q = []) ∨ ∃ g c, a = .slice (some ⟨g, 0, none⟩) n c ∧ n ≤ c ∧ g < w.heap.size ∧ PtrsAt w (some ⟨g, 0, none⟩) Q := by
  rcases r.2 with ⟨e, h0⟩ | ⟨g, c, cur, e, _, hg, hc, _⟩
  · refine .inl ⟨e, ?_⟩
    cases Q with
    | nil => rfl
    | cons x Q => simp at hn; omega
  · subst e
    have hlt := (r.lt g rfl).2
    refine .inr ⟨g, c, rfl, hc, hlt, fun i hi => ⟨g, 0, rfl, hlt, ?_⟩⟩
    have z := r.cellAt i (by omega)
    rw [Nat.zero_add, z, List.getElem?_map, List.getElem?_eq_getElem hi]
    rfl
theorem dgs_row {T : TypeId} {wr : World} {B : Nat} {a : Value} {Dx : List DgX} (r : wr.ownsRow B T 3 a Dx.length (rowX Dx)) (hd : ∀ d ∈ Dx, NodesAt wr (.slice d.A d.m d.c) d.L) : (a = .slice none 0 0 ∧ Dx = []) ∨ ∃ A c, a = .slice A Dx.length c ∧ DgsAt wr A Dx := by
  rcases r.2 with ⟨e, h0⟩ | ⟨g, c, cur, e, _, hg, hc, _⟩
  · refine .inl ⟨e, ?_⟩
    cases Dx with
    | nil => rfl
    | cons x Q => simp at h0
  · subst e
    have hlt := (r.lt g rfl).2
    refine .inr ⟨_, c, rfl, fun i hi => ⟨g, 0, rfl, hlt, ?_, ?_, ?_, hd _ (List.getElem_mem hi)⟩⟩
    · have z := r.cellAt (i * 3) (by omega)
      rw [Nat.zero_add, z]; exact (rowX_at Dx i hi).1
    · have z := r.cellAt (i * 3 + 1) (by omega)
      rw [Nat.zero_add, z]; exact (rowX_at Dx i hi).2.1
    · have z := r.cellAt (i * 3 + 2) (by omega)
      rw [Nat.zero_add, z]; exact (rowX_at Dx i hi).2.2
/-- what All hands out of what was gathered -/
def AllUPost (Ds : List DgP) (w : World) (e : Ending) (w' : World) : Prop := Below w.heap.size w w' ∧
  ((¬ (allT (Ds.map tP)).1 = 0 ∧ e = .returned (.tuple #[.pointer none, .int .i64 (allT (Ds.map tP)).1])) ∨
   ((allT (Ds.map tP)).1 = 0 ∧ ∃ d rest, Ds = d :: rest ∧ ∃ q p g h n, e = .returned (.tuple #[.pointer (some ⟨q, 0, none⟩), .int .i64 0]) ∧ DgA w' 0 q p g h d.kd (allT (Ds.map tP)).2.1 (allT (Ds.map tP)).2.2.1 n (allT (Ds.map tP)).2.2.2 ∧ n ≤ 420))
theorem blAll_u {w wr : World} {a ws : Value} {Ds : List DgP} {Dx : List DgX} (h : AllM w wr a ws Ds Dx) (h6 : Ds.length ≤ 6) : Calls Tryz.prog 16 #[a] wr (AllUPost Ds wr) := by
  have e : (Ds.map fun d => ptrP (some d)) = (Ds.map some).map ptrP := by simp
  have r := h.ra
  rw [e] at r
  rcases ptrs_row (by simp) r with ⟨rfl, hq⟩ | ⟨g, c, rfl, hc, hlt, hp⟩
  · have hD : Ds = [] := by simpa using hq
    subst hD
    exact (blAll_none 0 wr).mono fun e w' ⟨a, b⟩ => ⟨b, .inl ⟨by simp [allT], a⟩⟩
  · match Ds, h, h6, hp, hc, r with
    | [], h, _, _, _, r =>
      have := h.za rfl
      simp at this
    | [d], h, _, hp, _, _ =>
      obtain ⟨b', o', ee, hz, c0⟩ := hp 0 (by simp)
      injection ee with ee
      injection ee with ee1 ee2
      subst ee1 ee2
      have z := h.dg d (by simp)
      refine (blAll_one g 0 c d wr z.1 (by omega) c0 hz).mono fun e w' ⟨hb, q, p, g2, h2, a, b⟩ => ⟨hb, .inr ⟨rfl, d, [], rfl, q, p, g2, h2, _, a, b.low (Nat.zero_le _), ?_⟩⟩
      have x := (dgV_lower z.1.v z.1.v.k1 (Int.le_refl _)).2.2.1
      have y := z.1.po.len
      omega
    | d :: d2 :: Ds, h, h6, hp, hc, _ =>
      have hG := allG_H d.l (d2 :: Ds) d.k d.L
      refine (blAll_more g 0 c d ((d2 :: Ds).map some) _ wr (by simp) (by simp) (by simp at h6 ⊢; omega) hc hp ?_).mono ?_
      · intro y hy
        have hy' : y ∈ d :: d2 :: Ds := by simpa using hy
        exact h.dg y hy'
      · rintro e w' (⟨hx, he, hb⟩ | ⟨hx, hb, q, p, g2, h2, n, a, b, hn⟩)
        · rw [hG] at hx he
          exact ⟨hb, .inl ⟨hx, he⟩⟩
        · rw [hG] at hx b
          exact ⟨hb, .inr ⟨hx, d, _, rfl, q, p, g2, h2, n, a, b, hn⟩⟩
/-- .. with a nil behind them: an error -/
theorem blAll_nilU {wr : World} {B : Nat} {a : Value} {Ds : List DgP} (r : wr.ownsRow B 27 1 a (Ds.length + 1) ((Ds.map fun d => ptrP (some d)) ++ [.pointer none])) (hd : ∀ d ∈ Ds, DgA wr 0 d.q d.p d.g d.h d.kd d.l d.k d.n d.L ∧ d.n ≤ 60) (h6 : Ds.length ≤ 6) :
    Calls Tryz.prog 16 #[a] wr fun e w' => ∃ x, ¬ x = 0 ∧ e = .returned (.tuple #[.pointer none, .int .i64 x]) ∧ Below wr.heap.size wr w' := by
  have e : (Ds.map fun d => ptrP (some d)) ++ [Value.pointer none] = ((Ds.map some) ++ [none]).map ptrP := by simp [ptrP]
  rw [e] at r
  rcases ptrs_row (by simp) r with ⟨rfl, hq⟩ | ⟨g, c, rfl, hc, hlt, hp⟩
  · simp at hq
  · cases Ds with
    | nil =>
      obtain ⟨b', o', ee, hz, c0⟩ := hp 0 (by simp)
      injection ee with ee
      injection ee with ee1 ee2
      subst ee1 ee2
      exact (blAll_nilone g 0 c wr c0 hz).mono fun e w' ⟨a, b⟩ => ⟨1, by omega, a, b⟩
    | cons d Ds =>
      rw [List.map_cons, List.cons_append] at hp
      refine (blAll_more g 0 c d (Ds.map some ++ [none]) _ wr (by simp) (by simp) (by simp at h6 ⊢; omega) hc hp ?_).mono ?_
      · intro y hy
        have hy' : y ∈ d :: Ds := by simpa using hy
        exact hd y hy'
      · rintro e w' (⟨hx, he, hb⟩ | ⟨hx, _⟩)
        · exact ⟨_, hx, he, hb⟩
        · exact absurd hx (allG_nil (Ds.map some) d.k d.L)
/-- what the document's All hands out -/
def RAllUPost (Dx : List DgX) (w : World) (e : Ending) (w' : World) : Prop := Below w.heap.size w w' ∧
  ((¬ (allT (Dx.map tX)).1 = 0 ∧ e = .returned (.tuple #[.agg #[.int .i64 0, .int .i64 0, .slice none 0 0], .int .i64 (allT (Dx.map tX)).1])) ∨
   ((allT (Dx.map tX)).1 = 0 ∧ ∃ A m c, e = .returned (.tuple #[.agg #[.int .i64 (allT (Dx.map tX)).2.2.1, .int .i64 (allT (Dx.map tX)).2.1, .slice A m c], .int .i64 0]) ∧ NodesAt w' (.slice A m c) (allT (Dx.map tX)).2.2.2))
theorem rBlAll_u {w wr : World} {a ws : Value} {Ds : List DgP} {Dx : List DgX} (h : AllM w wr a ws Ds Dx) (h6 : Dx.length ≤ 6) : Calls Tryz.prog 17 #[ws] wr (RAllUPost Dx wr) := by
  rcases dgs_row h.rx (fun d hd => ownNd_nodes (h.nd d hd).1) with ⟨rfl, rfl⟩ | ⟨A, c, rfl, hp⟩
  · exact (rBlAll_none 0 wr).mono fun e w' ⟨a, b⟩ => ⟨b, .inl ⟨by simp [allT], a⟩⟩
  · match Dx, h, h6, hp with
    | [], h, _, hp =>
      have q := h.zx rfl
      injection q with q1 q2 q3
      subst q1 q3
      exact (rBlAll_none 0 wr).mono fun e w' ⟨a, b⟩ => ⟨b, .inl ⟨by simp [allT], a⟩⟩
    | [d], h, _, hp =>
      have z := h.nd d (by simp)
      exact (rBlAll_one A c d wr hp ⟨z.2.1, z.2.2⟩).mono fun e w' ⟨A2, m2, c2, a, b, hb⟩ => ⟨hb, .inr ⟨rfl, A2, m2, c2, a, b⟩⟩
    | d :: d2 :: Dx, h, h6, hp =>
      have hF := allF_H d.l (d2 :: Dx) d.k d.L
      refine (rBlAll_more A _ c d (d2 :: Dx) wr rfl (by simp) h6 hp (fun x hx => ⟨(h.nd x hx).2.1, (h.nd x hx).2.2⟩)).mono ?_
      rintro e w' (⟨hx, he, hb⟩ | ⟨hx, A2, m2, c2, a, b, hb⟩)
      · rw [hF] at hx he
        exact ⟨hb, .inl ⟨hx, he⟩⟩
      · rw [hF] at hx a b
        exact ⟨hb, .inr ⟨hx, A2, m2, c2, a, b⟩⟩

end Go.Proofs.YtmcbfoimgefaoaaGreat
