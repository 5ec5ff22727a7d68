/- Texts laid together: Bg5, Bg6, Bg7, Bg8, Bg9, Bg10, Bg11. -/
import Derived.Test.YtkhacpapkalkiaaGreatBgQ
import Derived.StillTailTactics
import Derived.Deep.RegionWith
import Derived.Deep.AppendLies
/- The project's package bag: a value put in at a place. -/
namespace Go.Proofs.YtkhacpapkalkiaaGreat
set_option linter.unusedVariables false
set_option maxRecDepth 100000
open Go.RowKit
attribute [local go_sem ↓] Go.wp_at_zero Go.wp_at_succ

/-- what put leaves -/
def BPutPost (TB TR : TypeId) (B g : Nat) (a0 a1 v : Value) (M : List Nd) (w : World) (e : Ending) (w' : World) : Prop :=
  ∃ v', e = .returned (.tuple #[]) ∧ w'.ownsRow B TB 3 (.slice (some ⟨g, 0, none⟩) 1 1) 1 [a0, a1, v'] ∧ OwnNd TR w' B v' M ∧ Kp (bgF g v) w w' ∧ At w v v'
theorem adv_at (h cap k : Nat) (hk : k < cap) : advA ⟨h, 0, none⟩ cap k 2 = ⟨h, k * 2, none⟩ := by
  unfold advA
  rw [if_neg (by omega)]
  unfold Addr.add
  split
  · rename_i q; rw [q]
  · simp
theorem put_list (L : List Nd) {k : Nat} (hk : k ≤ L.length) (n : Nd) : ((L ++ [nz]).take (k + 1) ++ L.drop k).set k n = L.take k ++ n :: L.drop k := by
  have e : (L ++ [nz]).take (k + 1) = L.take k ++ [(L ++ [nz]).getD k nz] := by
    rw [nd_take (by simp; omega), List.take_append_of_le_length hk]
  rw [e, List.append_assoc, List.set_append_right _ _ (by simp; omega)]
  congr 1
  have e2 : k - (L.take k).length = 0 := by simp; omega
  rw [e2]; rfl
theorem put_over (L : List Nd) {k : Nat} (hk : k < L.length) : (nods (L ++ [nz])).take ((k + 1) * 2) ++ nods (L.drop k) = nods ((L ++ [nz]).take (k + 1) ++ L.drop k) := by
  rw [nods_take, nods_app]
theorem grown_kp {w w2 w3 : World} {g : Nat} {v : Value} (hb : Below w.heap.size w w2) (h : w2.grownBy w3 v.ownBlock) : Kp (bgF g v) w w3 :=
  (Kp.of (F := bgF g v) hb).trans (Kp.grown h) fun k _ e => .inr e.symm
theorem Kp.set {F : Nat → Prop} {w w' : World} (p : Kp F w w') {b o : Nat} (u : Value) (h : b < w.heap.size → F b) : Kp F w (w'.setCell ⟨b, o, none⟩ u) :=
  p.trans (Kp.setCell w' ⟨b, o, none⟩ u) fun k hk e => by have e : k = b := e; subst e; exact h hk
theorem Kp.setR {F : Nat → Prop} {w w' : World} (p : Kp F w w') {b : Nat} (cs : Array Value) (h : b < w.heap.size → F b) : Kp F w (w'.setRow b cs) :=
  p.trans (Kp.setRow w' b cs) fun k hk e => by have e : k = b := e; subst e; exact h hk
theorem Kp.drew {F : Nat → Prop} {w w' : World} (p : Kp F w w') : Kp F w w'.drew := ⟨p.os, p.tape, p.output, p.size, p.block⟩
theorem at_in {w : World} {v v' : Value} (a : At w v v') {h : Nat} (e : v'.ownBlock = some h) (g : Nat) : h < w.heap.size → bgF g v h := fun hh => by
  rcases a with q | ⟨k, q, hk⟩
  · exact .inr (q.symm.trans e)
  · rw [q] at e; injection e with e; omega
theorem row_cells {e : TypeId} {w : World} {B h n cap k : Nat} {L : List Nd} (r : OwnNd e w B (.slice (some ⟨h, 0, none⟩) n cap) L) (hk : k < L.length) :
    w.cell? ⟨h, k * 2, none⟩ = some (.int .i64 (L.getD k nz).1) ∧ w.cell? ⟨h, k * 2 + 1, none⟩ = some (.int .i64 (L.getD k nz).2) ∧ w.frozen? ⟨h, k * 2, none⟩ = false ∧ w.frozen? ⟨h, k * 2 + 1, none⟩ = false := by
  have hl := (nodes_cells (ownNd_nodes r)).1
  have q := r
  unfold OwnNd at q
  rw [← hl] at q
  rcases ownNd_form r with ⟨a, _⟩ | ⟨h', cap', a, _, _, _, _, hin⟩
  · simp at a
  · simp only [Value.slice.injEq, Option.some.injEq, Addr.mk.injEq, and_true] at a
    obtain ⟨rfl, _⟩ := a
    have c := hin.2 k hk
    rw [Nat.zero_add] at c
    exact ⟨c.1, c.2, q.frozenAt _, q.frozenAt _⟩
end Go.Proofs.YtkhacpapkalkiaaGreat

/- The project's package bag: Add. -/
namespace Go.Proofs.YtkhacpapkalkiaaGreat
set_option linter.unusedVariables false
set_option maxRecDepth 100000
open Go.RowKit
attribute [local go_sem ↓] Go.wp_at_zero Go.wp_at_succ

end Go.Proofs.YtkhacpapkalkiaaGreat

/- The project's package bag: one more value behind a rising list; two such lists made one. -/
namespace Go.Proofs.YtkhacpapkalkiaaGreat
set_option linter.unusedVariables false
set_option maxRecDepth 100000
open Go.RowKit
attribute [local go_sem ↓] Go.wp_at_zero Go.wp_at_succ

/-- what behind leaves -/
def BehPost (TR : TypeId) (B : Nat) (v : Value) (F : List Nd) (w : World) (e : Ending) (w' : World) : Prop :=
  ∃ v', e = .returned v' ∧ OwnNd TR w' B v' F ∧ Kp (fun k => v.ownBlock = some k) w w' ∧ At w v v'
theorem grown_kp2 {w w2 w3 : World} {v : Value} (hb : Below w.heap.size w w2) (h : w2.grownBy w3 v.ownBlock) : Kp (fun k => v.ownBlock = some k) w w3 :=
  (Kp.of hb).trans (Kp.grown h) fun k _ e => e.symm
end Go.Proofs.YtkhacpapkalkiaaGreat

/- The project's package bag: two rising lists made one. -/
namespace Go.Proofs.YtkhacpapkalkiaaGreat
set_option linter.unusedVariables false
set_option maxRecDepth 100000
open Go.RowKit
attribute [local go_sem ↓] Go.wp_at_zero Go.wp_at_succ

/-- a list in order of weights above 0, that weighs at most Most -/
structure Tin (T : List Nd) : Prop where
  ord : T.Pairwise (fun a b => idA b a = false)
  pos : ∀ n ∈ T, 1 ≤ n.2
  tot : sumC T ≤ 72057594037927935
theorem Tin.inv {T : List Nd} (t : Tin T) {k : Nat} (hk : k ≤ T.length) : FInv (T.take k) (foldN (T.take k)) := fold_inv k T hk t.ord fun n hn => by have := t.pos n hn; omega
theorem Tin.step {T : List Nd} (t : Tin T) {k : Nat} (hk : k < T.length) : (∀ y ∈ foldN (T.take k), 0 ≤ y.2 ∧ y.2 + (T.getD k nz).2 ≤ 72057594037927935) ∧ addN (foldN (T.take k)) (T.getD k nz) = foldN (T.take (k + 1)) ∧ 1 ≤ (T.getD k nz).2 ∧ (foldN (T.take k)).length ≤ k := by
  have f := t.inv (Nat.le_of_lt hk)
  have NT : NonNeg T := fun n hn => by have := t.pos n hn; omega
  refine ⟨fun y hy => ?_, by rw [nd_take hk, foldN_snoc], t.pos _ (nd_mem hk), ?_⟩
  · have a := sumC_mem (good_nonneg f.good) hy
    have b := f.good.pos y hy
    have c := f.sum
    have d := sum_take_step hk
    have e := sum_take_le NT (k + 1)
    have := t.tot
    omega
  · have := f.len
    rw [List.length_take] at this; omega
theorem good_ord {L : List Nd} (h : Good L) : L.Pairwise (fun a b => idA b a = false) := h.ids.imp fun q => idA_no (by omega)
theorem tin_mrg {L M : List Nd} (h : Good L) (g : Good M) (ht : sumC L + sumC M ≤ 72057594037927935) : Tin (mrg idA L M) :=
  ⟨mrg_ord idA_ahd L M (good_ord h) (good_ord g), fun n hn => by
    rcases List.mem_append.1 ((mrg_perm idA L M).mem_iff.1 hn) with q | q
    · exact h.pos n q
    · exact g.pos n q, by rw [sumC_perm (mrg_perm idA L M), sumC_app]; omega⟩
theorem merged_is {L M : List Nd} (h : Good L) (g : Good M) (ht : sumC L + sumC M ≤ 72057594037927935) : foldN (mrg idA L M) = poursN L M := by
  have t := tin_mrg h g ht
  have f := t.inv (Nat.le_refl _)
  rw [List.take_length] at f
  exact fold_pours (mrg_perm idA L M) f h g
theorem getD_drop (T : List Nd) (k j : Nat) : (T.drop k).getD j nz = T.getD (k + j) nz := by
  rw [List.getD_eq_getElem?_getD, List.getD_eq_getElem?_getD, List.getElem?_drop]
theorem beh_below {w w1 w2 : World} {v : Value} {e : TypeId} {F : List Nd} (hb : Below w.heap.size w w1) (own : OwnNd e w1 w.heap.size v F) (kp : Kp (fun k => v.ownBlock = some k) w1 w2) : Below w.heap.size w w2 :=
  hb.trans (kp.below (fun k _ e => (own.lt k e).1) hb.size)
/-- what the first loop holds -/
structure MgI (TR : TypeId) (w wr : World) (A1 A2 : Option Addr) (m1 c1 m2 c2 k : Nat) (v : Value) (T P Q : List Nd) : Prop where
  a : NodesAt w (.slice A1 m1 c1) P
  b : NodesAt w (.slice A2 m2 c2) Q
  mrg : mrg idA P Q = T.drop k
  le : k ≤ T.length
  own : OwnNd TR wr w.heap.size v (foldN (T.take k))
  below : Below w.heap.size w wr
theorem nodes_tail {w : World} {a : Addr} {m c : Nat} {x : Nd} {P : List Nd} (h : NodesAt w (.slice (some a) m c) (x :: P)) : NodesAt w (.slice (some (advA a c 1 2)) (m - 1) (c - 1)) P := by
  obtain ⟨h1, h2, h3, h4⟩ := nodes_cells h
  simp at h1 h2
  exact ⟨_, _, by rw [h1]; rfl, by omega, by omega, fun e => by simp at e, NdAt.adv (k := 1) h4 (by simpa using h2)⟩
end Go.Proofs.YtkhacpapkalkiaaGreat

/- The project's package bag: Pour, Image, Wider, Same. -/
namespace Go.Proofs.YtkhacpapkalkiaaGreat
set_option linter.unusedVariables false
set_option maxRecDepth 100000
open Go.RowKit
attribute [local go_sem ↓] Go.wp_at_zero Go.wp_at_succ

end Go.Proofs.YtkhacpapkalkiaaGreat

/- The project's package bag: Same, Wider, Image. -/
namespace Go.Proofs.YtkhacpapkalkiaaGreat
set_option linter.unusedVariables false
set_option maxRecDepth 100000
open Go.RowKit
attribute [local go_sem ↓] Go.wp_at_zero Go.wp_at_succ

end Go.Proofs.YtkhacpapkalkiaaGreat

/- The project's package bag: Image. -/
namespace Go.Proofs.YtkhacpapkalkiaaGreat
set_option linter.unusedVariables false
set_option maxRecDepth 100000
open Go.RowKit
attribute [local go_sem ↓] Go.wp_at_zero Go.wp_at_succ

theorem tin_img {l : Int} {L : List Nd} (h : BagC l L) (b : Int) : Tin (L.map (imgN b)) := by
  refine ⟨?_, fun n hn => ?_, by rw [img_sum]; exact h.tot⟩
  · rw [List.pairwise_map]
    refine h.good.ids.imp fun {x y} q => idA_no ?_
    show ¬ (y.1 / 2 ^ b.toNat < x.1 / 2 ^ b.toNat)
    have := Int.ediv_le_ediv (two_pos b.toNat) (Int.le_of_lt q)
    omega
  · obtain ⟨m, hm, rfl⟩ := List.mem_map.1 hn
    exact h.good.pos m hm
theorem img_is {l : Int} {L : List Nd} (h : BagC l L) (b : Int) : foldN (L.map (imgN b)) = imgS L b := by
  have t := tin_img h b
  have f := t.inv (Nat.le_refl _)
  rw [List.take_length] at f
  exact good_uniq _ _ f.good (pours_good good_nil _ t.pos) fun i => by rw [f.at_, imgS, pours_sum]; simp [sumAt]
theorem img_get {L : List Nd} {b : Int} {k : Nat} (h : k < L.length) : (L.map (imgN b)).getD k nz = ((L.getD k nz).1 / 2 ^ b.toNat, (L.getD k nz).2) := by
  rw [List.getD_eq_getElem?_getD, List.getD_eq_getElem?_getD, List.getElem?_map, List.getElem?_eq_getElem h]; rfl
/-- an image under way: its box, its row -/
structure ImI (TB TR : TypeId) (w wr : World) (gi : Nat) (a0 a1 v : Value) (F : List Nd) : Prop where
  top : wr.ownsRow w.heap.size TB 3 (.slice (some ⟨gi, 0, none⟩) 1 1) 1 [a0, a1, v]
  row : OwnNd TR wr w.heap.size v F
  below : Below w.heap.size w wr
end Go.Proofs.YtkhacpapkalkiaaGreat
