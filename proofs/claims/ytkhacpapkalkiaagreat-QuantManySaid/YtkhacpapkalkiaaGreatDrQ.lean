/- Texts laid together: K4, DsRef, DsRef2, DsRefN, DsLaw, Open5, DsLaw2. -/
import Derived.Test.YtkhacpapkalkiaaGreatGnQ
import Derived.Test.YtkhacpapkalkiaaGreatMmy
import Derived.Test.YtkhacpapkalkiaaGreatRrQ
import Derived.Laws.AppendOwnNone
import Derived.WalkSpells
import Derived.Deep.RegionHeld3
import Derived.Deep.RegionWith
import Derived.Deep.DrawnRows
import Derived.Test.YtkhacpapkalkiaaGreatDsQ
import Derived.WalkKit
import Derived.ProofKit
import Derived.OpenShut
import Derived.Lib.SmallJoins
import Derived.Laws.Cover2
import Derived.ChangeMaps5
import Derived.Deep.Slices
import Derived.ChangeSame
import Derived.WideShapes
import Derived.Deep.Strs
/- Two blocks of two cells each, which a function makes for a struct that came in by value and for one that it hands out. No program is spoken of here. -/
namespace Go.Proofs.YtkhacpapkalkiaaGreat
set_option linter.unusedVariables false
open Go.RowKit

/-- two blocks of two cells each: a struct that came in by value, and one that is handed out -/
structure K4 (w : World) (b : Nat) (x y z u : Value) : Prop where
  c0 : w.cell? ⟨b, 0, none⟩ = some x
  c1 : w.cell? ⟨b, 1, none⟩ = some y
  d0 : w.cell? ⟨b + 1, 0, none⟩ = some z
  d1 : w.cell? ⟨b + 1, 1, none⟩ = some u
  f0 : w.frozen? ⟨b, 0, none⟩ = false
  f1 : w.frozen? ⟨b, 1, none⟩ = false
  g0 : w.frozen? ⟨b + 1, 0, none⟩ = false
  g1 : w.frozen? ⟨b + 1, 1, none⟩ = false
  lt : b + 1 < w.heap.size
theorem K4.to {w w' : World} {b B : Nat} {x y z u : Value} (h : K4 w b x y z u) (hb : Below B w w') (hB : b + 1 < B) : K4 w' b x y z u :=
  ⟨(hb.cell (p := ⟨b, 0, none⟩) (by show b < B; omega)).trans h.c0, (hb.cell (p := ⟨b, 1, none⟩) (by show b < B; omega)).trans h.c1, (hb.cell (p := ⟨b + 1, 0, none⟩) hB).trans h.d0, (hb.cell (p := ⟨b + 1, 1, none⟩) hB).trans h.d1,
   (hb.frozen (p := ⟨b, 0, none⟩) (by show b < B; omega)).trans h.f0, (hb.frozen (p := ⟨b, 1, none⟩) (by show b < B; omega)).trans h.f1, (hb.frozen (p := ⟨b + 1, 0, none⟩) hB).trans h.g0, (hb.frozen (p := ⟨b + 1, 1, none⟩) hB).trans h.g1, Nat.lt_of_lt_of_le h.lt hb.size⟩
theorem k4_new (w : World) (t t2 : TypeId) (x y z u : Value) : K4 ((w.alloc (.cells #[x, y] t)).alloc (.cells #[z, u] t2)) w.heap.size x y z u :=
  ⟨by simp, by simp, by simp, by simp, by simp, by simp, by simp, by simp, by simp⟩
theorem K4.set1 {w : World} {b : Nat} {x y z u : Value} (h : K4 w b x y z u) (v : Value) : K4 (w.setCell ⟨b, 1, none⟩ v) b x v z u := by
  have n0 : (⟨b, 0, none⟩ : Addr) ≠ ⟨b, 1, none⟩ := ad_ne b
  have n1 : (⟨b + 1, 0, none⟩ : Addr) ≠ ⟨b, 1, none⟩ := fun e => by injection e with e; omega
  have n2 : (⟨b + 1, 1, none⟩ : Addr) ≠ ⟨b, 1, none⟩ := fun e => by injection e with e; omega
  refine ⟨by rw [World.cell?_setCell_other _ _ _ _ n0.symm]; exact h.c0, World.cell?_setCell_same (u := y) _ _ _ h.c1, by rw [World.cell?_setCell_other _ _ _ _ n1.symm]; exact h.d0, by rw [World.cell?_setCell_other _ _ _ _ n2.symm]; exact h.d1, ?_, ?_, ?_, ?_, ?_⟩
  · simp [h.f0]
  · simp [h.f1]
  · simp [h.g0]
  · simp [h.g1]
  · simpa using h.lt
theorem below_two (w : World) (o o2 : Obj) : Below w.heap.size w ((w.alloc o).alloc o2) := ((Below.refl _ _).alloc (Nat.le_refl _) _).alloc (by simp) _


end Go.Proofs.YtkhacpapkalkiaaGreat

/- The document's answers of package dewpondref07: Total, Get, Add, Take, Do. -/
namespace Go.Proofs.YtkhacpapkalkiaaGreat
set_option linter.unusedVariables false
set_option maxRecDepth 100000
open Go.RowKit

/-- a slice is the one that came in, or lies in new memory -/
def NewB (v0 v : Value) (k : Nat) : Prop := v = v0 ∨ ∀ b, v.ownBlock = some b → k ≤ b
theorem newB_of {w : World} {base k : Nat} {e : TypeId} {size n : Nat} {v0 v : Value} {xs : List Value} (o : w.ownsRow base e size v n xs) (h : k ≤ base) : NewB v0 v k := .inr fun b hb => Nat.le_trans h (World.ownsRow.lt o b hb).1
theorem NewB.mono {v0 v : Value} {k k' : Nat} (h : NewB v0 v k) (hk : k' ≤ k) : NewB v0 v k' := h.imp id fun q b hb => Nat.le_trans hk (q b hb)
/-- a store handed out, and a number -/
def StPost (l : Int) (M : List Nd) (n : Int) (v0 : Value) (w : World) (e : Ending) (w' : World) : Prop :=
  ∃ A m c, e = .returned (.tuple #[.agg #[.int .i64 l, .slice A m c], .int .i64 n]) ∧ OwnNd 83 w' 0 (.slice A m c) M ∧ Below w.heap.size w w' ∧ NewB v0 (.slice A m c) w.heap.size
set_option maxHeartbeats 800000 in
theorem rsTotal_any (l : Int) (A : Option Addr) (n c : Nat) (L : List Nd) (w : World) (h : NodesAt w (.slice A n c) L) (hr : RollC l L) (hn : n ≤ 1000000) :
    Calls Tryz.prog 74 #[.agg #[.int .i64 l, .slice A n c]] w fun e w' => e = .returned (.int .i64 (sumC L)) ∧ Below w.heap.size w w' := by
  have HN := Lib.hid h
  have NB : Hid (NBds L) := nbds_roll hr
  have T := Lib.hid (tot_yes hr.2.2.2)
  clear h hr
  have hb0 : Below w.heap.size w (w.alloc (.cells #[.int .i64 l, .slice A n c] 35)) := (Below.refl _ _).alloc (Nat.le_refl _) _
  have HB0 := Lib.hid hb0
  clear hb0
  go_enter Tryz.func74, Tryz.ntmps74
  go_wp2_with (go_at_call 109; refine (rTotal_any _ _ _ L _ (HN.out.below HB0.out) NB.out hn).mono ?_; rintro e w1 ⟨rfl, hb1⟩)
  go_ret
  exact ⟨ret_i (by rw [T.out.1]), HB0.out.trans (hb1.mono (by simp))⟩
/-- the list with one more is folded: it has so many weights -/
theorem fold_one_more {l id cc : Int} {L : List Nd} (hr : RollC l L) (hq : rightB l id = true) (hc : ¬ cc < 0) (hf : ¬ 72057594037927935 < sumC L + cc) : foldB (L ++ [(id, cc)]) = true := by
  refine foldC_iff.2 ⟨⟨fun n hn => ?_, ?_⟩, fun n hn => ?_⟩
  · rcases List.mem_append.1 hn with hn | hn
    · exact hr.2.2.2.1 n hn
    · simp at hn; subst hn; show 0 ≤ cc; omega
  · rw [sumC_app]; simp [sumC]; omega
  · rcases List.mem_append.1 hn with hn | hn
    · exact right_pos (hr.2.2.1 n hn).1
    · simp at hn; subst hn; exact right_pos hq
end Go.Proofs.YtkhacpapkalkiaaGreat

/- The document's answers of package dewpondref07: Take, Do. -/
namespace Go.Proofs.YtkhacpapkalkiaaGreat
set_option linter.unusedVariables false
set_option maxRecDepth 100000
open Go.RowKit

theorem rem_take_le (L : List Nd) (k : Nat) (id : Int) : (remW (L.take k) id).length ≤ k := by
  have := rem_le (L.take k) id
  rw [List.length_take] at this
  omega
/-- two cells of a block of another type, stored: the list is as it was -/
theorem own_two {T TS : TypeId} {w : World} {B q : Nat} {v : Value} {L : List Nd} {xs : List Value} (o : OwnNd T w 0 v L) (r : w.ownsRow B TS 2 (.slice (some ⟨q, 0, none⟩) 1 1) 1 xs) (hne : T ≠ TS) (u u' : Value) :
    OwnNd T ((w.setCell ⟨q, 0, none⟩ u).setCell ⟨q, 1, none⟩ u') 0 v L := by
  have a := World.ownsRow.stored r 0 u
  have o1 : OwnNd T (w.setCell ⟨q, 0, none⟩ u) 0 v L := o.kept a.2 (own_apart o r hne)
  have b := World.ownsRow.stored a.1 1 u'
  exact World.ownsRow.kept o1 b.2 (own_apart o1 a.1 hne)
/-- three blocks: a store and a call that came in by value, and a store that is handed out -/
theorem do_blocks (w : World) (TS TO : TypeId) (x y a b c : Value) :
    Below w.heap.size w (((w.alloc (.cells #[x, y] TS)).alloc (.cells #[a, b, c] TO)).alloc (.cells #[.int .i64 0, .slice none 0 0] TS)) ∧
    (((w.alloc (.cells #[x, y] TS)).alloc (.cells #[a, b, c] TO)).alloc (.cells #[.int .i64 0, .slice none 0 0] TS)).ownsRow w.heap.size TS 2 (.slice (some ⟨w.heap.size, 0, none⟩) 1 1) 1 [x, y] ∧
    (((w.alloc (.cells #[x, y] TS)).alloc (.cells #[a, b, c] TO)).alloc (.cells #[.int .i64 0, .slice none 0 0] TS)).ownsRow w.heap.size TO 3 (.slice (some ⟨w.heap.size + 1, 0, none⟩) 1 1) 1 [a, b, c] ∧
    (((w.alloc (.cells #[x, y] TS)).alloc (.cells #[a, b, c] TO)).alloc (.cells #[.int .i64 0, .slice none 0 0] TS)).ownsRow w.heap.size TS 2 (.slice (some ⟨w.heap.size + 2, 0, none⟩) 1 1) 1 [.int .i64 0, .slice none 0 0] := by
  have e1 : (w.alloc (.cells #[x, y] TS)).heap.size = w.heap.size + 1 := by simp
  have e2 : ((w.alloc (.cells #[x, y] TS)).alloc (.cells #[a, b, c] TO)).heap.size = w.heap.size + 2 := by simp
  have p := World.ownsRow_lit (base := w.heap.size) (e := TS) (size := 2) w #[x, y] 1 (Nat.le_refl _) (by unfold maxLen; omega) rfl
  have q := World.ownsRow_lit (base := w.heap.size) (e := TO) (size := 3) (w.alloc (.cells #[x, y] TS)) #[a, b, c] 1 (by omega) (by unfold maxLen; omega) rfl
  have r := World.ownsRow_lit (base := w.heap.size) (e := TS) (size := 2) ((w.alloc (.cells #[x, y] TS)).alloc (.cells #[a, b, c] TO)) #[.int .i64 0, .slice none 0 0] 1 (by omega) (by unfold maxLen; omega) rfl
  rw [e1] at q
  rw [e2] at r
  exact ⟨(((Below.refl _ _).alloc (Nat.le_refl _) _).alloc (by simp) _).alloc (by simp; omega) _, (p.alloc _).alloc _, q.alloc _, r⟩
end Go.Proofs.YtkhacpapkalkiaaGreat

/- The document's answers of package dewpondref07, of a list that lies wherever it lies (an argument's): Add, Do. -/
namespace Go.Proofs.YtkhacpapkalkiaaGreat
set_option linter.unusedVariables false
set_option maxRecDepth 100000
open Go.RowKit

/-- a store handed out, and a number: its list is the one that came in, or a row of its own -/
def StPostS (l : Int) (M : List Nd) (n : Int) (v0 : Value) (L : List Nd) (w : World) (e : Ending) (w' : World) : Prop :=
  ∃ A m c, e = .returned (.tuple #[.agg #[.int .i64 l, .slice A m c], .int .i64 n]) ∧ ((Value.slice A m c = v0 ∧ M = L) ∨ OwnNd 83 w' 0 (.slice A m c) M) ∧ Below w.heap.size w w'
end Go.Proofs.YtkhacpapkalkiaaGreat

/- What the statements of layer dense call: a call of the store and of its list (do), whether the store is its list (like), and the chapter's example (alive). -/
namespace Go.Proofs.YtkhacpapkalkiaaGreat
set_option linter.unusedVariables false
set_option maxRecDepth 100000
open Go.RowKit

theorem call_box (w : World) (TO : TypeId) (a b c : Value) : Below w.heap.size w (w.alloc (.cells #[a, b, c] TO)) := (Below.refl _ _).alloc (Nat.le_refl _) _
theorem keep_two {W a b : World} {p q : Addr} {x y : Value} (h : a.cell? p = some x ∧ a.cell? q = some y ∧ Below W.heap.size W a) (hb : Below a.heap.size a b) (hp : p.block < W.heap.size) (hq : q.block < W.heap.size) : b.cell? p = some x ∧ b.cell? q = some y ∧ Below W.heap.size W b := by
  obtain ⟨h1, h2, h3⟩ := h
  have hz := h3.size
  exact ⟨(hb.cell (by omega)).trans h1, (hb.cell (by omega)).trans h2, h3.trans (hb.mono hz)⟩
theorem keep_twoN {W a : World} {p q : Addr} {x y : Value} (h : a.cell? p = some x ∧ a.cell? q = some y ∧ Below W.heap.size W a) (n : Nat) : (a.drewN n).cell? p = some x ∧ (a.drewN n).cell? q = some y ∧ Below W.heap.size W (a.drewN n) :=
  ⟨h.1, h.2.1, drewN_below h.2.2 n⟩
theorem below_of {W a : World} {p q : Addr} {x y : Value} (h : a.cell? p = some x ∧ a.cell? q = some y ∧ Below W.heap.size W a) : Below W.heap.size W a := h.2.2
theorem lit2b (w : World) (t : TypeId) (a b c d : Int) : NodesAt (w.alloc (.cells #[.int .i64 a, .int .i64 b, .int .i64 c, .int .i64 d] t)) (.slice (some ⟨w.heap.size, 0, none⟩) 2 2) [(a, b), (c, d)] :=
  ⟨_, 2, rfl, by simp, by unfold maxLen; omega, fun e => by simp at e, fun _ => ⟨w.heap.size, 0, rfl, by simp, fun k hk => by
    match k, hk with
    | 0, _ => simp
    | 1, _ => simp⟩⟩
theorem ex_a : addS 3 [] 9 2 = [(9, 2)] ∧ addE 3 [] 9 2 = 0 := by decide
theorem ex_b : addS 3 [(9, 2)] 1 5 = [(1, 5), (9, 2)] ∧ addE 3 [(9, 2)] 1 5 = 0 := by decide
theorem ex_c : addS 3 [(1, 5), (9, 2)] 9 1 = [(1, 5), (9, 3)] ∧ addE 3 [(1, 5), (9, 2)] 9 1 = 0 := by decide
theorem ex_d : remW [(1, 5), (9, 3)] 9 = [(1, 5)] ∧ sumAt 9 [(1, 5), (9, 3)] = 3 := by decide
theorem ex_r0 : RollC 3 [] := roll_nil (by decide)
theorem ex_r1 : RollC 3 [(9, 2)] := by have := roll_addS (id := 9) (c := 2) ex_r0; rwa [ex_a.1] at this
theorem ex_r2 : RollC 3 [(1, 5), (9, 2)] := by have := roll_addS (id := 1) (c := 5) ex_r1; rwa [ex_b.1] at this
theorem ex_r3 : RollC 3 [(1, 5), (9, 3)] := by have := roll_addS (id := 9) (c := 1) ex_r2; rwa [ex_c.1] at this
end Go.Proofs.YtkhacpapkalkiaaGreat

/- Arguments that are slices of structs of three whole numbers, opened. No program is spoken of here. -/
namespace Go.Proofs.YtkhacpapkalkiaaGreat
set_option linter.unusedVariables false
open Go.RowKit Go.ChangeShapes Go.WideShapes Go.Deep Go.Joins

/-- whole numbers of 64 bits -/
def OBds (L : List Pl) : Prop := ∀ n ∈ L, (-9223372036854775808 ≤ n.1.1 ∧ n.1.1 ≤ 9223372036854775807) ∧ (-9223372036854775808 ≤ n.1.2 ∧ n.1.2 ≤ 9223372036854775807) ∧ (-9223372036854775808 ≤ n.2 ∧ n.2 ≤ 9223372036854775807)
theorem obds_at {L : List Pl} (h : OBds L) {k : Nat} (hk : k < L.length) : (-9223372036854775808 ≤ (L.getD k plz).1.1 ∧ (L.getD k plz).1.1 ≤ 9223372036854775807) ∧ (-9223372036854775808 ≤ (L.getD k plz).1.2 ∧ (L.getD k plz).1.2 ≤ 9223372036854775807) ∧ (-9223372036854775808 ≤ (L.getD k plz).2 ∧ (L.getD k plz).2 ≤ 9223372036854775807) := by
  refine h _ ?_
  rw [List.getD_eq_getElem?_getD, List.getElem?_eq_getElem hk]; exact List.getElem_mem hk

section
variable {H : Type} {enc : TypeId × Value → H} {P : Program} {w : World} {base : Nat} {spare : Nat → Bool} {held : Bool}
/-- a slice of structs of three whole numbers -/
theorem open_ops {r : Reach} {b0 : Nat} {t e : TypeId} {f0 f1 f2 : Field} {v : Value} {d : DataW H} {p : List MemPlace} (ht : P.underlying t = some (.slice e)) (hs : P.underlying e = some (.struct #[f0, f1, f2])) (hone : oneCellFields P #[f0, f1, f2] = true) (hC : P.cellsOf e = 3)
    (h0 : P.underlying f0.type = some (.int .i64)) (h1 : P.underlying f1.type = some (.int .i64)) (h2 : P.underlying f2.type = some (.int .i64)) (hv : Value.okWide P w r b0 t v) (h : DataW.Trod enc P w base spare held t v d p) :
    ∃ (A : Option Addr) (n c : Nat) (L : List Pl), v = .slice A n c ∧ PlacedAt w (.slice A n c) L ∧ OBds L ∧ n ≤ 9223372036854775807 := by
  obtain ⟨A, n, c, rfl⟩ := okWide_slice ht hv
  obtain ⟨fuel, hf⟩ := h
  rcases open_slice ht hf with ⟨hcs, _⟩ | ⟨ad, len, cap, m, k, D, Pq, hcs, _, hl, hm, hmm, _, hi⟩
  · simp [Value.cells] at hcs
    obtain ⟨rfl, rfl, rfl⟩ := hcs
    exact ⟨none, 0, 0, [], rfl, placed_nil w, fun n h => by simp at h, by omega⟩
  · simp [Value.cells] at hcs
    obtain ⟨rfl, rfl, rfl⟩ := hcs
    have hnm : n ≤ m := by rw [hmm]; split <;> omega
    have key : ∀ i, i < n → ∃ q : Pl, (w.cell? (ad.add (i * 3)) = some (.int .i64 q.1.1) ∧ w.cell? (ad.add (i * 3 + 1)) = some (.int .i64 q.1.2) ∧ w.cell? (ad.add (i * 3 + 2)) = some (.int .i64 q.2)) ∧ (Lit.int .i64 q.1.1).wf = true ∧ (Lit.int .i64 q.1.2).wf = true ∧ (Lit.int .i64 q.2).wf = true := by
      intro i hin
      obtain ⟨cs', hc, ht'⟩ := hi i (by omega)
      rw [hC] at hc
      obtain ⟨_, hcl, hat⟩ := World.cells?_some hc
      obtain ⟨y0, y1, y2, n', _, _, g0, g1, g2⟩ := trod_struct3 hs ht'
      obtain ⟨o0, k0⟩ := hone_of hone 0 f0 rfl
      obtain ⟨o1, k1⟩ := hone_of hone 1 f1 rfl
      obtain ⟨o2, k2⟩ := hone_of hone 2 f2 rfl
      rw [o0, k0] at g0
      rw [o1, k1] at g1
      rw [o2, k2] at g2
      match cs', hcl with
      | [u, v, z], _ =>
        obtain ⟨a, e0, _, wa⟩ := DataW.trod_int h0 g0
        obtain ⟨b, e1, _, wb⟩ := DataW.trod_int h1 g1
        obtain ⟨c, e2, _, wc⟩ := DataW.trod_int h2 g2
        simp at e0 e1 e2
        subst e0 e1 e2
        refine ⟨((a, b), c), ⟨?_, ?_, ?_⟩, wa, wb, wc⟩
        · have := hat 0 (by omega)
          rw [add_add] at this; simpa using this
        · have := hat 1 (by omega)
          rw [add_add] at this; simpa using this
        · have := hat 2 (by omega)
          rw [add_add] at this; simpa using this
    obtain ⟨q, hq⟩ := choose_lt key
    have hLl : ((List.range n).map fun k => q k).length = n := by simp
    have hLk : ∀ k, k < n → ((List.range n).map fun k => q k).getD k plz = q k := fun k hk => by
      simp [List.getD_eq_getElem?_getD, hk]
    refine ⟨some ad, n, c, (List.range n).map fun k => q k, rfl, ⟨some ad, c, by rw [hLl], by rw [hLl]; exact hl, hm, fun e => by simp at e, fun h0 => ?_⟩, fun y hy => ?_, by unfold maxLen at hm; omega⟩
    · rw [hLl] at h0
      have hsp := World.cell?_spot (hq 0 h0).1.1
      have hlt : ad.block < w.heap.size := by
        have hc := (hq 0 h0).1.1
        rw [Nat.zero_mul] at hc
        have e0 : ad.add 0 = ad := by simp [Addr.add]
        rw [e0] at hc
        rcases Nat.lt_or_ge ad.block w.heap.size with g | g
        · exact g
        · simp [World.cell?, Array.getElem?_eq_none g] at hc
      rw [Nat.zero_mul] at hsp
      have e0 : ad.add 0 = ad := by simp [Addr.add]
      rw [e0] at hsp
      obtain ⟨b, o, s⟩ := ad
      dsimp only at hsp
      subst hsp
      have ea : ∀ i, (⟨b, o, none⟩ : Addr).add i = ⟨b, o + i, none⟩ := by
        intro i; unfold Addr.add; split
        · rename_i h; subst h; rfl
        · rfl
      refine ⟨b, o, rfl, hlt, fun k hk => ?_⟩
      rw [hLl] at hk
      have h2 := (hq k hk).1
      rw [ea, ea, ea] at h2
      rw [hLk k hk]
      exact ⟨h2.1, by rw [Nat.add_assoc]; exact h2.2.1, by rw [Nat.add_assoc]; exact h2.2.2⟩
    · obtain ⟨k, hk, rfl⟩ := List.mem_map.1 hy
      have hk' : k < n := by simpa using hk
      exact ⟨int_bd (hq k hk').2.1, int_bd (hq k hk').2.2.1, int_bd (hq k hk').2.2.2⟩
end

end Go.Proofs.YtkhacpapkalkiaaGreat

/- The walks of the statements DensePlays and DenseNobody of layer dense: for every input each returns true, and nothing that was there before is changed. -/
namespace Go.Proofs.YtkhacpapkalkiaaGreat
set_option linter.unusedVariables false
open Go.RowKit

/-- a box of two cells, stored anew: it holds these, and rows of other types are as they were -/
theorem box_set {TS : TypeId} {w : World} {B q : Nat} {x y : Value} (r : w.ownsRow B TS 2 (.slice (some ⟨q, 0, none⟩) 1 1) 1 [x, y]) (u u' : Value) :
    ((w.setCell ⟨q, 0, none⟩ u).setCell ⟨q, 1, none⟩ u').ownsRow B TS 2 (.slice (some ⟨q, 0, none⟩) 1 1) 1 [u, u'] ∧
    (∀ (base : Nat) (e : TypeId) (size n : Nat) (v : Value) (ys : List Value), e ≠ TS → w.ownsRow base e size v n ys → ((w.setCell ⟨q, 0, none⟩ u).setCell ⟨q, 1, none⟩ u').ownsRow base e size v n ys) ∧
    Below B w ((w.setCell ⟨q, 0, none⟩ u).setCell ⟨q, 1, none⟩ u') ∧
    (∀ (base : Nat) (e : TypeId) (size n : Nat) (v : Value) (ys : List Value), v.ownBlock ≠ some q → w.ownsRow base e size v n ys → ((w.setCell ⟨q, 0, none⟩ u).setCell ⟨q, 1, none⟩ u').ownsRow base e size v n ys) := by
  have a := World.ownsRow.stored r 0 u
  have b := World.ownsRow.stored a.1 1 u'
  have hB := (r.lt q rfl).1
  refine ⟨b.1, fun base e size n v ys he o => ?_, ((Below.refl _ _).setCell (p := ⟨q, 0, none⟩) hB u).setCell (p := ⟨q, 1, none⟩) hB u', fun base e size n v ys he o => ?_⟩
  · have o1 := o.kept a.2 (own_apart o r he)
    exact o1.kept b.2 (own_apart o1 a.1 he)
  · exact (o.kept a.2 (.inr he)).kept b.2 (.inr he)
theorem box_cells {TS : TypeId} {w : World} {B q : Nat} {x y : Value} (r : w.ownsRow B TS 2 (.slice (some ⟨q, 0, none⟩) 1 1) 1 [x, y]) :
    w.cell? ⟨q, 0, none⟩ = some x ∧ w.cell? ⟨q, 1, none⟩ = some y ∧ w.frozen? ⟨q, 0, none⟩ = false ∧ w.frozen? ⟨q, 1, none⟩ = false ∧ q < w.heap.size :=
  ⟨r.cellAt 0 (by omega), r.cellAt 1 (by omega), r.frozenAt 0, r.frozenAt 1, (r.lt q rfl).2⟩
theorem tri_cells {TS : TypeId} {w : World} {B q : Nat} {x y z : Value} (r : w.ownsRow B TS 3 (.slice (some ⟨q, 0, none⟩) 1 1) 1 [x, y, z]) :
    w.cell? ⟨q, 0, none⟩ = some x ∧ w.cell? ⟨q, 1, none⟩ = some y ∧ w.cell? ⟨q, 2, none⟩ = some z :=
  ⟨r.cellAt 0 (by omega), r.cellAt 1 (by omega), r.cellAt 2 (by omega)⟩
theorem tri_new (w : World) (TO : TypeId) (a b c : Value) : (w.alloc (.cells #[a, b, c] TO)).ownsRow w.heap.size TO 3 (.slice (some ⟨w.heap.size, 0, none⟩) 1 1) 1 [a, b, c] :=
  World.ownsRow_lit (base := w.heap.size) (e := TO) (size := 3) w #[a, b, c] 1 (Nat.le_refl _) (by unfold maxLen; omega) rfl
theorem duo_new (w : World) (TO : TypeId) (a b : Value) : (w.alloc (.cells #[a, b] TO)).ownsRow w.heap.size TO 2 (.slice (some ⟨w.heap.size, 0, none⟩) 1 1) 1 [a, b] :=
  World.ownsRow_lit (base := w.heap.size) (e := TO) (size := 2) w #[a, b] 1 (Nat.le_refl _) (by unfold maxLen; omega) rfl

theorem ds_box {TD TI TS : TypeId} {w w' : World} {B g h : Nat} {l : Int} {L : List Nd} (d : DsAt TD TI w B g h l L)
    (k : ∀ (base : Nat) (e : TypeId) (size n : Nat) (v : Value) (ys : List Value), e ≠ TS → w.ownsRow base e size v n ys → w'.ownsRow base e size v n ys) (h1 : TD ≠ TS) (h2 : TI ≠ TS) : DsAt TD TI w' B g h l L :=
  ⟨k _ _ _ _ _ _ h1 d.top, k _ _ _ _ _ _ h2 d.row, d.ne⟩
end Go.Proofs.YtkhacpapkalkiaaGreat
