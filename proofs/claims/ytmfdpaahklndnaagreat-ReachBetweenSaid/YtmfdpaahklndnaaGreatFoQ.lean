/- Texts laid together: FoNum, Fo, Fo2, Fo3, Fo4, Fo5, Fo6, Fo7, Fo8, Fo9, Fo10, Fo11. -/
import Derived.Test.YtmfdpaahklndnaaGreatPln
import Derived.Test.YtmfdpaahklndnaaGreatRkT
import Derived.Test.YtmfdpaahklndnaaGreatMmy
import Derived.Maps.OwnSet
import Derived.Test.YtmfdpaahklndnaaGreatPoQ
namespace Go.Proofs.YtmfdpaahklndnaaGreat
set_option linter.unusedVariables false
/-- a stands ahead of b in the order of folding: deeper, or as deep and lesser -/
def Ah (a b : Int) : Prop := logN b < logN a ∨ (logN a = logN b ∧ a < b)
instance (a b : Int) : Decidable (Ah a b) := by unfold Ah; exact inferInstance
def SrtH (W : List Int) : Prop := W.Pairwise Ah
/-- one more, each once -/
def withH : List Int → Int → List Int
  | [], x => [x]
  | a :: l, x => if Ah a x then a :: withH l x else if a = x then a :: l else x :: a :: l
/-- the nodes of numbers, in the order of folding -/
def agH : List Int → List Int → List Int
  | W, [] => W
  | W, x :: l => agH (if 1 ≤ x then withH W x else W) l
/-- the parents of a list's nodes, in the list's order -/
def upsH (L : List Nd) : List Int := (L.filter fun n => decide (1 < n.1)).map fun n => n.1 / 2
def HeapN (n : Nat) (f : Nat → Int) : Prop := ∀ k, 0 < k → k < n → ¬ Ah (f k) (f ((k - 1) / 2))
/-- a heap but for the one at i, which may want to go down -/
def DnI (n : Nat) (f : Nat → Int) (i : Nat) : Prop := (∀ k, 0 < k → k < n → (k - 1) / 2 ≠ i → ¬ Ah (f k) (f ((k - 1) / 2))) ∧ (∀ k, 0 < k → k < n → (k - 1) / 2 = i → 0 < i → ¬ Ah (f k) (f ((i - 1) / 2)))
/-- a list that is a heap, and holds what W holds -/
structure HpW (Q W : List Int) : Prop where
  heap : HeapN Q.length (fun k => Q.getD k 0)
  perm : Q.Perm W
  srt : SrtH W
theorem HpW.mem {Q W : List Int} (h : HpW Q W) (x : Int) : x ∈ Q ↔ x ∈ W := h.perm.mem_iff
theorem HpW.len {Q W : List Int} (h : HpW Q W) : Q.length = W.length := h.perm.length_eq
end Go.Proofs.YtmfdpaahklndnaaGreat
namespace Go.Proofs.YtmfdpaahklndnaaGreat
set_option linter.unusedVariables false
set_option maxRecDepth 100000
open Go.RowKit
/-- numbers that a call's number may be -/
def BdI (T : List Int) : Prop := ∀ x ∈ T, 1 ≤ x ∧ x ≤ 9223372036854775807
end Go.Proofs.YtmfdpaahklndnaaGreat
namespace Go.Proofs.YtmfdpaahklndnaaGreat
set_option linter.unusedVariables false
set_option maxRecDepth 100000
open Go.RowKit
/-- what a row of the call's own holds is put in another order: all else is as it was -/
structure Qrow (w0 : World) (B g cap : Nat) (p : Addr) (T : List Int) (T' : List Int) (w : World) : Prop where
  row : OwnI 3 w B (.slice (some ⟨g, 0, none⟩) T'.length cap) T'
  perm : T'.Perm T
  cell : w.cell? p = some (.slice (some ⟨g, 0, none⟩) T'.length cap)
  bds : BdI T'
  grown : w0.grownBy w (some g)
theorem Qrow.drew {w0 w : World} {B g cap : Nat} {p : Addr} {T Q : List Int} (h : Qrow w0 B g cap p T Q w) (q : Nat) : Qrow w0 B g cap p T Q (w.drewN q) :=
  ⟨own_below h.row (drewN_below (Below.refl _ _) q), h.perm, h.cell, h.bds, grown_trans (v := .slice (some ⟨g, 0, none⟩) Q.length cap) (v1 := .slice (some ⟨g, 0, none⟩) Q.length cap) h.grown (grown_below (drewN_below (Below.refl _ _) q)) (.inl rfl)⟩
end Go.Proofs.YtmfdpaahklndnaaGreat
namespace Go.Proofs.YtmfdpaahklndnaaGreat
set_option linter.unusedVariables false
set_option maxRecDepth 100000
open Go.RowKit
/-- a round of going down: a queue's row, in which all but the one at k is in place -/
structure Dn (w0 : World) (B g cap : Nat) (p : Addr) (T Q : List Int) (N k : Nat) (x : Int) (w : World) : Prop where
  q : Qrow w0 B g cap p T Q w
  len : Q.length = N + 1
  dn : DnI N (fun i => Q.getD i 0) k
  last : Q.getD N 0 = x
  lt : p.block < w.heap.size
theorem Dn.drew {w0 w : World} {B g cap N k : Nat} {p : Addr} {T Q : List Int} {x : Int} (h : Dn w0 B g cap p T Q N k x w) (q : Nat) : Dn w0 B g cap p T Q N k x (w.drewN q) :=
  ⟨h.q.drew q, h.len, h.dn, h.last, Nat.lt_of_lt_of_le h.lt (drewN_below (Below.refl 0 w) q).size⟩
theorem wrap_lit {a b : Int} (h : a = b) (h0 : -9223372036854775808 ≤ b) (h1 : b ≤ 9223372036854775807) : IntKind.i64.wrap a = b := by rw [IntKind.wrap_i64, h]; omega
end Go.Proofs.YtmfdpaahklndnaaGreat
namespace Go.Proofs.YtmfdpaahklndnaaGreat
set_option linter.unusedVariables false
set_option maxRecDepth 100000
open Go.RowKit
/-- an agenda's queue that lies in memory: the agenda's block b of two cells, and the row of its numbers, which is a heap -/
structure Qu (w : World) (B b : Nat) (v mv : Value) (Q : List Int) : Prop where
  top : w.ownsRow B 218 2 (.slice (some ⟨b, 0, none⟩) 1 1) 1 [v, mv]
  row : OwnI 3 w B v Q
  bds : BdI Q
def quF (b : Nat) (v : Value) : Nat → Prop := fun k => k = b ∨ v.ownBlock = some k
def Qu.hp (Q : List Int) : Prop := HeapN Q.length (fun k => Q.getD k 0)
section
variable {w w' : World} {B b : Nat} {v mv : Value} {Q : List Int}
theorem Qu.cells (d : Qu w B b v mv Q) : w.cell? ⟨b, 0, none⟩ = some v ∧ w.cell? ⟨b, 1, none⟩ = some mv := ⟨d.top.cellAt 0 (by omega), d.top.cellAt 1 (by omega)⟩
theorem Qu.lt (d : Qu w B b v mv Q) : B ≤ b ∧ b < w.heap.size ∧ ∀ h, v.ownBlock = some h → B ≤ h ∧ h < w.heap.size ∧ h ≠ b := by
  refine ⟨(d.top.lt b rfl).1, (d.top.lt b rfl).2, fun h e => ⟨(World.ownsRow.lt d.row h e).1, (World.ownsRow.lt d.row h e).2, fun q => ?_⟩⟩
  rcases own_apart d.top d.row (by decide) with r | r
  · simp [Value.ownBlock] at r
  · exact r (by rw [e, q]; rfl)
theorem Qu.kp {F : Nat → Prop} (d : Qu w B b v mv Q) (p : Kp F w w') (h : ∀ k, quF b v k → ¬ F k) : Qu w' B b v mv Q :=
  ⟨own_kp d.top p (fun k e => h k (.inl (by simp [Value.ownBlock] at e; exact e.symm))), own_kp d.row p (fun k e => h k (.inr e)), d.bds⟩
theorem Qu.below (d : Qu w B b v mv Q) (hb : Below w.heap.size w w') : Qu w' B b v mv Q := d.kp (Kp.of (F := fun _ => False) hb) fun _ _ h => h
end
end Go.Proofs.YtmfdpaahklndnaaGreat
namespace Go.Proofs.YtmfdpaahklndnaaGreat
set_option linter.unusedVariables false
set_option maxRecDepth 100000
open Go.RowKit
end Go.Proofs.YtmfdpaahklndnaaGreat
namespace Go.Proofs.YtmfdpaahklndnaaGreat
set_option linter.unusedVariables false
set_option maxRecDepth 100000
open Go.RowKit
/-- an agenda that lies in memory: its queue, and the map of what is there; W: its numbers in the order of folding -/
structure Agd (w : World) (B b m n : Nat) (v : Value) (Q W : List Int) : Prop where
  qu : Qu w B b v (.map (some m)) Q
  hp : HpW Q W
  low : B ≤ m
  len : W.length ≤ n
  there : ∃ D : DataW Unit, w.ownsMap Tryz.prog 3 unitElem m n D ∧ ∀ x, Maps.has D (.int .i64 x) = decide (x ∈ W)
def agF (b m : Nat) (v : Value) : Nat → Prop := fun k => quF b v k ∨ k = m
section
variable {w w' : World} {B b m n : Nat} {v : Value} {Q W : List Int}
theorem Agd.kp {F : Nat → Prop} (d : Agd w B b m n v Q W) (p : Kp F w w') (h : ∀ k, agF b m v k → ¬ F k) : Agd w' B b m n v Q W := by
  obtain ⟨D, h1, h2⟩ := d.there
  refine ⟨d.qu.kp p fun k e => h k (.inl e), d.hp, d.low, d.len, D, ?_, h2⟩
  obtain ⟨es, clock, hb, r⟩ := h1
  exact ⟨es, clock, by rw [p.block m (Array.getElem?_eq_some_iff.1 hb).1 (h m (.inr rfl))]; exact hb, r⟩
theorem Agd.below (d : Agd w B b m n v Q W) (hb : Below w.heap.size w w') : Agd w' B b m n v Q W := d.kp (Kp.of (F := fun _ => False) hb) fun _ _ h => h
theorem Agd.more {n' : Nat} (d : Agd w B b m n v Q W) (h : n ≤ n') : Agd w B b m n' v Q W := by
  obtain ⟨D, h1, h2⟩ := d.there
  exact ⟨d.qu, d.hp, d.low, Nat.le_trans d.len h, D, h1.mono h, h2⟩
end
end Go.Proofs.YtmfdpaahklndnaaGreat
namespace Go.Proofs.YtmfdpaahklndnaaGreat
set_option linter.unusedVariables false
set_option maxRecDepth 100000
open Go.RowKit
theorem foBx2 (w : World) (TO : TypeId) (a b : Value) : (w.alloc (.cells #[a, b] TO)).ownsRow w.heap.size TO 2 (.slice (some ⟨w.heap.size, 0, none⟩) 1 1) 1 [a, b] :=
  World.ownsRow_lit (base := w.heap.size) (e := TO) (size := 2) w #[a, b] 1 (Nat.le_refl _) (by unfold maxLen; omega) rfl
end Go.Proofs.YtmfdpaahklndnaaGreat
namespace Go.Proofs.YtmfdpaahklndnaaGreat
set_option linter.unusedVariables false
set_option maxRecDepth 100000
open Go.RowKit Go.Shelf
attribute [local go_sem] Oper.semAt_some
theorem Agd.base {w : World} {B B2 b m n : Nat} {v : Value} {Q W : List Int} (d : Agd w B b m n v Q W) (h : B2 ≤ B) : Agd w B2 b m n v Q W :=
  ⟨⟨own_low d.qu.top h, own_low d.qu.row h, d.qu.bds⟩, d.hp, Nat.le_trans h d.low, d.len, d.there⟩
end Go.Proofs.YtmfdpaahklndnaaGreat
namespace Go.Proofs.YtmfdpaahklndnaaGreat
set_option linter.unusedVariables false
set_option maxRecDepth 100000
open Go.RowKit
/-- what a parent's children weigh together, and with it -/
def pairW (l : Int) (L : List Nd) (id : Int) : Int := if kidB l id = true then sumAt (2 * id) L + sumAt (2 * id + 1) L else 0
def allW (l : Int) (L : List Nd) (id : Int) : Int := if kidB l id = true then sumAt (2 * id) L + sumAt (2 * id + 1) L + sumAt id L else 0
def readyB (l : Int) (L : List Nd) (id most : Int) : Bool := decide (0 < pairW l L id ∧ allW l L id ≤ most)
/-- a parent's children folded into it -/
def foldW (l : Int) (L : List Nd) (id : Int) : List Nd := if kidB l id = true then addS l (remW (remW L (2 * id)) (2 * id + 1)) id (pairW l L id) else L
theorem foCap_any (n k : Int) (w : World) (N0 : -9223372036854775808 ≤ n) (N1 : n ≤ 9223372036854775807) (K0 : -9223372036854775808 ≤ k) (K1 : k ≤ 9223372036854775807) :
    Calls Tryz.prog 97 #[.int .i64 n, .int .i64 k] w fun e w' => e = .returned (.int .i64 (quoN n k)) ∧ w = w' := by
  go_enter Tryz.func97, Tryz.ntmps97
  go_wp2_with (go_at_call 139; refine (div_any n k _ N0 N1 K0 K1).mono ?_; rintro e w1 ⟨rfl, rfl⟩)
  go_ret
  exact ⟨rfl, rfl⟩
theorem rFoCap_any (n k : Int) (w : World) (N0 : -9223372036854775808 ≤ n) (N1 : n ≤ 9223372036854775807) (K0 : -9223372036854775808 ≤ k) (K1 : k ≤ 9223372036854775807) :
    Calls Tryz.prog 143 #[.int .i64 n, .int .i64 k] w fun e w' => e = .returned (.int .i64 (quoN n k)) ∧ w = w' := by
  by_cases h1 : n < 0
  · have H := Lib.hid (quo_no (a := n) (b := k) (by omega)).1
    have c1 : decide (n < 0) = true := decide_eq_true h1
    go_enter Tryz.func143, Tryz.ntmps143
    go_wp2_with fail
    go_ret
    exact ⟨ret_i H.out.symm, rfl⟩
  · by_cases h2 : k < 1
    · have H := Lib.hid (quo_no (a := n) (b := k) (by omega)).1
      have c1 : decide (n < 0) = false := decide_eq_false h1
      have c2 : decide (k < 1) = true := decide_eq_true h2
      clear h1
      go_enter Tryz.func143, Tryz.ntmps143
      go_wp2_with fail
      go_ret
      exact ⟨ret_i H.out.symm, rfl⟩
    · have H := Lib.hid (quo_yes (a := n) (b := k) (by omega)).1
      have c1 : decide (n < 0) = false := decide_eq_false h1
      have c2 : decide (k < 1) = false := decide_eq_false h2
      have k0 : ¬ k = 0 := by omega
      have hd : n / k ≤ n := Int.ediv_le_self _ (by omega)
      have hd0 : 0 ≤ n / k := Int.ediv_nonneg (by omega) (by omega)
      have hq : IntKind.i64.wrap (n.tdiv k) = n / k := by rw [Int.tdiv_eq_ediv_of_nonneg (by omega), IntKind.wrap_i64]; omega
      clear h1 h2 hd hd0
      go_enter Tryz.func143, Tryz.ntmps143
      go_wp2_with fail
      go_ret
      exact ⟨ret_i H.out.symm, rfl⟩
theorem l_bel {B p g h : Nat} {kd l : Int} {n : Nat} {L : List Nd} {w : World} (d : PoA w B p g h kd l n L) (hn : n ≤ 1000) (w1 : World) (q : Below w.heap.size w w1) :
    Calls Tryz.prog 99 #[.pointer (some ⟨p, 0, none⟩)] w1 fun e w' => e = .returned (.int .i64 l) ∧ Below w.heap.size w w' :=
  (poL_any w1 (d.below q) hn).mono fun e w' ⟨h1, m, h2⟩ => ⟨h1, by rw [h2]; exact drewN_below q m⟩
end Go.Proofs.YtmfdpaahklndnaaGreat
namespace Go.Proofs.YtmfdpaahklndnaaGreat
set_option linter.unusedVariables false
set_option maxRecDepth 100000
open Go.RowKit
/-- the parents of all nodes, in the order of folding -/
def parH (L : List Nd) : List Int := agH [] (upsH L)
end Go.Proofs.YtmfdpaahklndnaaGreat
namespace Go.Proofs.YtmfdpaahklndnaaGreat
set_option linter.unusedVariables false
set_option maxRecDepth 100000
open Go.RowKit
/-- the first of a list that is ready -/
def fstN (l : Int) (L : List Nd) (most : Int) : List Int → Int
  | [] => 0
  | x :: T => if readyB l L x most = true then x else fstN l L most T
def fstB (l : Int) (L : List Nd) (most : Int) : List Int → Bool
  | [] => false
  | x :: T => if readyB l L x most = true then true else fstB l L most T
end Go.Proofs.YtmfdpaahklndnaaGreat
