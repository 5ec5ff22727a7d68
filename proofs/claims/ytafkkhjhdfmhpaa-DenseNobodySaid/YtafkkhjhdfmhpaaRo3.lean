/- The project's package roll: two lists in order merged, and lists put in order by that. -/
import Derived.Test.YtafkkhjhdfmhpaaRo2
import Derived.Test.YtafkkhjhdfmhpaaNdSl
import Derived.Deep.RegionHeld3
import Derived.Deep.RegionWith
import Derived.Deep.DrawnRows
import Derived.WalkSpells
import Derived.Laws.AppendOwnNone
namespace Go.Proofs.Ytafkkhjhdfmhpaa
set_option linter.unusedVariables false
open Go.RowKit
attribute [local go_sem ↓] Go.wp_at_zero Go.wp_at_succ

/-- how far the merging has come -/
structure MInv (B : Nat) (w wr : World) (ad bd : Addr) (ca cb : Nat) (v : Value) (P Q R LM : List Nd) : Prop where
  a : NdAt w (some ad) P
  b : NdAt w (some bd) Q
  ca : P.length ≤ ca
  cb : Q.length ≤ cb
  own : OwnNd 47 wr B v R
  goes : R ++ mrg idA P Q = LM
  below : Below w.heap.size w wr
theorem minv_len {B : Nat} {w wr : World} {ad bd : Addr} {ca cb : Nat} {v : Value} {P Q R LM : List Nd} (h : MInv B w wr ad bd ca cb v P Q R LM) : R.length + (P.length + Q.length) = LM.length := by
  have := congrArg List.length h.goes
  rw [List.length_append, (mrg_perm idA P Q).length_eq, List.length_append] at this
  exact this
theorem minv_b {w wr w2 : World} {ad bd : Addr} {ca cb : Nat} {v v' : Value} {x y : Nd} {P Q R LM : List Nd} (h : MInv w.heap.size w wr ad bd ca cb v (x :: P) (y :: Q) R LM) (hlt : idA y x = true) (hown : OwnNd 47 w2 w.heap.size v' (R ++ [y])) (hb : Below w.heap.size w w2) :
    MInv w.heap.size w w2 ad (advA bd cb 1 2) ca (cb - 1) v' (x :: P) Q (R ++ [y]) LM :=
  ⟨h.a, by have := h.b.adv (k := 1) h.cb; simpa using this, h.ca, by have := h.cb; simp at this; omega, hown, by rw [← h.goes, mrg_b hlt]; simp, hb⟩
theorem minv_a {w wr w2 : World} {ad bd : Addr} {ca cb : Nat} {v v' : Value} {x y : Nd} {P Q R LM : List Nd} (h : MInv w.heap.size w wr ad bd ca cb v (x :: P) (y :: Q) R LM) (hlt : idA y x = false) (hown : OwnNd 47 w2 w.heap.size v' (R ++ [x])) (hb : Below w.heap.size w w2) :
    MInv w.heap.size w w2 (advA ad ca 1 2) bd (ca - 1) cb v' P (y :: Q) (R ++ [x]) LM :=
  ⟨by have := h.a.adv (k := 1) h.ca; simpa using this, h.b, by have := h.ca; simp at this; omega, h.cb, hown, by rw [← h.goes, mrg_a hlt]; simp, hb⟩
theorem minv_end {B : Nat} {w wr : World} {ad bd : Addr} {ca cb : Nat} {v : Value} {P Q R LM : List Nd} (h : MInv B w wr ad bd ca cb v P Q R LM) (hd : P = [] ∨ Q = []) : R ++ P ++ Q = LM := by
  rw [← h.goes]
  rcases hd with rfl | rfl
  · rw [nil_mrg]; simp
  · rw [mrg_nil]; simp
end Go.Proofs.Ytafkkhjhdfmhpaa
