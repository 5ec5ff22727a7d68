/- The document's answers of package dewpondref07: Take, Do. -/
import Derived.Test.YtabbpcpnabecmaaDsRef
import Derived.Deep.RegionHeld3
import Derived.Deep.RegionWith
import Derived.Deep.DrawnRows
namespace Go.Proofs.Ytabbpcpnabecmaa
set_option linter.unusedVariables false
set_option maxRecDepth 100000
open Go.RowKit

theorem rem_take_le (L : List Nd) (k : Nat) (id : Int) : (remW (L.take k) id).length ≤ k := by
  have := rem_le (L.take k) id
  rw [List.length_take] at this
  omega
/-- two cells of a block of another type, stored: the list is as it was -/
theorem own_two {T TS : TypeId} {w : World} {B q : Nat} {v : Value} {L : List Nd} {xs : List Value} (o : OwnNd T w 0 v L) (r : w.ownsRow B TS 2 (.slice (some ⟨q, 0, none⟩) 1 1) 1 xs) (hne : T ≠ TS) (u u' : Value) :
    OwnNd T ((w.setCell ⟨q, 0, none⟩ u).setCell ⟨q, 1, none⟩ u') 0 v L := by
  have a := World.ownsRow.stored r 0 u
  have o1 : OwnNd T (w.setCell ⟨q, 0, none⟩ u) 0 v L := o.kept a.2 (own_apart o r hne)
  have b := World.ownsRow.stored a.1 1 u'
  exact World.ownsRow.kept o1 b.2 (own_apart o1 a.1 hne)
/-- three blocks: a store and a call that came in by value, and a store that is handed out -/
theorem do_blocks (w : World) (TS TO : TypeId) (x y a b c : Value) :
    Below w.heap.size w (((w.alloc (.cells #[x, y] TS)).alloc (.cells #[a, b, c] TO)).alloc (.cells #[.int .i64 0, .slice none 0 0] TS)) ∧
    (((w.alloc (.cells #[x, y] TS)).alloc (.cells #[a, b, c] TO)).alloc (.cells #[.int .i64 0, .slice none 0 0] TS)).ownsRow w.heap.size TS 2 (.slice (some ⟨w.heap.size, 0, none⟩) 1 1) 1 [x, y] ∧
    (((w.alloc (.cells #[x, y] TS)).alloc (.cells #[a, b, c] TO)).alloc (.cells #[.int .i64 0, .slice none 0 0] TS)).ownsRow w.heap.size TO 3 (.slice (some ⟨w.heap.size + 1, 0, none⟩) 1 1) 1 [a, b, c] ∧
    (((w.alloc (.cells #[x, y] TS)).alloc (.cells #[a, b, c] TO)).alloc (.cells #[.int .i64 0, .slice none 0 0] TS)).ownsRow w.heap.size TS 2 (.slice (some ⟨w.heap.size + 2, 0, none⟩) 1 1) 1 [.int .i64 0, .slice none 0 0] := by
  have e1 : (w.alloc (.cells #[x, y] TS)).heap.size = w.heap.size + 1 := by simp
  have e2 : ((w.alloc (.cells #[x, y] TS)).alloc (.cells #[a, b, c] TO)).heap.size = w.heap.size + 2 := by simp
  have p := World.ownsRow_lit (base := w.heap.size) (e := TS) (size := 2) w #[x, y] 1 (Nat.le_refl _) (by unfold maxLen; omega) rfl
  have q := World.ownsRow_lit (base := w.heap.size) (e := TO) (size := 3) (w.alloc (.cells #[x, y] TS)) #[a, b, c] 1 (by omega) (by unfold maxLen; omega) rfl
  have r := World.ownsRow_lit (base := w.heap.size) (e := TS) (size := 2) ((w.alloc (.cells #[x, y] TS)).alloc (.cells #[a, b, c] TO)) #[.int .i64 0, .slice none 0 0] 1 (by omega) (by unfold maxLen; omega) rfl
  rw [e1] at q
  rw [e2] at r
  exact ⟨(((Below.refl _ _).alloc (Nat.le_refl _) _).alloc (by simp) _).alloc (by simp; omega) _, (p.alloc _).alloc _, q.alloc _, r⟩
end Go.Proofs.Ytabbpcpnabecmaa
