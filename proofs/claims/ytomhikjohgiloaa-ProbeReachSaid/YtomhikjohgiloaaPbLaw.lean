/- What the statements of layer probe call: whether the store is its list (like). -/
import Derived.Test.YtomhikjohgiloaaPb8
import Derived.Test.YtomhikjohgiloaaPbRef6
import Derived.Test.YtomhikjohgiloaaDsLaw
namespace Go.Proofs.Ytomhikjohgiloaa
set_option linter.unusedVariables false
set_option maxRecDepth 100000
open Go.RowKit

set_option maxHeartbeats 3200000 in
theorem plike_any {B g h b : Nat} {l : Int} {S L : List Nd} (A : Option Addr) (n c : Nat) (w : World) (d : PbA w B g h l (L.length : Int) (sumC L) b S) (T : Tb l b S L) (hb : b ≤ 40) (hl : L.length ≤ 1000000) (hv : NodesAt w (.slice A n c) L) :
    Calls Try.prog 26 #[.pointer (some ⟨g, 0, none⟩), .agg #[.int .i64 l, .slice A n c]] w fun e w' => e = .returned (.bool true) ∧ Below w.heap.size w w' := by
  have hb0 : Below w.heap.size w (w.alloc (.cells #[.int .i64 l, .slice A n c] 48)) := (Below.refl _ _).alloc (Nat.le_refl _) _
  have HB := Lib.hid hb0
  have hn2 : n ≤ 1000000 := by have := (nodes_cells hv).1; omega
  have hlen : ((L.length : Int) == (n : Int)) = true := by rw [(nodes_cells hv).1]; simp
  have hz : w.heap.size < (w.alloc (.cells #[.int .i64 l, .slice A n c] 48)).heap.size := by simp
  have x0 : (w.alloc (.cells #[.int .i64 l, .slice A n c] 48)).cell? ⟨w.heap.size, 0, none⟩ = some (.int .i64 l) := by simp
  have x1 : (w.alloc (.cells #[.int .i64 l, .slice A n c] 48)).cell? ⟨w.heap.size, 1, none⟩ = some (.slice A n c) := by simp
  have D : Hid (PbA (w.alloc (.cells #[.int .i64 l, .slice A n c] 48)) B g h l (L.length : Int) (sumC L) b S) := Ps.below d hb0
  have NV := Lib.hid (hv.below hb0)
  have R := Lib.hid T.roll
  have TT := Lib.hid T
  have hss := same_self L
  have HZ := Lib.hid hz
  clear d hv T hb0 hz
  go_enter Try.func26, Try.ntmps26
  go_wp2_with fail
  generalize w.alloc (.cells #[.int .i64 l, .slice A n c] 48) = W at *
  go_region_held3 (fun w' => w'.cell? ⟨w.heap.size, 0, none⟩ = some (.int .i64 l) ∧ w'.cell? ⟨w.heap.size, 1, none⟩ = some (.slice A n c) ∧ Below W.heap.size W w')
    (first | assumption | (exact keep_two (by assumption) (by assumption) HZ.out HZ.out) | (exact keep_twoN (by assumption) _) | (exact ⟨x0, x1, below_drew _⟩))
    (first
      | (go_at_call 29; refine (pbL_any _ (Ps.below D.out (below_of (p := ⟨w.heap.size, 0, none⟩) (q := ⟨w.heap.size, 1, none⟩) (x := .int .i64 l) (y := .slice A n c) (by assumption)))).mono ?_; rintro e w1 ⟨rfl, rfl⟩)
      | (go_at_call 27; refine (pbLen_any _ (Ps.below D.out (below_of (p := ⟨w.heap.size, 0, none⟩) (q := ⟨w.heap.size, 1, none⟩) (x := .int .i64 l) (y := .slice A n c) (by assumption)))).mono ?_; rintro e w1 ⟨rfl, rfl⟩)
      | (go_at_call 30; refine (pbTotal_any _ (Ps.below D.out (below_of (p := ⟨w.heap.size, 0, none⟩) (q := ⟨w.heap.size, 1, none⟩) (x := .int .i64 l) (y := .slice A n c) (by assumption)))).mono ?_; rintro e w1 ⟨rfl, rfl⟩)
      | (go_at_call 65; refine (rsTotal_any _ _ _ _ L _ (NV.out.below (below_of (p := ⟨w.heap.size, 0, none⟩) (q := ⟨w.heap.size, 1, none⟩) (x := .int .i64 l) (y := .slice A n c) (by assumption))) R.out hn2).mono ?_; rintro e w2 ⟨rfl, hb2⟩)
      | (go_at_call 33; refine (pbSnap_any _ (Ps.below D.out (below_of (p := ⟨w.heap.size, 0, none⟩) (q := ⟨w.heap.size, 1, none⟩) (x := .int .i64 l) (y := .slice A n c) (by assumption))) TT.out hb hl).mono ?_; rintro e w3 ⟨A3, m3, c3, rfl, hn3, hb3⟩)
      | (go_at_call 41; refine (rSame_any _ _ _ _ _ _ L L _ (by exact hn3) (NV.out.below (below_of (p := ⟨w.heap.size, 0, none⟩) (q := ⟨w.heap.size, 1, none⟩) (x := .int .i64 l) (y := .slice A n c) (by assumption))) (by have := (nodes_cells hn3).1; have := (nodes_cells NV.out).1; omega) hn2).mono ?_; rintro e w4 ⟨rfl, q4, rfl⟩))
  rename_i hH
  have hbb := hH.2.2
  go_wp2_with fail
  go_ret
  exact ⟨rfl, HB.out.trans (hbb.mono HB.out.size)⟩

end Go.Proofs.Ytomhikjohgiloaa
