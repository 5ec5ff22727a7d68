/- Texts laid together: DgRef, DgRef2, DgRef3, DgRef4, DgRef5. -/
import Derived.Test.YtkhacpapkalkiaaGreatDgN
import Derived.Test.YtkhacpapkalkiaaGreatPrR
import Derived.Test.YtkhacpapkalkiaaGreatDrQ
import Derived.Test.YtkhacpapkalkiaaGreatPoQ
import Derived.Test.YtkhacpapkalkiaaGreatPbR
import Derived.Deep.RegionHeld3
/- The document's answers of package dewpondref13: Is, New, Weight, Cap. -/
namespace Go.Proofs.YtkhacpapkalkiaaGreat
set_option linter.unusedVariables false
set_option maxRecDepth 100000
open Go.RowKit

theorem dgBelow3 {W a : World} {p q r : Addr} {x y z : Value} (h : a.cell? p = some x ∧ a.cell? q = some y ∧ a.cell? r = some z ∧ Below W.heap.size W a) : Below W.heap.size W a := h.2.2.2
theorem rDgIs_any (l k kd : Int) (w : World) : Calls Tryz.prog 65 #[.agg #[.int .i64 l, .int .i64 k, .int .i64 kd]] w fun e w' => e = .returned (.bool (kIs k && isP kd l)) ∧ Below w.heap.size w w' := by
  have HB0 : Hid (Below w.heap.size w (w.alloc (.cells #[.int .i64 l, .int .i64 k, .int .i64 kd] 23))) := (Below.refl _ _).alloc (Nat.le_refl _) _
  obtain ⟨x0, x1, x2, _, _, _, hz⟩ := tri_all (tri_new w 23 (.int .i64 l) (.int .i64 k) (.int .i64 kd))
  have IS := Lib.hid (fun w => rPrIs_any k w)
  have PS := Lib.hid (fun w => poIs_any kd l w)
  cases hk : kIs k
  · rw [hk] at IS
    clear hk
    go_enter Tryz.func65, Tryz.ntmps65
    go_wp2_with fail
    generalize w.alloc (.cells #[.int .i64 l, .int .i64 k, .int .i64 kd] 23) = W at *
    go_wp2_with (go_at_call 106; refine (IS.out _).mono ?_; rintro e w1 ⟨rfl, rfl⟩)
    go_ret
    exact ⟨by simp, HB0.out⟩
  · rw [hk] at IS
    clear hk
    go_enter Tryz.func65, Tryz.ntmps65
    go_wp2_with fail
    generalize w.alloc (.cells #[.int .i64 l, .int .i64 k, .int .i64 kd] 23) = W at *
    go_wp2_with (first | (go_at_call 106; refine (IS.out _).mono ?_; rintro e w1 ⟨rfl, rfl⟩) | (go_at_call 107; refine (PS.out _).mono ?_; rintro e w2 ⟨rfl, rfl⟩))
    go_ret
    exact ⟨by simp, HB0.out⟩
theorem rDgNew_any (l k kd : Int) (w : World) : Calls Tryz.prog 67 #[.agg #[.int .i64 l, .int .i64 k, .int .i64 kd]] w fun e w' => e = .returned (.agg #[.int .i64 k, .int .i64 l, .slice none 0 0]) ∧ Below w.heap.size w w' := by
  have HB0 : Hid (Below w.heap.size w (w.alloc (.cells #[.int .i64 l, .int .i64 k, .int .i64 kd] 23))) := (Below.refl _ _).alloc (Nat.le_refl _) _
  have R0 := Lib.hid (tri_new w 23 (.int .i64 l) (.int .i64 k) (.int .i64 kd))
  have hz : (w.alloc (.cells #[.int .i64 l, .int .i64 k, .int .i64 kd] 23)).heap.size = w.heap.size + 1 := by simp
  have R1 : Hid (((w.alloc (.cells #[.int .i64 l, .int .i64 k, .int .i64 kd] 23)).alloc (.cells #[.int .i64 0, .int .i64 0, .slice none 0 0] 37)).ownsRow w.heap.size 37 3 (.slice (some ⟨w.heap.size + 1, 0, none⟩) 1 1) 1 [.int .i64 0, .int .i64 0, .slice none 0 0]) := by
    have q := tri_new (w.alloc (.cells #[.int .i64 l, .int .i64 k, .int .i64 kd] 23)) 37 (.int .i64 0) (.int .i64 0) (.slice none 0 0)
    rw [hz] at q
    exact own_low q (Nat.le_succ _)
  have R2 := Lib.hid (World.ownsRow.alloc R0.out (.cells #[.int .i64 0, .int .i64 0, .slice none 0 0] 37))
  have HB1 : Hid (Below w.heap.size w ((w.alloc (.cells #[.int .i64 l, .int .i64 k, .int .i64 kd] 23)).alloc (.cells #[.int .i64 0, .int .i64 0, .slice none 0 0] 37))) := HB0.out.alloc (by simp) _
  clear hz
  go_enter Tryz.func67, Tryz.ntmps67
  go_wp2_with fail
  exact bodyPost_ret (v := .agg #[.int .i64 k, .int .i64 l, .slice none 0 0]) (by simp [results, Tryz.results67, go_sem]) rfl ⟨rfl, HB0.out.alloc HB0.out.size _⟩
theorem rDgWeight_any (l k : Int) (A : Option Addr) (n c : Nat) (L : List Nd) (w : World) (h : NodesAt w (.slice A n c) L) (hr : RollC l L) (hn : n ≤ 1000) :
    Calls Tryz.prog 41 #[.agg #[.int .i64 k, .int .i64 l, .slice A n c]] w fun e w' => e = .returned (.int .i64 (sumC L)) ∧ Below w.heap.size w w' := by
  have HB0 : Hid (Below w.heap.size w (w.alloc (.cells #[.int .i64 k, .int .i64 l, .slice A n c] 37))) := (Below.refl _ _).alloc (Nat.le_refl _) _
  obtain ⟨x0, x1, x2, _, _, _, hz⟩ := tri_all (tri_new w 37 (.int .i64 k) (.int .i64 l) (.slice A n c))
  have TT := Lib.hid (fun w1 (hb : Below (w.alloc (.cells #[.int .i64 k, .int .i64 l, .slice A n c] 37)).heap.size (w.alloc (.cells #[.int .i64 k, .int .i64 l, .slice A n c] 37)) w1) => rsTotal_any l A n c L w1 (h.below (HB0.out.trans (hb.mono HB0.out.size))) hr (by omega))
  clear h hr
  go_enter Tryz.func41, Tryz.ntmps41
  go_wp2_with (go_at_call 74; refine (TT.out _ (Below.refl _ _)).mono ?_; rintro e w1 ⟨rfl, hb1⟩)
  go_ret
  exact ⟨rfl, HB0.out.trans (hb1.mono HB0.out.size)⟩
end Go.Proofs.YtkhacpapkalkiaaGreat

/- The document's answer of package dewpondref13: Compress. -/
namespace Go.Proofs.YtkhacpapkalkiaaGreat
set_option linter.unusedVariables false
set_option maxRecDepth 100000
open Go.RowKit

end Go.Proofs.YtkhacpapkalkiaaGreat

/- The document's answer of package dewpondref13: Insert. -/
namespace Go.Proofs.YtkhacpapkalkiaaGreat
set_option linter.unusedVariables false
set_option maxRecDepth 100000
open Go.RowKit

end Go.Proofs.YtkhacpapkalkiaaGreat

/- The document's answer of package dewpondref13: Insert, where it is OK. -/
namespace Go.Proofs.YtkhacpapkalkiaaGreat
set_option linter.unusedVariables false
set_option maxRecDepth 100000
open Go.RowKit

end Go.Proofs.YtkhacpapkalkiaaGreat

/- The document's answers of package dewpondref13: Do, Above. -/
namespace Go.Proofs.YtkhacpapkalkiaaGreat
set_option linter.unusedVariables false
set_option maxRecDepth 100000
open Go.RowKit

end Go.Proofs.YtkhacpapkalkiaaGreat
