/- What the statements of layer quant call: the chapter's example (alive). -/
import Derived.Test.YtkhacpapkalkiaaGreatKnQ
import Derived.Test.YtkhacpapkalkiaaGreatRnkLaw
import Derived.Deep.Cut
namespace Go.Proofs.YtkhacpapkalkiaaGreat
set_option linter.unusedVariables false
set_option maxRecDepth 100000
open Go.RowKit

theorem quAl : dgLdE 2 2 4 rnkAlL = 0 ∧ qaA 2 rnkAlL 2 = 0 ∧ wrE rnkAlL 2 = 0 ∧ qaA 2 rnkAlL 3 = 3 ∧ wrE rnkAlL 3 = 0 ∧ qsA 2 rnkAlL 3 = 0 ∧ qsZ 2 rnkAlL 3 = 4613937818241073152 ∧ qoA 2 rnkAlL 1 2 = 3 ∧ shE rnkAlL 1 2 = 0 := by decide +kernel
theorem quAlF : (FloatKind.f64.format.order 0 0 == some .eq) = true ∧ (FloatKind.f64.format.order 4613937818241073152 4613937818241073152 == some .eq) = true := by decide +kernel
theorem qu_next {W a b : World} (h : Below W.heap.size W a) (hb : Below a.heap.size a b) : Below W.heap.size W b := h.trans (hb.mono h.size)
set_option maxHeartbeats 3200000 in
theorem quAlive_any (KA : QuA) (KS : QuS) (KR : QuR) (w : World) : Calls Tryz.prog 11 #[] w fun e w' => e = .returned (.bool true) ∧ Below w.heap.size w w' := by
  have AL := Lib.hid quAl
  have PA := Lib.hid KA
  have PS := Lib.hid KS
  have PR := Lib.hid KR
  have hba : Below w.heap.size w (w.alloc (.cells #[.int .i64 1, .int .i64 1, .int .i64 4, .int .i64 2, .int .i64 7, .int .i64 3] 83)) := (Below.refl _ _).alloc (Nat.le_refl _) _
  have NV : NodesAt (w.alloc (.cells #[.int .i64 1, .int .i64 1, .int .i64 4, .int .i64 2, .int .i64 7, .int .i64 3] 83)) (.slice (some ⟨w.heap.size, 0, none⟩) 3 3) rnkAlL :=
    ownNd_nodes (World.ownsRow_lit (base := w.heap.size) (e := 83) (size := 2) w #[.int .i64 1, .int .i64 1, .int .i64 4, .int .i64 2, .int .i64 7, .int .i64 3] 3 (Nat.le_refl _) (by unfold maxLen; omega) rfl)
  have LD := Lib.hid (dgLoad_any 2 2 4 (some ⟨w.heap.size, 0, none⟩) 3 3 rnkAlL _ NV rnkAlB (by omega) (by omega) (by omega))
  have HBA := Lib.hid hba
  clear NV hba KA KS KR
  go_enter Tryz.func11, Tryz.ntmps11
  go_wp2_with fail
  generalize w.alloc (.cells #[.int .i64 1, .int .i64 1, .int .i64 4, .int .i64 2, .int .i64 7, .int .i64 3] 83) = W at *
  refine LD.out.mono ?_
  rintro e w1 ⟨hb1, ⟨hi, _⟩ | ⟨_, q, p, g, h, rfl, hd⟩⟩
  · exact absurd AL.out.1 hi
  have B1 := Lib.hid (HBA.out.trans (hb1.mono HBA.out.size))
  have D1 := Lib.hid hd
  have PN : ∀ w, (binOp .eql 33 (.pointer (some ⟨q, 0, none⟩)) (.pointer none)).run Tryz.prog w = .ok (.bool false) w := fun _ => by kernel_rfl
  have L0 := Lib.hid (PA.out.at_any 2 w1 D1.out (by decide) (by omega) (by omega))
  rw [AL.out.2.1, AL.out.2.2.1] at L0
  clear hb1 hd LD
  go_wp2_with fail
  refine L0.out.mono ?_
  rintro e w2 ⟨rfl, hb2⟩
  have B2 := Lib.hid (B1.out.trans (hb2.mono B1.out.size))
  have D2 := Lib.hid (D1.out.below hb2)
  have L1 := Lib.hid (PA.out.at_any 3 w2 D2.out (by decide) (by omega) (by omega))
  rw [AL.out.2.2.2.1, AL.out.2.2.2.2.1] at L1
  clear hb2 L0
  go_wp2_with fail
  refine L1.out.mono ?_
  rintro e w3 ⟨rfl, hb3⟩
  have B3 := Lib.hid (B2.out.trans (hb3.mono B2.out.size))
  have D3 := Lib.hid (D2.out.below hb3)
  have L2 := Lib.hid (PS.out.span_any 3 w3 D3.out (by decide) (by omega) (by omega))
  rw [AL.out.2.2.2.2.1, AL.out.2.2.2.2.2.1, AL.out.2.2.2.2.2.2.1] at L2
  clear hb3 L1
  go_wp2_with fail
  refine L2.out.mono ?_
  rintro e w4 ⟨rfl, hb4⟩
  have B4 := Lib.hid (B3.out.trans (hb4.mono B3.out.size))
  have D4 := Lib.hid (D3.out.below hb4)
  have L3 := Lib.hid (PR.out.median_any w4 D4.out (by decide))
  rw [AL.out.2.2.2.2.2.2.2.1, AL.out.2.2.2.2.2.2.2.2] at L3
  obtain ⟨f0, f1⟩ := quAlF
  clear hb4 L2
  go_wp2_with (go_at_call 16; refine L3.out.mono ?_; rintro e w5 ⟨rfl, hb5⟩)
  go_ret
  exact ⟨rfl, B4.out.trans (hb5.mono B4.out.size)⟩

end Go.Proofs.YtkhacpapkalkiaaGreat
