/- What the statements of layer bound call: the chapter's example (alive). -/
import Derived.Test.YtkoefclkpdpdpaaGreatBoK
import Derived.Test.YtkoefclkpdpdpaaGreatRnkLaw
import Derived.Test.YtkoefclkpdpdpaaGreatBoth
import Derived.Deep.Cut
namespace Go.Proofs.YtkoefclkpdpdpaaGreat
set_option linter.unusedVariables false
set_option maxRecDepth 100000
open Go.RowKit

theorem boAl : dgLdE 2 2 4 rnkAlL = 0 ∧ boE rnkAlL = 0 ∧ boV rnkAlL (boMn (loN 2) rnkAlL) = 0 ∧ boV rnkAlL (boMn (hiN 2) rnkAlL) = 0 ∧ boV rnkAlL (boMx (loN 2) rnkAlL) = 3 ∧ boV rnkAlL (boMx (hiN 2) rnkAlL) = 3
    ∧ boV rnkAlL (meL 2 rnkAlL) = 1 ∧ boV rnkAlL (meH 2 rnkAlL) = 2 ∧ boV rnkAlL (woF 2 rnkAlL rnkAlL).1 = 0 ∧ boV rnkAlL (woF 2 rnkAlL rnkAlL).2 = 1 := by decide +kernel
set_option maxHeartbeats 3200000 in
theorem boAlive_any (KE : BoE) (KM : BoM) (KW : BoW) (w : World) : Calls Tryz.prog 9 #[] w fun e w' => e = .returned (.bool true) ∧ Below w.heap.size w w' := by
  have AL := Lib.hid boAl
  have PE := Lib.hid KE
  have PM := Lib.hid KM
  have PW := Lib.hid KW
  have hba : Below w.heap.size w (w.alloc (.cells #[.int .i64 1, .int .i64 1, .int .i64 4, .int .i64 2, .int .i64 7, .int .i64 3] 87)) := (Below.refl _ _).alloc (Nat.le_refl _) _
  have NV : NodesAt (w.alloc (.cells #[.int .i64 1, .int .i64 1, .int .i64 4, .int .i64 2, .int .i64 7, .int .i64 3] 87)) (.slice (some ⟨w.heap.size, 0, none⟩) 3 3) rnkAlL :=
    ownNd_nodes (World.ownsRow_lit (base := w.heap.size) (e := 87) (size := 2) w #[.int .i64 1, .int .i64 1, .int .i64 4, .int .i64 2, .int .i64 7, .int .i64 3] 3 (Nat.le_refl _) (by unfold maxLen; omega) rfl)
  have LD := Lib.hid (dgLoad_any 2 2 4 (some ⟨w.heap.size, 0, none⟩) 3 3 rnkAlL _ NV rnkAlB (by omega) (by omega) (by omega))
  have HBA := Lib.hid hba
  clear NV hba KE KM KW
  go_enter Tryz.func9, Tryz.ntmps9
  go_wp2_with fail
  generalize w.alloc (.cells #[.int .i64 1, .int .i64 1, .int .i64 4, .int .i64 2, .int .i64 7, .int .i64 3] 87) = W at *
  refine LD.out.mono ?_
  rintro e w1 ⟨hb1, ⟨hi, _⟩ | ⟨_, q, p, g, h, rfl, hd⟩⟩
  · exact absurd AL.out.1 hi
  have B1 := Lib.hid (HBA.out.trans (hb1.mono HBA.out.size))
  have D1 := Lib.hid hd
  have PN : ∀ w, (binOp .eql 27 (.pointer (some ⟨q, 0, none⟩)) (.pointer none)).run Tryz.prog w = .ok (.bool false) w := fun _ => by kernel_rfl
  have L1 := Lib.hid (PE.out.least w1 D1.out (by decide))
  rw [AL.out.2.1, AL.out.2.2.1, AL.out.2.2.2.1] at L1
  clear hb1 hd LD
  go_wp2_with fail
  refine L1.out.mono ?_
  rintro e u1 ⟨rfl, hu1⟩
  have X1 := Lib.hid (box2 u1 36 (.int .i64 0) (.int .i64 0))
  have V1 := Lib.hid ((hu1.alloc hu1.size (.cells #[.int .i64 0, .int .i64 0] 36)))
  have L2 := Lib.hid (PE.out.greatest _ (D1.out.below V1.out) (by decide))
  rw [AL.out.2.1, AL.out.2.2.2.2.1, AL.out.2.2.2.2.2.1] at L2
  clear hu1 L1
  go_wp2_with fail
  generalize u1.alloc (.cells #[.int .i64 0, .int .i64 0] 36) = U1 at *
  refine L2.out.mono ?_
  rintro e u2 ⟨rfl, hu2⟩
  have X2 := Lib.hid (box2 u2 36 (.int .i64 3) (.int .i64 3))
  have hv2 := hu2.alloc hu2.size (.cells #[.int .i64 3, .int .i64 3] 36)
  have V2 := Lib.hid (re_next V1.out hv2)
  have Y1 := Lib.hid (own_below X1.out hv2)
  have L3 := Lib.hid (PM.out.mean _ (D1.out.below V2.out) (by decide))
  rw [AL.out.2.1, AL.out.2.2.2.2.2.2.1, AL.out.2.2.2.2.2.2.2.1] at L3
  clear hu2 hv2 L2
  go_wp2_with fail
  generalize u2.alloc (.cells #[.int .i64 3, .int .i64 3] 36) = U2 at *
  refine L3.out.mono ?_
  rintro e u3 ⟨rfl, hu3⟩
  have X3 := Lib.hid (box2 u3 36 (.int .i64 1) (.int .i64 2))
  have hv3 := hu3.alloc hu3.size (.cells #[.int .i64 1, .int .i64 2] 36)
  have V3 := Lib.hid (re_next V2.out hv3)
  have Z1 := Lib.hid (own_below Y1.out hv3)
  have Z2 := Lib.hid (own_below X2.out hv3)
  have L4 := Lib.hid (PW.out.worst _ (D1.out.below V3.out) (by decide))
  rw [AL.out.2.1, AL.out.2.2.2.2.2.2.2.2.1, AL.out.2.2.2.2.2.2.2.2.2] at L4
  clear hu3 hv3 L3
  go_wp2_with fail
  generalize u3.alloc (.cells #[.int .i64 1, .int .i64 2] 36) = U3 at *
  refine L4.out.mono ?_
  rintro e u4 ⟨rfl, hu4⟩
  have V4 := Lib.hid (B1.out.trans ((re_next V3.out hu4).mono B1.out.size))
  have K1 := Lib.hid (own_below Z1.out hu4)
  have K2 := Lib.hid (own_below Z2.out hu4)
  have K3 := Lib.hid (own_below X3.out hu4)
  clear hu4 L4 Z1 Z2 X3 X2 X1 Y1
  obtain ⟨a0, a1, _, _, _⟩ := box_cells K1.out
  obtain ⟨b0, b1, _, _, _⟩ := box_cells K2.out
  obtain ⟨c0, c1, _, _, _⟩ := box_cells K3.out
  have q1 := both_same 0 0
  have q2 := both_same 3 3
  have q3 := both_same 1 2
  go_wp2_with fail
  go_ret
  exact ⟨rfl, V4.out⟩

end Go.Proofs.YtkoefclkpdpdpaaGreat
