/- What the statements of layer reach call: the chapter's example (alive); two sums compared. -/
import Derived.Test.YtmfdpaahklndnaaGreatReK
import Derived.Test.YtmfdpaahklndnaaGreatRnkLaw
import Derived.Test.YtmfdpaahklndnaaGreatRoQ
import Derived.Test.YtmfdpaahklndnaaGreatBoth
import Derived.Deep.Cut
namespace Go.Proofs.YtmfdpaahklndnaaGreat
set_option linter.unusedVariables false
set_option maxRecDepth 100000
open Go.RowKit
theorem reAl : dgLdE 2 2 4 rnkAlL = 0 ∧ beL 2 rnkAlL 0 2 = 2 ∧ beH 2 rnkAlL 0 2 = 3 ∧ beE 0 2 = 0 ∧ beL 2 rnkAlL 1 2 = 0 ∧ beH 2 rnkAlL 1 2 = 1 ∧ beE 1 2 = 0 ∧ beL 2 rnkAlL 3 3 = 3 ∧ beH 2 rnkAlL 3 3 = 4 ∧ beE 3 3 = 0 := by decide +kernel
set_option maxHeartbeats 3200000 in
theorem reAlive_any (KB : ReB) (w : World) : Calls Tryz.prog 10 #[] w fun e w' => e = .returned (.bool true) ∧ Below w.heap.size w w' := by
  have AL := Lib.hid reAl
  have PB := Lib.hid KB
  have hba : Below w.heap.size w (w.alloc (.cells #[.int .i64 1, .int .i64 1, .int .i64 4, .int .i64 2, .int .i64 7, .int .i64 3] 77)) := (Below.refl _ _).alloc (Nat.le_refl _) _
  have NV : NodesAt (w.alloc (.cells #[.int .i64 1, .int .i64 1, .int .i64 4, .int .i64 2, .int .i64 7, .int .i64 3] 77)) (.slice (some ⟨w.heap.size, 0, none⟩) 3 3) rnkAlL :=
    ownNd_nodes (World.ownsRow_lit (base := w.heap.size) (e := 77) (size := 2) w #[.int .i64 1, .int .i64 1, .int .i64 4, .int .i64 2, .int .i64 7, .int .i64 3] 3 (Nat.le_refl _) (by unfold maxLen; omega) rfl)
  have LD := Lib.hid (dgLoad_any 2 2 4 (some ⟨w.heap.size, 0, none⟩) 3 3 rnkAlL _ NV rnkAlB (by omega) (by omega) (by omega))
  have HBA := Lib.hid hba
  clear NV hba KB
  go_enter Tryz.func10, Tryz.ntmps10
  go_wp2_with fail
  generalize w.alloc (.cells #[.int .i64 1, .int .i64 1, .int .i64 4, .int .i64 2, .int .i64 7, .int .i64 3] 77) = W at *
  refine LD.out.mono ?_
  rintro e w1 ⟨hb1, ⟨hi, _⟩ | ⟨_, q, p, g, h, rfl, hd⟩⟩
  · exact absurd AL.out.1 hi
  have B1 := Lib.hid (HBA.out.trans (hb1.mono HBA.out.size))
  have D1 := Lib.hid hd
  have PN : ∀ w, (binOp .eql 34 (.pointer (some ⟨q, 0, none⟩)) (.pointer none)).run Tryz.prog w = .ok (.bool false) w := fun _ => by kernel_rfl
  have L1 := Lib.hid (PB.out.bet 0 2 w1 D1.out (by decide) (by omega) (by omega) (by omega) (by omega))
  rw [AL.out.2.1, AL.out.2.2.1, AL.out.2.2.2.1] at L1
  clear hb1 hd LD
  go_wp2_with fail
  refine L1.out.mono ?_
  rintro e u1 ⟨rfl, hu1⟩
  have X1 := Lib.hid (box2 u1 29 (.int .i64 2) (.int .i64 3))
  have V1 := Lib.hid ((hu1.alloc hu1.size (.cells #[.int .i64 2, .int .i64 3] 29)))
  have L2 := Lib.hid (PB.out.bet 1 2 _ (D1.out.below V1.out) (by decide) (by omega) (by omega) (by omega) (by omega))
  rw [AL.out.2.2.2.2.1, AL.out.2.2.2.2.2.1, AL.out.2.2.2.2.2.2.1] at L2
  clear hu1 L1
  go_wp2_with fail
  generalize u1.alloc (.cells #[.int .i64 2, .int .i64 3] 29) = U1 at *
  refine L2.out.mono ?_
  rintro e u2 ⟨rfl, hu2⟩
  have X2 := Lib.hid (box2 u2 29 (.int .i64 0) (.int .i64 1))
  have hv2 := hu2.alloc hu2.size (.cells #[.int .i64 0, .int .i64 1] 29)
  have V2 := Lib.hid (re_next V1.out hv2)
  have Y1 := Lib.hid (own_below X1.out hv2)
  have L3 := Lib.hid (PB.out.bet 3 3 _ (D1.out.below V2.out) (by decide) (by omega) (by omega) (by omega) (by omega))
  rw [AL.out.2.2.2.2.2.2.2.1, AL.out.2.2.2.2.2.2.2.2.1, AL.out.2.2.2.2.2.2.2.2.2] at L3
  clear hu2 hv2 L2
  go_wp2_with fail
  generalize u2.alloc (.cells #[.int .i64 0, .int .i64 1] 29) = U2 at *
  refine L3.out.mono ?_
  rintro e u3 ⟨rfl, hu3⟩
  have X3 := Lib.hid (box2 u3 29 (.int .i64 3) (.int .i64 4))
  have hv3 := hu3.alloc hu3.size (.cells #[.int .i64 3, .int .i64 4] 29)
  have V3 := Lib.hid (B1.out.trans ((re_next V2.out hv3).mono B1.out.size))
  have Z1 := Lib.hid (own_below Y1.out hv3)
  have Z2 := Lib.hid (own_below X2.out hv3)
  clear hu3 hv3 L3
  go_upto_region 7 with fail
  generalize u3.alloc (.cells #[.int .i64 3, .int .i64 4] 29) = U3 at *
  obtain ⟨a0, a1, _, _, _⟩ := box_cells Z1.out
  obtain ⟨b0, b1, _, _, _⟩ := box_cells Z2.out
  obtain ⟨c0, c1, _, _, _⟩ := box_cells X3.out
  have q1 := both_same 2 3
  have q2 := both_same 0 1
  have q3 := both_same 3 4
  go_wp2_with fail
  go_ret
  exact ⟨rfl, V3.out⟩
end Go.Proofs.YtmfdpaahklndnaaGreat
