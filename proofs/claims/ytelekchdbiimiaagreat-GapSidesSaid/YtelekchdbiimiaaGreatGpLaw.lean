/- What the statements of layer gap call: the chapter's example (alive); two digests and the document's. -/
import Derived.Test.YtelekchdbiimiaaGreatGpK
import Derived.Test.YtelekchdbiimiaaGreatRnkLaw
import Derived.Test.YtelekchdbiimiaaGreatBoth
import Derived.Deep.Cut
namespace Go.Proofs.YtelekchdbiimiaaGreat
set_option linter.unusedVariables false
set_option maxRecDepth 100000
open Go.RowKit
def gpAl1 : List Nd := [(2, 1), (3, 1)]
def gpAl2 : List Nd := [(3, 5)]
theorem gpAl : dgLdE 2 1 4 gpAl1 = 0 ∧ dgLdE 1 1 4 gpAl2 = 0 ∧ sdE 1 1 gpAl1 gpAl2 0 = 1 ∧ gpE 1 1 gpAl1 gpAl2 = 0 ∧ apX 1 1 gpAl1 gpAl2 = 0 ∧ apZ 1 1 gpAl1 gpAl2 = 1 ∧ mtE 1 1 gpAl1 gpAl2 100 = 0 ∧ mtA 1 1 gpAl1 gpAl2 100 = 50 ∧ mtB 1 1 gpAl1 gpAl2 100 = 50 := by decide +kernel
theorem gpAlB1 : NBds gpAl1 := by unfold gpAl1 NBds; decide
theorem gpAlB2 : NBds gpAl2 := by unfold gpAl2 NBds; decide
set_option maxHeartbeats 3200000 in
theorem gpAlive_any (KS : GpSd) (KA : GpAp) (KM : GpMo) (w : World) : Calls Tryz.prog 9 #[] w fun e w' => e = .returned (.bool true) ∧ Below w.heap.size w w' := by
  have AL := Lib.hid gpAl
  have PS := Lib.hid KS
  have PA := Lib.hid KA
  have PM := Lib.hid KM
  have hba : Below w.heap.size w (w.alloc (.cells #[.int .i64 2, .int .i64 1, .int .i64 3, .int .i64 1] 77)) := (Below.refl _ _).alloc (Nat.le_refl _) _
  have NV : NodesAt (w.alloc (.cells #[.int .i64 2, .int .i64 1, .int .i64 3, .int .i64 1] 77)) (.slice (some ⟨w.heap.size, 0, none⟩) 2 2) gpAl1 :=
    ownNd_nodes (World.ownsRow_lit (base := w.heap.size) (e := 77) (size := 2) w #[.int .i64 2, .int .i64 1, .int .i64 3, .int .i64 1] 2 (Nat.le_refl _) (by unfold maxLen; omega) rfl)
  have LD := Lib.hid (dgLoad_any 2 1 4 (some ⟨w.heap.size, 0, none⟩) 2 2 gpAl1 _ NV gpAlB1 (by omega) (by omega) (by omega))
  have HBA := Lib.hid hba
  clear NV hba KS KA KM
  go_enter Tryz.func9, Tryz.ntmps9
  go_wp2_with fail
  generalize w.alloc (.cells #[.int .i64 2, .int .i64 1, .int .i64 3, .int .i64 1] 77) = W at *
  refine LD.out.mono ?_
  rintro e w1 ⟨hb1, ⟨hi, _⟩ | ⟨_, q, p, g, h, rfl, hd⟩⟩
  · exact absurd AL.out.1 hi
  have B1 := Lib.hid (HBA.out.trans (hb1.mono HBA.out.size))
  have D1 := Lib.hid hd
  have PN : ∀ w, (binOp .eql 27 (.pointer (some ⟨q, 0, none⟩)) (.pointer none)).run Tryz.prog w = .ok (.bool false) w := fun _ => by kernel_rfl
  have hbb : Below w1.heap.size w1 (w1.alloc (.cells #[.int .i64 3, .int .i64 5] 77)) := (Below.refl _ _).alloc (Nat.le_refl _) _
  have NV2 : NodesAt (w1.alloc (.cells #[.int .i64 3, .int .i64 5] 77)) (.slice (some ⟨w1.heap.size, 0, none⟩) 1 1) gpAl2 :=
    ownNd_nodes (World.ownsRow_lit (base := w1.heap.size) (e := 77) (size := 2) w1 #[.int .i64 3, .int .i64 5] 1 (Nat.le_refl _) (by unfold maxLen; omega) rfl)
  have LD2 := Lib.hid (dgLoad_any 1 1 4 (some ⟨w1.heap.size, 0, none⟩) 1 1 gpAl2 _ NV2 gpAlB2 (by omega) (by omega) (by omega))
  have D2 := Lib.hid (hd.below hbb)
  have B2 := Lib.hid (B1.out.trans (hbb.mono B1.out.size))
  clear hb1 hd LD hbb NV2 D1 B1
  go_wp2_with fail
  generalize w1.alloc (.cells #[.int .i64 3, .int .i64 5] 77) = W1 at *
  refine LD2.out.mono ?_
  rintro e w2 ⟨hb2, ⟨hi, _⟩ | ⟨_, q2, p2, g2, h2, rfl, hd2⟩⟩
  · exact absurd AL.out.2.1 hi
  have B3 := Lib.hid (B2.out.trans (hb2.mono B2.out.size))
  have E1 := Lib.hid (D2.out.below hb2)
  have E2 := Lib.hid hd2
  have PN2 : ∀ w, (binOp .eql 27 (.pointer (some ⟨q2, 0, none⟩)) (.pointer none)).run Tryz.prog w = .ok (.bool false) w := fun _ => by kernel_rfl
  have L1 := Lib.hid (PS.out.side 0 w2 E1.out (by decide) E2.out (by decide) (by omega) (by omega))
  rw [AL.out.2.2.1, AL.out.2.2.2.1] at L1
  clear hb2 hd2 LD2 B2 D2
  go_wp2_with fail
  refine L1.out.mono ?_
  rintro e u1 ⟨rfl, hu1⟩
  have V1 := Lib.hid hu1
  have L2 := Lib.hid (PA.out.apart u1 (E1.out.below V1.out) (by decide) (E2.out.below V1.out) (by decide))
  rw [AL.out.2.2.2.2.1, AL.out.2.2.2.2.2.1, AL.out.2.2.2.1] at L2
  clear hu1 L1
  go_wp2_with fail
  refine L2.out.mono ?_
  rintro e u2 ⟨rfl, hu2⟩
  have V2 := Lib.hid (re_next V1.out hu2)
  have L3 := Lib.hid (PM.out.most 100 u2 (E1.out.below V2.out) (by decide) (E2.out.below V2.out) (by decide) (by omega) (by omega))
  rw [AL.out.2.2.2.2.2.2.1, AL.out.2.2.2.2.2.2.2.1, AL.out.2.2.2.2.2.2.2.2] at L3
  clear hu2 L2 V1
  go_wp2_with fail
  refine L3.out.mono ?_
  rintro e u3 ⟨rfl, hu3⟩
  have X3 := Lib.hid (box2 u3 46 (.int .i64 50) (.int .i64 50))
  have hv3 := hu3.alloc hu3.size (.cells #[.int .i64 50, .int .i64 50] 46)
  have V3 := Lib.hid (B3.out.trans ((re_next V2.out hv3).mono B3.out.size))
  obtain ⟨a0, a1, _, _, _⟩ := box_cells X3.out
  have q1 := both_same 50 50
  clear hu3 hv3 L3
  go_wp2_with fail
  go_ret
  exact ⟨rfl, V3.out⟩
end Go.Proofs.YtelekchdbiimiaaGreat
