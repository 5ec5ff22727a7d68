/- What the statements of layer bins call: the chapter's example (alive). -/
import Derived.Test.YtnhagdlpidgkcaaGreatBiK
import Derived.Test.YtnhagdlpidgkcaaGreatRnkLaw
import Derived.Test.YtnhagdlpidgkcaaGreatTiQ
import Derived.Deep.Cut
namespace Go.Proofs.YtnhagdlpidgkcaaGreat
set_option linter.unusedVariables false
set_option maxRecDepth 100000
open Go.RowKit
theorem biAl : dgLdE 2 2 4 rnkAlL = 0 ∧ egB 2 [0, 2] = true ∧ binsN 2 rnkAlL [0, 2] = [2, 0, 4] ∧ barB [2, 0, 4] 10 = true ∧ barsN [2, 0, 4] 10 = [5, 0, 10] := by decide +kernel
theorem bi_next {W a b : World} (h : Below W.heap.size W a) (hb : Below a.heap.size a b) : Below W.heap.size W b := h.trans (hb.mono h.size)
theorem bi_lit2 (w : World) (e : TypeId) (a b : Int) : IntsAt (w.alloc (.cells #[.int .i64 a, .int .i64 b] e)) (.slice (some ⟨w.heap.size, 0, none⟩) 2 2) [a, b] :=
  ownI_ints (B := w.heap.size) (e := e) (World.ownsRow_lit (base := w.heap.size) (e := e) (size := 1) w #[.int .i64 a, .int .i64 b] 2 (Nat.le_refl _) (by unfold maxLen; omega) rfl)
theorem bi_lit3 (w : World) (e : TypeId) (a b c : Int) : IntsAt (w.alloc (.cells #[.int .i64 a, .int .i64 b, .int .i64 c] e)) (.slice (some ⟨w.heap.size, 0, none⟩) 3 3) [a, b, c] :=
  ownI_ints (B := w.heap.size) (e := e) (World.ownsRow_lit (base := w.heap.size) (e := e) (size := 1) w #[.int .i64 a, .int .i64 b, .int .i64 c] 3 (Nat.le_refl _) (by unfold maxLen; omega) rfl)
set_option maxHeartbeats 3200000 in
theorem biAlive_any (KO : BiO) (KR : BiBr) (w : World) : Calls Tryz.prog 11 #[] w fun e w' => e = .returned (.bool true) ∧ Below w.heap.size w w' := by
  have AL := Lib.hid biAl
  have PO := Lib.hid KO
  have PR := Lib.hid KR
  have hba : Below w.heap.size w (w.alloc (.cells #[.int .i64 1, .int .i64 1, .int .i64 4, .int .i64 2, .int .i64 7, .int .i64 3] 87)) := (Below.refl _ _).alloc (Nat.le_refl _) _
  have NV : NodesAt (w.alloc (.cells #[.int .i64 1, .int .i64 1, .int .i64 4, .int .i64 2, .int .i64 7, .int .i64 3] 87)) (.slice (some ⟨w.heap.size, 0, none⟩) 3 3) rnkAlL :=
    ownNd_nodes (World.ownsRow_lit (base := w.heap.size) (e := 87) (size := 2) w #[.int .i64 1, .int .i64 1, .int .i64 4, .int .i64 2, .int .i64 7, .int .i64 3] 3 (Nat.le_refl _) (by unfold maxLen; omega) rfl)
  have LD := Lib.hid (dgLoad_any 2 2 4 (some ⟨w.heap.size, 0, none⟩) 3 3 rnkAlL _ NV rnkAlB (by omega) (by omega) (by omega))
  have HBA := Lib.hid hba
  clear NV hba KO KR
  go_enter Tryz.func11, Tryz.ntmps11
  go_wp2_with fail
  generalize w.alloc (.cells #[.int .i64 1, .int .i64 1, .int .i64 4, .int .i64 2, .int .i64 7, .int .i64 3] 87) = W at *
  refine LD.out.mono ?_
  rintro e w1 ⟨hb1, ⟨hi, _⟩ | ⟨_, q, p, g, h, rfl, hd⟩⟩
  · exact absurd AL.out.1 hi
  have B1 := Lib.hid (HBA.out.trans (hb1.mono HBA.out.size))
  have PN : ∀ w, (binOp .eql 31 (.pointer (some ⟨q, 0, none⟩)) (.pointer none)).run Tryz.prog w = .ok (.bool false) w := fun _ => by kernel_rfl
  have hb2 := below_one w1 (.cells #[.int .i64 0, .int .i64 2] 3)
  have OF := Lib.hid (PO.out.bof_yes _ (hd.below hb2) (by decide) (bi_lit2 w1 3 0 2) (fun t ht => by simp at ht; omega) (by omega) AL.out.2.1)
  rw [AL.out.2.2.1] at OF
  have B2 := Lib.hid (bi_next B1.out hb2)
  clear hb1 hd LD hb2
  go_wp2_with fail
  generalize w1.alloc (.cells #[.int .i64 0, .int .i64 2] 3) = W2 at *
  refine OF.out.mono ?_
  rintro e w3 ⟨⟨A3, n3, c3, rfl, hi3⟩, hb3⟩
  have n3e : n3 = 3 := (ints_cells hi3).1
  subst n3e
  have B3 := Lib.hid (bi_next B2.out hb3)
  have I3 := Lib.hid hi3
  have BR := Lib.hid (PR.out.bars 10 w3 hi3 (fun t ht => by simp at ht; omega) (by omega) (by omega) (by omega))
  rw [AL.out.2.2.2.1, if_pos rfl, AL.out.2.2.2.2] at BR
  clear hb3 hi3 OF
  go_wp2_with fail
  refine BR.out.mono ?_
  rintro e w4 ⟨⟨A4, n4, c4, rfl, hi4⟩, hb4⟩
  have n4e : n4 = 3 := (ints_cells hi4).1
  subst n4e
  have B4 := Lib.hid (bi_next B3.out hb4)
  have hb5 := below_one w4 (.cells #[.int .i64 2, .int .i64 0, .int .i64 4] 3)
  have I5 := Lib.hid (hi4.below hb5)
  have B5 := Lib.hid (bi_next B4.out hb5)
  have S5 := Lib.hid (same5_any A3 (some ⟨w4.heap.size, 0, none⟩) 3 3 c3 3 [2, 0, 4] [2, 0, 4] _ ((I3.out.below hb4).below hb5) (bi_lit3 w4 3 2 0 4) (by omega) (by omega))
  rw [show decide (([2, 0, 4] : List Int) = [2, 0, 4]) = true from decide_eq_true rfl] at S5
  clear hb4 hi4 hb5 BR I3
  go_wp2_with fail
  generalize w4.alloc (.cells #[.int .i64 2, .int .i64 0, .int .i64 4] 3) = W5 at *
  refine S5.out.mono ?_
  rintro e w6 ⟨rfl, hb6⟩
  have hb7 := below_one w6 (.cells #[.int .i64 5, .int .i64 0, .int .i64 10] 3)
  have B7 := Lib.hid (bi_next (bi_next B5.out hb6) hb7)
  have S7 := Lib.hid (same5_any A4 (some ⟨w6.heap.size, 0, none⟩) 3 3 c4 3 [5, 0, 10] [5, 0, 10] _ ((I5.out.below hb6).below hb7) (bi_lit3 w6 3 5 0 10) (by omega) (by omega))
  rw [show decide (([5, 0, 10] : List Int) = [5, 0, 10]) = true from decide_eq_true rfl] at S7
  clear hb6 hb7 S5 I5
  go_wp2_with fail
  generalize w6.alloc (.cells #[.int .i64 5, .int .i64 0, .int .i64 10] 3) = W7 at *
  refine S7.out.mono ?_
  rintro e w8 ⟨rfl, hb8⟩
  go_wp2_with fail
  go_ret
  exact ⟨rfl, bi_next B7.out hb8⟩
end Go.Proofs.YtnhagdlpidgkcaaGreat
