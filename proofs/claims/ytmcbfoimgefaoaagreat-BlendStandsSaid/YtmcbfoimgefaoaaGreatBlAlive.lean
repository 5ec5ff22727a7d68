/- What the statements of layer blend call: the chapter's example (alive). -/
import Derived.Test.YtmcbfoimgefaoaaGreatBl2
import Derived.Test.YtmcbfoimgefaoaaGreatDgL
namespace Go.Proofs.YtmcbfoimgefaoaaGreat
set_option linter.unusedVariables false
set_option maxRecDepth 100000
open Go.RowKit

theorem bl_is : (kIs 1 = true ∧ isP 2 2 = true) ∧ (kIs 2 = true ∧ isP 1 2 = true) := by decide
theorem bl_ins : dgE 2 [] 0 1 = 0 ∧ dgIns 2 1 [] 0 1 = [(4, 1)] ∧ dgE 2 [] 3 2 = 0 ∧ dgIns 2 2 [] 3 2 = [(7, 2)] ∧ bmgE 2 2 [(4, 1)] [(7, 2)] = 0 ∧ bmgK 1 2 = 1 ∧ bmgL 2 1 [(4, 1)] [(7, 2)] = [(1, 3)] := by decide +kernel
set_option maxHeartbeats 3200000 in
theorem blAlive_any (w : World) : Calls Tryz.prog 10 #[] w fun e w' => e = .returned (.bool true) ∧ Below w.heap.size w w' := by
  have AI := Lib.hid bl_ins
  have CE := conf_eq 2 1 2
  have PN : ∀ (q : Nat) w, (binOp .eql 27 (.pointer (some ⟨q, 0, none⟩)) (.pointer none)).run Tryz.prog w = .ok (.bool false) w := fun _ _ => by kernel_rfl
  go_enter Tryz.func10, Tryz.ntmps10
  go_wp2_with fail
  refine (dgNew_ok 2 2 1 _ bl_is.1.1 bl_is.1.2).mono ?_
  rintro e w1 ⟨hb1, q, p, g, h, rfl, hd1⟩
  have B1 := Lib.hid hb1
  have D1 := Lib.hid hd1
  clear hb1 hd1
  go_wp2_with fail
  refine (dgNew_ok 1 2 2 _ bl_is.2.1 bl_is.2.2).mono ?_
  rintro e w2 ⟨hb2, q2, p2, g2, h2, rfl, hd2⟩
  have B2 := Lib.hid (B1.out.trans (hb2.mono B1.out.size))
  have A2 := Lib.hid (D1.out.below hb2)
  have E2 := Lib.hid hd2
  have PN1 := PN q
  have PN2 := PN q2
  have INS := Lib.hid (dgInsert_any 0 1 w2 A2.out (by omega) (by omega) (by omega) (by omega) (by omega))
  rw [AI.out.1, AI.out.2.1] at INS
  clear hb2 hd2 PN
  go_wp2_with fail
  refine INS.out.mono ?_
  rintro e w3 ⟨rfl, p', g', h', hd3, hk3, hn3⟩
  have S1 := B1.out.size
  have S2 := B2.out.size
  have A3 := Lib.hid hd3
  have NW := Lib.hid hn3
  have E3 := Lib.hid (E2.out.kp hk3 fun i f z => by have a := (D1.out.lt i f).2; have b := (E2.out.lt i z).1; omega)
  have B3 : Hid (Below w.heap.size w w3) := B2.out.trans (hk3.below (fun i _ f => (D1.out.lt i f).1) S2)
  have INS2 := Lib.hid (dgInsert_any 3 2 w3 E3.out (by omega) (by omega) (by omega) (by omega) (by omega))
  rw [AI.out.2.2.1, AI.out.2.2.2.1] at INS2
  clear hd3 hk3 hn3 INS
  go_wp2_with fail
  refine INS2.out.mono ?_
  rintro e w4 ⟨rfl, p2', g2', h2', hd4, hk4, _⟩
  have E4 := Lib.hid hd4
  have A4 := Lib.hid (A3.out.kp hk4 fun i f z => by
    have a := (E2.out.lt i f).2
    have b := (E2.out.lt i f).1
    rcases NW.out i z with u | u
    · have := (D1.out.lt i u).2
      omega
    · omega)
  have B4 : Hid (Below w.heap.size w w4) := B3.out.trans (hk4.below (fun i _ f => by have := (E2.out.lt i f).1; omega) B3.out.size)
  have MG := Lib.hid (blMerge_any w4 A4.out E4.out (by omega) (by omega) (by simp))
  clear hd4 hk4 INS2
  go_wp2_with fail
  refine MG.out.mono ?_
  rintro e w5 (⟨z, _⟩ | ⟨_, _, hb5, q5, p5, g5, h5, rfl, hd5⟩)
  · exact absurd AI.out.2.2.2.2.1 z
  rw [AI.out.2.2.2.2.2.1, AI.out.2.2.2.2.2.2] at hd5
  have D5 := Lib.hid hd5
  have B5 := Lib.hid (B4.out.trans (hb5.mono B4.out.size))
  clear hb5 hd5 MG
  go_wp2_with fail
  refine (dgConf_any w5 D5.out.box).mono ?_
  rintro e w6 ⟨rfl, hb6⟩
  have D6 := Lib.hid (D5.out.below hb6)
  have B6 := Lib.hid (B5.out.trans (hb6.mono B5.out.size))
  clear hb6
  go_wp2_with fail
  refine (dgNodes_any w6 D6.out.box D6.out.po (by simp)).mono ?_
  rintro e w8 ⟨A8, m8, c8, rfl, ho8, hb8⟩
  have B8 := Lib.hid (B6.out.trans (hb8.mono B6.out.size))
  have hba : Below w8.heap.size w8 (w8.alloc (.cells #[.int .i64 1, .int .i64 3] 79)) := (Below.refl _ _).alloc (Nat.le_refl _) _
  have B9 := Lib.hid (B8.out.trans (hba.mono B8.out.size))
  have SM := Lib.hid (dgSame_below (rSame_any A8 (some ⟨w8.heap.size, 0, none⟩) m8 c8 1 1 [(1, 3)] [(1, 3)] _ ((ownNd_nodes ho8).below hba)
    (ownNd_nodes (World.ownsRow_lit (base := w8.heap.size) (e := 79) (size := 2) w8 #[.int .i64 1, .int .i64 3] 1 (Nat.le_refl _) (by unfold maxLen; omega) rfl)) (by have := (nodes_cells (ownNd_nodes ho8)).1; simp at this; omega) (by omega)))
  clear ho8 hb8 hba
  go_wp2_with (go_at_call 28; refine SM.out.mono ?_; rintro e w10 ⟨rfl, hb10⟩)
  go_ret
  exact ⟨rfl, B9.out.trans (hb10.mono B9.out.size)⟩

end Go.Proofs.YtmcbfoimgefaoaaGreat
