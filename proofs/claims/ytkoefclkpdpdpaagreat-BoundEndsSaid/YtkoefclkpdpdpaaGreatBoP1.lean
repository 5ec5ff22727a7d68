/- The project's package bound: what is refused; what each tells a closure. -/
import Derived.Test.YtkoefclkpdpdpaaGreatBoK
import Derived.Test.YtkoefclkpdpdpaaGreatBoNum3
import Derived.Test.YtkoefclkpdpdpaaGreatRnQ
namespace Go.Proofs.YtkoefclkpdpdpaaGreat
set_option linter.unusedVariables false
set_option maxRecDepth 100000
open Go.RowKit

/-- a result of two cells, read behind its store -/
theorem bo_res {T : TypeId} {w : World} {B q : Nat} {x y : Value} (r : w.ownsRow B T 2 (.slice (some ⟨q, 0, none⟩) 1 1) 1 [x, y]) (u v : Value) :
    ((w.setCell ⟨q, 0, none⟩ u).setCell ⟨q, 1, none⟩ v).cell? ⟨q, 0, none⟩ = some u ∧ ((w.setCell ⟨q, 0, none⟩ u).setCell ⟨q, 1, none⟩ v).cell? ⟨q, 1, none⟩ = some v ∧ Below B w ((w.setCell ⟨q, 0, none⟩ u).setCell ⟨q, 1, none⟩ v) :=
  ⟨(box_cells (box_set r u v).1).1, (box_cells (box_set r u v).1).2.1, (box_set r u v).2.2.1⟩
theorem boRefused_nil (w : World) : Calls Tryz.prog 46 #[.pointer none] w fun e w' => e = .returned (.int .i64 1) ∧ Below w.heap.size w w' := by
  go_enter Tryz.func46, Tryz.ntmps46
  go_wp2_with fail
  go_ret
  exact ⟨rfl, Below.refl _ _⟩
theorem boRefused_any {B q p g h : Nat} {kd l k : Int} {n : Nat} {L : List Nd} (w : World) (d : DgA w B q p g h kd l k n L) (hn : n ≤ 400) :
    Calls Tryz.prog 46 #[.pointer (some ⟨q, 0, none⟩)] w fun e w' => e = .returned (.int .i64 (boE L)) ∧ Below w.heap.size w w' := by
  have PN : ∀ w, (binOp .eql 27 (.pointer (some ⟨q, 0, none⟩)) (.pointer none)).run Tryz.prog w = .ok (.bool false) w := fun _ => by kernel_rfl
  have NN := Lib.hid (dgN_any w d.box d.po (by omega))
  clear d
  by_cases hs : sumC L = 0
  · rw [(bo_no hs).1]
    rw [hs] at NN
    go_enter Tryz.func46, Tryz.ntmps46
    go_wp2_with (go_at_call 13; refine NN.out.mono ?_; rintro e w1 ⟨rfl, hb1⟩)
    go_ret
    exact ⟨rfl, hb1⟩
  · rw [(bo_yes hs).1]
    have hq : (sumC L == 0) = false := by simpa using hs
    generalize sumC L = s at *
    go_enter Tryz.func46, Tryz.ntmps46
    go_wp2_with (go_at_call 13; refine NN.out.mono ?_; rintro e w1 ⟨rfl, hb1⟩)
    go_ret
    exact ⟨rfl, hb1⟩
set_option maxHeartbeats 3200000 in
theorem boEach_any {B q p g h F : Nat} {caps : Array Value} {kd l k : Int} {n : Nat} {L : List Nd} {I : Nat → World → Prop} (w : World) (d : DgA w B q p g h kd l k n L) (hn : n ≤ 1000) (M : RnkTell w F caps l L I) (h0 : I 0 w) :
    Calls Tryz.prog 42 #[.pointer (some ⟨q, 0, none⟩), .func (.func F) #[] caps] w fun e w' => e = .returned (.tuple #[]) ∧ I L.length w' := by
  have u := d.po.uni
  have CF := Lib.hid (dgConf_any w d.box)
  have ND := Lib.hid (fun v (hb : Below w.heap.size w v) => dgNodes_any v (d.below hb).box (d.below hb).po hn)
  have LN := Lib.hid (show L.length ≤ 1000 by have := d.po.len; omega)
  have NB := Lib.hid (nbds_roll d.v.roll)
  have FD : ∀ w, (Instr.field 23 (.agg #[.int .i64 l, .int .i64 k, .int .i64 kd]) 0).run Tryz.prog w = .ok (.int .i64 l) w := fun _ => by kernel_rfl
  have eg := M.eg
  have KE := Lib.hid M.keep
  have CL := Lib.hid M.call
  have H0 := Lib.hid h0
  clear d M h0
  go_enter Tryz.func42, Tryz.ntmps42
  go_wp2_with fail
  refine CF.out.mono ?_
  rintro e w1 ⟨rfl, hb1⟩
  have B1 := Lib.hid hb1
  have S1 := Lib.hid hb1.size
  clear hb1 CF
  go_wp2_with fail
  refine (ND.out _ B1.out).mono ?_
  rintro e w2 ⟨A1, n1, c1, rfl, ho1, hb2⟩
  have HL := Lib.hid (nodes_cells (ownNd_nodes ho1)).1
  have n1b : n1 ≤ 1000 := by have := HL.out; have := LN.out; omega
  have O1 := Lib.hid (own_low ho1 S1.out)
  have I0 := Lib.hid (KE.out _ _ _ H0.out (B1.out.trans (hb2.mono S1.out)))
  clear ho1 hb2 ND
  go_wp2_with fail
  go_loopw [16] (fun i wr => ∃ j : Nat, j ≤ n1 ∧ i = .int .i64 j ∧ OwnNd 87 wr w.heap.size (.slice A1 n1 c1) L ∧ I j wr) (fun i _ => n1 - (intOf i).toNat)
  case atStart => exact ⟨0, by omega, rfl, O1.out, I0.out⟩
  case round =>
    obtain ⟨j, hj, rfl, ho, hI⟩ := hrel
    have OO := Lib.hid ho
    have II := Lib.hid hI
    clear ho hI
    by_cases hlt : j < n1
    · have hjl : j < L.length := by have := HL.out; omega
      rcases ownNd_form OO.out with ⟨_, z⟩ | ⟨g2, cap, hv, _, hgw, _, _, hin⟩
      · rw [z] at hjl; simp at hjl
      · injection hv with hv1 hv2 hv3
        subst hv1
        obtain ⟨e0, e1⟩ := hin.2 j hjl
        simp only [Nat.zero_add] at e0 e1
        have nb := nbds_at NB.out hjl
        have CM := Lib.hid (CL.out j hjl (wr.alloc (.cells #[.int .i64 (L.getD j nz).1, .int .i64 (L.getD j nz).2] 87)) (KE.out j _ _ II.out (below_one _ _)))
        have OA := Lib.hid (World.ownsRow.alloc OO.out (.cells #[.int .i64 (L.getD j nz).1, .int .i64 (L.getD j nz).2] 87))
        generalize (L.getD j nz).1 = id at *
        generalize (L.getD j nz).2 = ct at *
        have k0' : (0 : Int) ≤ (j : Int) := Int.natCast_nonneg _
        have k1' : (j : Int) < (n1 : Int) := by omega
        have EN := Lib.hid (fun w => ends_any l id w (by omega) (by omega) nb.1.1 nb.1.2)
        clear hv2 hv3 hin
        go_wp2_with (first | (go_at_call 84; refine (EN.out _).mono ?_; rintro e w3 ⟨rfl, rfl⟩) | (go_at_fn F; refine CM.out.mono ?_; rintro e w4 ⟨rfl, hI4, hk4⟩))
        go_roundw
        case rel => exact ⟨j + 1, by omega, by go_num, hk4.2 _ _ OA.out, hI4⟩
        case measure => simp [intOf]; omega
    · obtain rfl : j = n1 := by omega
      have hd : j = L.length := HL.out
      have II2 : Hid (I L.length wr) := by show I _ _; rw [← hd]; exact II.out
      clear hd
      go_wp2_with fail
      go_end0
      exact ⟨rfl, II2.out⟩
theorem boEach_nil (f : Value) (w : World) : Calls Tryz.prog 42 #[.pointer none, f] w fun e w' => e = .returned (.tuple #[]) ∧ Below w.heap.size w w' := by
  have FD : ∀ w, (Instr.field 23 (.agg #[.int .i64 0, .int .i64 0, .int .i64 0]) 0).run Tryz.prog w = .ok (.int .i64 0) w := fun _ => by kernel_rfl
  go_enter Tryz.func42, Tryz.ntmps42
  go_wp2_with fail
  refine (dgConf_nil w).mono ?_
  rintro e w1 ⟨rfl, hb1⟩
  have B1 := Lib.hid hb1
  clear hb1
  go_wp2_with fail
  refine (dgNodes_nil _).mono ?_
  rintro e w2 ⟨rfl, hb2⟩
  have B2 := Lib.hid (B1.out.trans (hb2.mono B1.out.size))
  clear hb2
  go_wp2_with fail
  refine wp_loop_rounds 1 ?_
  rw [rounds_succ]
  go_wp2_with fail
  go_end0
  exact ⟨rfl, B2.out⟩

end Go.Proofs.YtkoefclkpdpdpaaGreat
