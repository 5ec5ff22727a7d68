/- The project's package digest: parts, Conf, N, Len, Cap, Room, Nodes. -/
import Derived.Test.YtfilmblpikcpnaaGreatDgMem
import Derived.Test.YtfilmblpikcpnaaGreatDgBox
import Derived.Test.YtfilmblpikcpnaaGreatPrP
import Derived.Test.YtfilmblpikcpnaaGreatPoLaw
namespace Go.Proofs.YtfilmblpikcpnaaGreat
set_option linter.unusedVariables false
set_option maxRecDepth 100000
open Go.RowKit

theorem body_conf (a b c : Int) (x : Option Addr) : ∀ w, (Instr.field 82 (.agg #[.int .i64 a, .int .i64 b, .int .i64 c, .pointer x]) 0).run Tryz.prog w = .ok (.agg #[.int .i64 a, .int .i64 b, .int .i64 c]) w := fun w => by kernel_rfl
theorem body_pool (a b c : Int) (x : Option Addr) : ∀ w, (Instr.field 82 (.agg #[.int .i64 a, .int .i64 b, .int .i64 c, .pointer x]) 1).run Tryz.prog w = .ok (.pointer x) w := fun w => by kernel_rfl
theorem conf_k (a b c : Int) : ∀ w, (Instr.field 23 (.agg #[.int .i64 a, .int .i64 b, .int .i64 c]) 1).run Tryz.prog w = .ok (.int .i64 b) w := fun w => by kernel_rfl
/-- a digest's box: its four cells, and where it lies -/
structure DgT4 (w : World) (B q p : Nat) (l k kd : Int) : Prop where
  top : w.ownsRow B 84 4 (.slice (some ⟨q, 0, none⟩) 1 1) 1 (dgCells l k kd p)
theorem DgT4.below {w w' : World} {B q p : Nat} {l k kd : Int} (d : DgT4 w B q p l k kd) (hb : Below w.heap.size w w') : DgT4 w' B q p l k kd := ⟨own_below d.top hb⟩
theorem DgA.box {w : World} {B q p g h : Nat} {kd l k : Int} {n : Nat} {L : List Nd} (d : DgA w B q p g h kd l k n L) : DgT4 w B q p l k kd := ⟨d.top⟩
theorem dgParts_nil (w : World) : Calls Tryz.prog 48 #[.pointer none] w fun e w' => e = .returned (.agg #[.int .i64 0, .int .i64 0, .int .i64 0, .pointer none]) ∧ Below w.heap.size w w' := by
  have HB : Hid (Below w.heap.size w (w.alloc (.cells #[.int .i64 0, .int .i64 0, .int .i64 0, .pointer none] 82))) := (Below.refl _ _).alloc (Nat.le_refl _) _
  go_enter Tryz.func48, Tryz.ntmps48
  go_wp2_with fail
  exact bodyPost_ret (v := .agg #[.int .i64 0, .int .i64 0, .int .i64 0, .pointer none]) (by simp [results, Tryz.results48, go_sem]) rfl ⟨rfl, HB.out⟩
theorem dgParts_any {B q p : Nat} {l k kd : Int} (w : World) (d : DgT4 w B q p l k kd) : Calls Tryz.prog 48 #[.pointer (some ⟨q, 0, none⟩)] w fun e w' => e = .returned (.agg #[.int .i64 l, .int .i64 k, .int .i64 kd, .pointer (some ⟨p, 0, none⟩)]) ∧ Below w.heap.size w w' := by
  have HB : Hid (∀ x y z u, Below w.heap.size w (w.alloc (.cells #[x, y, z, u] 82))) := fun x y z u => (Below.refl _ _).alloc (Nat.le_refl _) _
  obtain ⟨c0, c1, c2, c3, _, _, _, _, hz⟩ := quad_all d.top
  clear d
  go_enter Tryz.func48, Tryz.ntmps48
  go_wp2_with fail
  exact bodyPost_ret (v := .agg #[.int .i64 l, .int .i64 k, .int .i64 kd, .pointer (some ⟨p, 0, none⟩)]) (by simp [results, Tryz.results48, go_sem]) rfl ⟨rfl, HB.out _ _ _ _⟩
theorem dgConf_nil (w : World) : Calls Tryz.prog 35 #[.pointer none] w fun e w' => e = .returned (.agg #[.int .i64 0, .int .i64 0, .int .i64 0]) ∧ Below w.heap.size w w' := by
  have HB : Hid (Below w.heap.size w (w.alloc (.cells #[.int .i64 0, .int .i64 0, .int .i64 0] 23))) := (Below.refl _ _).alloc (Nat.le_refl _) _
  have X := Lib.hid (tri_nw w 23 (.int .i64 0) (.int .i64 0) (.int .i64 0))
  have F := body_conf 0 0 0 none
  go_enter Tryz.func35, Tryz.ntmps35
  go_wp2_with fail
  generalize w.alloc (.cells #[.int .i64 0, .int .i64 0, .int .i64 0] 23) = W at *
  refine (dgParts_nil _).mono ?_
  rintro e w1 ⟨rfl, hb1⟩
  have X1 := Lib.hid (own_below X.out hb1)
  obtain ⟨y0, y1, y2, f0, f1, f2, hz2⟩ := tri_all X1.out
  obtain ⟨q0, q1, q2⟩ := set_three X1.out (.int .i64 0) (.int .i64 0) (.int .i64 0)
  have B1 := Lib.hid ((HB.out.trans (hb1.mono HB.out.size)).trans (tri_set X1.out (.int .i64 0) (.int .i64 0) (.int .i64 0)).2.2.1)
  clear hb1
  go_wp2_with fail
  exact bodyPost_ret (v := .agg #[.int .i64 0, .int .i64 0, .int .i64 0]) (by simp [results, Tryz.results35, go_sem, q0, q1, q2]) rfl ⟨rfl, B1.out⟩
theorem dgConf_any {B q p : Nat} {l k kd : Int} (w : World) (d : DgT4 w B q p l k kd) : Calls Tryz.prog 35 #[.pointer (some ⟨q, 0, none⟩)] w fun e w' => e = .returned (.agg #[.int .i64 l, .int .i64 k, .int .i64 kd]) ∧ Below w.heap.size w w' := by
  have HB : Hid (Below w.heap.size w (w.alloc (.cells #[.int .i64 0, .int .i64 0, .int .i64 0] 23))) := (Below.refl _ _).alloc (Nat.le_refl _) _
  have X := Lib.hid (tri_nw w 23 (.int .i64 0) (.int .i64 0) (.int .i64 0))
  have F := body_conf l k kd (some ⟨p, 0, none⟩)
  have PT := Lib.hid (dgParts_any _ (d.below HB.out))
  clear d
  go_enter Tryz.func35, Tryz.ntmps35
  go_wp2_with fail
  generalize w.alloc (.cells #[.int .i64 0, .int .i64 0, .int .i64 0] 23) = W at *
  refine PT.out.mono ?_
  rintro e w1 ⟨rfl, hb1⟩
  have X1 := Lib.hid (own_below X.out hb1)
  obtain ⟨y0, y1, y2, f0, f1, f2, hz2⟩ := tri_all X1.out
  obtain ⟨q0, q1, q2⟩ := set_three X1.out (.int .i64 l) (.int .i64 k) (.int .i64 kd)
  have B1 := Lib.hid ((HB.out.trans (hb1.mono HB.out.size)).trans (tri_set X1.out (.int .i64 l) (.int .i64 k) (.int .i64 kd)).2.2.1)
  clear hb1
  go_wp2_with fail
  exact bodyPost_ret (v := .agg #[.int .i64 l, .int .i64 k, .int .i64 kd]) (by simp [results, Tryz.results35, go_sem, q0, q1, q2]) rfl ⟨rfl, B1.out⟩
theorem dgN_nil (w : World) : Calls Tryz.prog 21 #[.pointer none] w fun e w' => e = .returned (.int .i64 0) ∧ Below w.heap.size w w' := by
  have F := body_pool 0 0 0 none
  go_enter Tryz.func21, Tryz.ntmps21
  go_wp2_with (first | (go_at_call 48; refine (dgParts_nil _).mono ?_; rintro e w1 ⟨rfl, hb1⟩) | (go_at_call 51; refine (poTotal_nil _).mono ?_; rintro e w2 ⟨rfl, rfl⟩))
  go_ret
  exact ⟨rfl, hb1⟩
theorem dgN_any {B q p g h : Nat} {l k kd : Int} {n : Nat} {L : List Nd} (w : World) (d : DgT4 w B q p l k kd) (o : PoA w B p g h kd l n L) (hn : n ≤ 1000) : Calls Tryz.prog 21 #[.pointer (some ⟨q, 0, none⟩)] w fun e w' => e = .returned (.int .i64 (sumC L)) ∧ Below w.heap.size w w' := by
  have F := body_pool l k kd (some ⟨p, 0, none⟩)
  have PT := Lib.hid (dgParts_any _ d)
  have TT := Lib.hid (fun w1 hb => read_below (poTotal_any w1 (o.below hb) hn))
  clear d o
  generalize sumC L = s at *
  go_enter Tryz.func21, Tryz.ntmps21
  go_wp2_with (first | (go_at_call 48; refine PT.out.mono ?_; rintro e w1 ⟨rfl, hb1⟩) | (go_at_call 51; refine (TT.out _ hb1).mono ?_; rintro e w2 ⟨rfl, hb2⟩))
  go_ret
  exact ⟨rfl, hb1.trans (hb2.mono hb1.size)⟩
theorem dgLen_nil (w : World) : Calls Tryz.prog 20 #[.pointer none] w fun e w' => e = .returned (.int .i64 0) ∧ Below w.heap.size w w' := by
  have F := body_pool 0 0 0 none
  go_enter Tryz.func20, Tryz.ntmps20
  go_wp2_with (first | (go_at_call 48; refine (dgParts_nil _).mono ?_; rintro e w1 ⟨rfl, hb1⟩) | (go_at_call 50; refine (poLen_nil _).mono ?_; rintro e w2 ⟨rfl, rfl⟩))
  go_ret
  exact ⟨rfl, hb1⟩
theorem dgLen_any {B q p g h : Nat} {l k kd : Int} {n : Nat} {L : List Nd} (w : World) (d : DgT4 w B q p l k kd) (o : PoA w B p g h kd l n L) (hn : n ≤ 1000) : Calls Tryz.prog 20 #[.pointer (some ⟨q, 0, none⟩)] w fun e w' => e = .returned (.int .i64 (L.length : Int)) ∧ Below w.heap.size w w' := by
  have F := body_pool l k kd (some ⟨p, 0, none⟩)
  have PT := Lib.hid (dgParts_any _ d)
  have TT := Lib.hid (fun w1 hb => read_below (poLen_any w1 (o.below hb) hn))
  clear d o
  generalize ((L.length : Nat) : Int) = s at *
  go_enter Tryz.func20, Tryz.ntmps20
  go_wp2_with (first | (go_at_call 48; refine PT.out.mono ?_; rintro e w1 ⟨rfl, hb1⟩) | (go_at_call 50; refine (TT.out _ hb1).mono ?_; rintro e w2 ⟨rfl, hb2⟩))
  go_ret
  exact ⟨rfl, hb1.trans (hb2.mono hb1.size)⟩
theorem dgNodes_nil (w : World) : Calls Tryz.prog 19 #[.pointer none] w fun e w' => e = .returned (.slice none 0 0) ∧ Below w.heap.size w w' := by
  have F := body_pool 0 0 0 none
  go_enter Tryz.func19, Tryz.ntmps19
  go_wp2_with (first | (go_at_call 48; refine (dgParts_nil _).mono ?_; rintro e w1 ⟨rfl, hb1⟩) | (go_at_call 49; refine (poSnap_nil _).mono ?_; rintro e w2 ⟨rfl, rfl⟩))
  go_ret
  exact ⟨rfl, hb1⟩
theorem dgNodes_any {B q p g h : Nat} {l k kd : Int} {n : Nat} {L : List Nd} (w : World) (d : DgT4 w B q p l k kd) (o : PoA w B p g h kd l n L) (hn : n ≤ 1000) : Calls Tryz.prog 19 #[.pointer (some ⟨q, 0, none⟩)] w (ListOwn 74 L w) := by
  have F := body_pool l k kd (some ⟨p, 0, none⟩)
  have PT := Lib.hid (dgParts_any _ d)
  have TT := Lib.hid (fun w1 hb => poSnap_any w1 (o.below hb) hn)
  clear d o
  go_enter Tryz.func19, Tryz.ntmps19
  go_wp2_with (first | (go_at_call 48; refine PT.out.mono ?_; rintro e w1 ⟨rfl, hb1⟩) | (go_at_call 49; refine (TT.out _ hb1).mono ?_; rintro e w2 ⟨A3, m3, c3, rfl, ho, hb2⟩))
  go_ret
  exact ⟨A3, m3, c3, rfl, own_low ho hb1.size, hb1.trans (hb2.mono hb1.size)⟩
theorem dgRoom_nil (w : World) : Calls Tryz.prog 37 #[.pointer none] w fun e w' => e = .returned (.int .i64 0) ∧ Below w.heap.size w w' := by
  have F := body_conf 0 0 0 none
  have F2 := conf_k 0 0 0
  go_enter Tryz.func37, Tryz.ntmps37
  go_wp2_with (first | (go_at_call 48; refine (dgParts_nil _).mono ?_; rintro e w1 ⟨rfl, hb1⟩))
  go_ret
  exact ⟨rfl, hb1⟩
theorem dgRoom_any {B q p : Nat} {l k kd : Int} (w : World) (d : DgT4 w B q p l k kd) (k1 : 1 ≤ k) (k2 : k ≤ 1048576) : Calls Tryz.prog 37 #[.pointer (some ⟨q, 0, none⟩)] w fun e w' => e = .returned (.int .i64 (8 * k)) ∧ Below w.heap.size w w' := by
  have F := body_conf l k kd (some ⟨p, 0, none⟩)
  have F2 := conf_k l k kd
  have hw8 : IntKind.i64.wrap (8 * k) = 8 * k := wrap_lit rfl (by omega) (by omega)
  have PT := Lib.hid (dgParts_any _ d)
  clear d
  go_enter Tryz.func37, Tryz.ntmps37
  go_wp2_with (first | (go_at_call 48; refine PT.out.mono ?_; rintro e w1 ⟨rfl, hb1⟩))
  go_ret
  exact ⟨rfl, hb1⟩
theorem dgCap_nil (w : World) : Calls Tryz.prog 36 #[.pointer none] w fun e w' => e = .returned (.int .i64 0) ∧ Below w.heap.size w w' := by
  have F := body_conf 0 0 0 none
  have F2 := conf_k 0 0 0
  have CP := Lib.hid (fun w => foCap_any 0 0 w (by omega) (by omega) (by omega) (by omega))
  rw [show quoN 0 0 = 0 by decide] at CP
  go_enter Tryz.func36, Tryz.ntmps36
  go_wp2_with (first | (go_at_call 21; refine (dgN_nil _).mono ?_; rintro e w1 ⟨rfl, hb1⟩) | (go_at_call 48; refine (dgParts_nil _).mono ?_; rintro e w2 ⟨rfl, hb2⟩) | (go_at_call 65; refine (CP.out _).mono ?_; rintro e w3 ⟨rfl, rfl⟩))
  go_ret
  exact ⟨rfl, hb1.trans (hb2.mono hb1.size)⟩
theorem dgCap_any {B q p g h : Nat} {l k kd : Int} {n : Nat} {L : List Nd} (w : World) (d : DgT4 w B q p l k kd) (o : PoA w B p g h kd l n L) (hn : n ≤ 1000) (hk : kIs k = true) : Calls Tryz.prog 36 #[.pointer (some ⟨q, 0, none⟩)] w fun e w' => e = .returned (.int .i64 (sumC L / k)) ∧ Below w.heap.size w w' := by
  have F := body_conf l k kd (some ⟨p, 0, none⟩)
  have F2 := conf_k l k kd
  have NN := Lib.hid (dgN_any w d o hn)
  have PT := Lib.hid (fun w1 hb => dgParts_any w1 (d.below hb))
  have kb := of_decide_eq_true hk
  have cb := cap_bd o.roll hk
  have CP := Lib.hid (fun w => foCap_any (sumC L) k w (by omega) (by omega) (by omega) (by omega))
  rw [cap_quo o.roll hk] at CP
  unfold capW at CP cb
  clear d o
  generalize sumC L / k = c at *
  generalize sumC L = s at *
  go_enter Tryz.func36, Tryz.ntmps36
  go_wp2_with (first | (go_at_call 21; refine NN.out.mono ?_; rintro e w1 ⟨rfl, hb1⟩) | (go_at_call 48; refine (PT.out _ hb1).mono ?_; rintro e w2 ⟨rfl, hb2⟩) | (go_at_call 65; refine (CP.out _).mono ?_; rintro e w3 ⟨rfl, rfl⟩))
  go_ret
  exact ⟨rfl, hb1.trans (hb2.mono hb1.size)⟩

end Go.Proofs.YtfilmblpikcpnaaGreat
