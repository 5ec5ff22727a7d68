/- Texts laid together: Dg, Dg2, Dg3, Dg4. -/
import Derived.Test.YtfmgcabgbnfjlaaDgN
import Derived.Test.YtfmgcabgbnfjlaaPrP
import Derived.Test.YtfmgcabgbnfjlaaPoQ
import Derived.Deep.RegionHeld3
import Derived.Laws.StructEq
/- The project's package digest: parts, Conf, N, Len, Cap, Room, Nodes. -/
namespace Go.Proofs.Ytfmgcabgbnfjlaa
set_option linter.unusedVariables false
set_option maxRecDepth 100000
open Go.RowKit

theorem body_conf (a b c : Int) (x : Option Addr) : ∀ w, (Instr.field 59 (.agg #[.int .i64 a, .int .i64 b, .int .i64 c, .pointer x]) 0).run Try.prog w = .ok (.agg #[.int .i64 a, .int .i64 b, .int .i64 c]) w := fun w => by kernel_rfl
theorem body_pool (a b c : Int) (x : Option Addr) : ∀ w, (Instr.field 59 (.agg #[.int .i64 a, .int .i64 b, .int .i64 c, .pointer x]) 1).run Try.prog w = .ok (.pointer x) w := fun w => by kernel_rfl
theorem conf_k (a b c : Int) : ∀ w, (Instr.field 23 (.agg #[.int .i64 a, .int .i64 b, .int .i64 c]) 1).run Try.prog w = .ok (.int .i64 b) w := fun w => by kernel_rfl
/-- a digest's box: its four cells, and where it lies -/
structure DgT4 (w : World) (B q p : Nat) (l k kd : Int) : Prop where
  top : w.ownsRow B 72 4 (.slice (some ⟨q, 0, none⟩) 1 1) 1 (dgCells l k kd p)
theorem DgT4.below {w w' : World} {B q p : Nat} {l k kd : Int} (d : DgT4 w B q p l k kd) (hb : Below w.heap.size w w') : DgT4 w' B q p l k kd := ⟨own_below d.top hb⟩
theorem DgA.box {w : World} {B q p g h : Nat} {kd l k : Int} {n : Nat} {L : List Nd} (d : DgA w B q p g h kd l k n L) : DgT4 w B q p l k kd := ⟨d.top⟩
theorem dgParts_nil (w : World) : Calls Try.prog 24 #[.pointer none] w fun e w' => e = .returned (.agg #[.int .i64 0, .int .i64 0, .int .i64 0, .pointer none]) ∧ Below w.heap.size w w' := by
  have HB : Hid (Below w.heap.size w (w.alloc (.cells #[.int .i64 0, .int .i64 0, .int .i64 0, .pointer none] 59))) := (Below.refl _ _).alloc (Nat.le_refl _) _
  go_enter Try.func24, Try.ntmps24
  go_wp2_with fail
  exact bodyPost_ret (v := .agg #[.int .i64 0, .int .i64 0, .int .i64 0, .pointer none]) (by simp [results, Try.results24, go_sem]) rfl ⟨rfl, HB.out⟩
theorem dgParts_any {B q p : Nat} {l k kd : Int} (w : World) (d : DgT4 w B q p l k kd) : Calls Try.prog 24 #[.pointer (some ⟨q, 0, none⟩)] w fun e w' => e = .returned (.agg #[.int .i64 l, .int .i64 k, .int .i64 kd, .pointer (some ⟨p, 0, none⟩)]) ∧ Below w.heap.size w w' := by
  have HB : Hid (∀ x y z u, Below w.heap.size w (w.alloc (.cells #[x, y, z, u] 59))) := fun x y z u => (Below.refl _ _).alloc (Nat.le_refl _) _
  obtain ⟨c0, c1, c2, c3, _, _, _, _, hz⟩ := quad_all d.top
  clear d
  go_enter Try.func24, Try.ntmps24
  go_wp2_with fail
  exact bodyPost_ret (v := .agg #[.int .i64 l, .int .i64 k, .int .i64 kd, .pointer (some ⟨p, 0, none⟩)]) (by simp [results, Try.results24, go_sem]) rfl ⟨rfl, HB.out _ _ _ _⟩
theorem dgConf_nil (w : World) : Calls Try.prog 18 #[.pointer none] w fun e w' => e = .returned (.agg #[.int .i64 0, .int .i64 0, .int .i64 0]) ∧ Below w.heap.size w w' := by
  have HB : Hid (Below w.heap.size w (w.alloc (.cells #[.int .i64 0, .int .i64 0, .int .i64 0] 23))) := (Below.refl _ _).alloc (Nat.le_refl _) _
  have X := Lib.hid (tri_nw w 23 (.int .i64 0) (.int .i64 0) (.int .i64 0))
  have F := body_conf 0 0 0 none
  go_enter Try.func18, Try.ntmps18
  go_wp2_with fail
  generalize w.alloc (.cells #[.int .i64 0, .int .i64 0, .int .i64 0] 23) = W at *
  refine (dgParts_nil _).mono ?_
  rintro e w1 ⟨rfl, hb1⟩
  have X1 := Lib.hid (own_below X.out hb1)
  obtain ⟨y0, y1, y2, f0, f1, f2, hz2⟩ := tri_all X1.out
  obtain ⟨q0, q1, q2⟩ := set_three X1.out (.int .i64 0) (.int .i64 0) (.int .i64 0)
  have B1 := Lib.hid ((HB.out.trans (hb1.mono HB.out.size)).trans (tri_set X1.out (.int .i64 0) (.int .i64 0) (.int .i64 0)).2.2.1)
  clear hb1
  go_wp2_with fail
  exact bodyPost_ret (v := .agg #[.int .i64 0, .int .i64 0, .int .i64 0]) (by simp [results, Try.results18, go_sem, q0, q1, q2]) rfl ⟨rfl, B1.out⟩
theorem dgConf_any {B q p : Nat} {l k kd : Int} (w : World) (d : DgT4 w B q p l k kd) : Calls Try.prog 18 #[.pointer (some ⟨q, 0, none⟩)] w fun e w' => e = .returned (.agg #[.int .i64 l, .int .i64 k, .int .i64 kd]) ∧ Below w.heap.size w w' := by
  have HB : Hid (Below w.heap.size w (w.alloc (.cells #[.int .i64 0, .int .i64 0, .int .i64 0] 23))) := (Below.refl _ _).alloc (Nat.le_refl _) _
  have X := Lib.hid (tri_nw w 23 (.int .i64 0) (.int .i64 0) (.int .i64 0))
  have F := body_conf l k kd (some ⟨p, 0, none⟩)
  have PT := Lib.hid (dgParts_any _ (d.below HB.out))
  clear d
  go_enter Try.func18, Try.ntmps18
  go_wp2_with fail
  generalize w.alloc (.cells #[.int .i64 0, .int .i64 0, .int .i64 0] 23) = W at *
  refine PT.out.mono ?_
  rintro e w1 ⟨rfl, hb1⟩
  have X1 := Lib.hid (own_below X.out hb1)
  obtain ⟨y0, y1, y2, f0, f1, f2, hz2⟩ := tri_all X1.out
  obtain ⟨q0, q1, q2⟩ := set_three X1.out (.int .i64 l) (.int .i64 k) (.int .i64 kd)
  have B1 := Lib.hid ((HB.out.trans (hb1.mono HB.out.size)).trans (tri_set X1.out (.int .i64 l) (.int .i64 k) (.int .i64 kd)).2.2.1)
  clear hb1
  go_wp2_with fail
  exact bodyPost_ret (v := .agg #[.int .i64 l, .int .i64 k, .int .i64 kd]) (by simp [results, Try.results18, go_sem, q0, q1, q2]) rfl ⟨rfl, B1.out⟩
theorem dgN_nil (w : World) : Calls Try.prog 13 #[.pointer none] w fun e w' => e = .returned (.int .i64 0) ∧ Below w.heap.size w w' := by
  have F := body_pool 0 0 0 none
  go_enter Try.func13, Try.ntmps13
  go_wp2_with (first | (go_at_call 24; refine (dgParts_nil _).mono ?_; rintro e w1 ⟨rfl, hb1⟩) | (go_at_call 25; refine (poTotal_nil _).mono ?_; rintro e w2 ⟨rfl, rfl⟩))
  go_ret
  exact ⟨rfl, hb1⟩
theorem dgN_any {B q p g h : Nat} {l k kd : Int} {n : Nat} {L : List Nd} (w : World) (d : DgT4 w B q p l k kd) (o : PoA w B p g h kd l n L) (hn : n ≤ 1000) : Calls Try.prog 13 #[.pointer (some ⟨q, 0, none⟩)] w fun e w' => e = .returned (.int .i64 (sumC L)) ∧ Below w.heap.size w w' := by
  have F := body_pool l k kd (some ⟨p, 0, none⟩)
  have PT := Lib.hid (dgParts_any _ d)
  have TT := Lib.hid (fun w1 hb => read_below (poTotal_any w1 (o.below hb) hn))
  clear d o
  generalize sumC L = s at *
  go_enter Try.func13, Try.ntmps13
  go_wp2_with (first | (go_at_call 24; refine PT.out.mono ?_; rintro e w1 ⟨rfl, hb1⟩) | (go_at_call 25; refine (TT.out _ hb1).mono ?_; rintro e w2 ⟨rfl, hb2⟩))
  go_ret
  exact ⟨rfl, hb1.trans (hb2.mono hb1.size)⟩
theorem dgLen_nil (w : World) : Calls Try.prog 33 #[.pointer none] w fun e w' => e = .returned (.int .i64 0) ∧ Below w.heap.size w w' := by
  have F := body_pool 0 0 0 none
  go_enter Try.func33, Try.ntmps33
  go_wp2_with (first | (go_at_call 24; refine (dgParts_nil _).mono ?_; rintro e w1 ⟨rfl, hb1⟩) | (go_at_call 55; refine (poLen_nil _).mono ?_; rintro e w2 ⟨rfl, rfl⟩))
  go_ret
  exact ⟨rfl, hb1⟩
theorem dgLen_any {B q p g h : Nat} {l k kd : Int} {n : Nat} {L : List Nd} (w : World) (d : DgT4 w B q p l k kd) (o : PoA w B p g h kd l n L) (hn : n ≤ 1000) : Calls Try.prog 33 #[.pointer (some ⟨q, 0, none⟩)] w fun e w' => e = .returned (.int .i64 (L.length : Int)) ∧ Below w.heap.size w w' := by
  have F := body_pool l k kd (some ⟨p, 0, none⟩)
  have PT := Lib.hid (dgParts_any _ d)
  have TT := Lib.hid (fun w1 hb => read_below (poLen_any w1 (o.below hb) hn))
  clear d o
  generalize ((L.length : Nat) : Int) = s at *
  go_enter Try.func33, Try.ntmps33
  go_wp2_with (first | (go_at_call 24; refine PT.out.mono ?_; rintro e w1 ⟨rfl, hb1⟩) | (go_at_call 55; refine (TT.out _ hb1).mono ?_; rintro e w2 ⟨rfl, hb2⟩))
  go_ret
  exact ⟨rfl, hb1.trans (hb2.mono hb1.size)⟩
theorem dgNodes_nil (w : World) : Calls Try.prog 26 #[.pointer none] w fun e w' => e = .returned (.slice none 0 0) ∧ Below w.heap.size w w' := by
  have F := body_pool 0 0 0 none
  go_enter Try.func26, Try.ntmps26
  go_wp2_with (first | (go_at_call 24; refine (dgParts_nil _).mono ?_; rintro e w1 ⟨rfl, hb1⟩) | (go_at_call 47; refine (poSnap_nil _).mono ?_; rintro e w2 ⟨rfl, rfl⟩))
  go_ret
  exact ⟨rfl, hb1⟩
theorem dgNodes_any {B q p g h : Nat} {l k kd : Int} {n : Nat} {L : List Nd} (w : World) (d : DgT4 w B q p l k kd) (o : PoA w B p g h kd l n L) (hn : n ≤ 1000) : Calls Try.prog 26 #[.pointer (some ⟨q, 0, none⟩)] w (ListOwn 54 L w) := by
  have F := body_pool l k kd (some ⟨p, 0, none⟩)
  have PT := Lib.hid (dgParts_any _ d)
  have TT := Lib.hid (fun w1 hb => poSnap_any w1 (o.below hb) hn)
  clear d o
  go_enter Try.func26, Try.ntmps26
  go_wp2_with (first | (go_at_call 24; refine PT.out.mono ?_; rintro e w1 ⟨rfl, hb1⟩) | (go_at_call 47; refine (TT.out _ hb1).mono ?_; rintro e w2 ⟨A3, m3, c3, rfl, ho, hb2⟩))
  go_ret
  exact ⟨A3, m3, c3, rfl, own_low ho hb1.size, hb1.trans (hb2.mono hb1.size)⟩
theorem dgRoom_nil (w : World) : Calls Try.prog 34 #[.pointer none] w fun e w' => e = .returned (.int .i64 0) ∧ Below w.heap.size w w' := by
  have F := body_conf 0 0 0 none
  have F2 := conf_k 0 0 0
  go_enter Try.func34, Try.ntmps34
  go_wp2_with (first | (go_at_call 24; refine (dgParts_nil _).mono ?_; rintro e w1 ⟨rfl, hb1⟩))
  go_ret
  exact ⟨rfl, hb1⟩
theorem dgRoom_any {B q p : Nat} {l k kd : Int} (w : World) (d : DgT4 w B q p l k kd) (k1 : 1 ≤ k) (k2 : k ≤ 1048576) : Calls Try.prog 34 #[.pointer (some ⟨q, 0, none⟩)] w fun e w' => e = .returned (.int .i64 (8 * k)) ∧ Below w.heap.size w w' := by
  have F := body_conf l k kd (some ⟨p, 0, none⟩)
  have F2 := conf_k l k kd
  have hw8 : IntKind.i64.wrap (8 * k) = 8 * k := wrap_lit rfl (by omega) (by omega)
  have PT := Lib.hid (dgParts_any _ d)
  clear d
  go_enter Try.func34, Try.ntmps34
  go_wp2_with (first | (go_at_call 24; refine PT.out.mono ?_; rintro e w1 ⟨rfl, hb1⟩))
  go_ret
  exact ⟨rfl, hb1⟩
theorem dgCap_nil (w : World) : Calls Try.prog 19 #[.pointer none] w fun e w' => e = .returned (.int .i64 0) ∧ Below w.heap.size w w' := by
  have F := body_conf 0 0 0 none
  have F2 := conf_k 0 0 0
  have CP := Lib.hid (fun w => foCap_any 0 0 w (by omega) (by omega) (by omega) (by omega))
  rw [show quoN 0 0 = 0 by decide] at CP
  go_enter Try.func19, Try.ntmps19
  go_wp2_with (first | (go_at_call 13; refine (dgN_nil _).mono ?_; rintro e w1 ⟨rfl, hb1⟩) | (go_at_call 24; refine (dgParts_nil _).mono ?_; rintro e w2 ⟨rfl, hb2⟩) | (go_at_call 31; refine (CP.out _).mono ?_; rintro e w3 ⟨rfl, rfl⟩))
  go_ret
  exact ⟨rfl, hb1.trans (hb2.mono hb1.size)⟩
theorem dgCap_any {B q p g h : Nat} {l k kd : Int} {n : Nat} {L : List Nd} (w : World) (d : DgT4 w B q p l k kd) (o : PoA w B p g h kd l n L) (hn : n ≤ 1000) (hk : kIs k = true) : Calls Try.prog 19 #[.pointer (some ⟨q, 0, none⟩)] w fun e w' => e = .returned (.int .i64 (sumC L / k)) ∧ Below w.heap.size w w' := by
  have F := body_conf l k kd (some ⟨p, 0, none⟩)
  have F2 := conf_k l k kd
  have NN := Lib.hid (dgN_any w d o hn)
  have PT := Lib.hid (fun w1 hb => dgParts_any w1 (d.below hb))
  have kb := of_decide_eq_true hk
  have cb := cap_bd o.roll hk
  have CP := Lib.hid (fun w => foCap_any (sumC L) k w (by omega) (by omega) (by omega) (by omega))
  rw [cap_quo o.roll hk] at CP
  unfold capW at CP cb
  clear d o
  generalize sumC L / k = c at *
  generalize sumC L = s at *
  go_enter Try.func19, Try.ntmps19
  go_wp2_with (first | (go_at_call 13; refine NN.out.mono ?_; rintro e w1 ⟨rfl, hb1⟩) | (go_at_call 24; refine (PT.out _ hb1).mono ?_; rintro e w2 ⟨rfl, hb2⟩) | (go_at_call 31; refine (CP.out _).mono ?_; rintro e w3 ⟨rfl, rfl⟩))
  go_ret
  exact ⟨rfl, hb1.trans (hb2.mono hb1.size)⟩

end Go.Proofs.Ytfmgcabgbnfjlaa

/- The project's package digest: Compress, Insert. -/
namespace Go.Proofs.Ytfmgcabgbnfjlaa
set_option linter.unusedVariables false
set_option maxRecDepth 100000
open Go.RowKit

end Go.Proofs.Ytfmgcabgbnfjlaa

/- The project's package digest: Clone, Reset, ofAnyKind, Same. -/
namespace Go.Proofs.Ytfmgcabgbnfjlaa
set_option linter.unusedVariables false
set_option maxRecDepth 100000
open Go.RowKit

/-- two confs held against each other -/
theorem conf_eq (a b c : Int) : ∀ w, (binOp .eql 23 (.agg #[.int .i64 a, .int .i64 b, .int .i64 c]) (.agg #[.int .i64 a, .int .i64 b, .int .i64 c])).run Try.prog w = .ok (.bool true) w := by
  intro w
  have i3 := fun (a b : Int) (w : World) => run_equalIn_int (P := Try.prog) w 9998 3 .i64 .i64 a b Try.underlying3
  rw [run_eql_struct, run_equalIn_agg _ _ _ _ _ (by kernel_rfl) (by kernel_rfl)]
  unfold Program.fieldsOf
  rw [Try.underlying23]
  have p0 : ∀ (a b c : Value) w, (part 3 #[a, b, c] 0).run Try.prog w = .ok a w := fun _ _ _ _ => by kernel_rfl
  have p1 : ∀ (a b c : Value) w, (part 3 #[a, b, c] 1).run Try.prog w = .ok b w := fun _ _ _ _ => by kernel_rfl
  have p2 : ∀ (a b c : Value) w, (part 3 #[a, b, c] 2).run Try.prog w = .ok c w := fun _ _ _ _ => by kernel_rfl
  simp only [Op.eqFields, Sem.run_bind, Sem.run_ite, p0, p1, p2, Result.andThen_ok, i3]
  simp [Result.andThen]
end Go.Proofs.Ytfmgcabgbnfjlaa

/- The project's package digest: Load, New. -/
namespace Go.Proofs.Ytfmgcabgbnfjlaa
set_option linter.unusedVariables false
set_option maxRecDepth 100000
open Go.RowKit

/-- what Load leaves -/
def DgLoadPost (kd l k : Int) (L : List Nd) (w : World) (e : Ending) (w' : World) : Prop := Below w.heap.size w w' ∧
  ((¬ dgLdE kd l k L = 0 ∧ e = .returned (.tuple #[.pointer none, .int .i64 (dgLdE kd l k L)])) ∨
   (dgLdE kd l k L = 0 ∧ ∃ q p g h, e = .returned (.tuple #[.pointer (some ⟨q, 0, none⟩), .int .i64 0]) ∧ DgA w' w.heap.size q p g h kd l k L.length L))
theorem dg_load_no {kd l k : Int} {L : List Nd} {w w' : World} {x : Int} (h : dgLdE kd l k L = x) (hx : ¬ x = 0) (hb : Below w.heap.size w w') : DgLoadPost kd l k L w (.returned (.tuple #[.pointer none, .int .i64 x])) w' :=
  ⟨hb, .inl ⟨by rw [h]; exact hx, by rw [h]⟩⟩
set_option maxHeartbeats 3200000 in
theorem dgLoad_any (kd l k : Int) (A : Option Addr) (m c : Nat) (L : List Nd) (w : World) (hv : NodesAt w (.slice A m c) L) (hB : NBds L) (hm : m ≤ 500) (L0 : -9223372036854775808 ≤ l) (L1 : l ≤ 9223372036854775807) :
    Calls Try.prog 20 #[.agg #[.int .i64 l, .int .i64 k, .int .i64 kd], .slice A m c] w (DgLoadPost kd l k L w) := by
  have HB0 : Hid (Below w.heap.size w (w.alloc (.cells #[.int .i64 l, .int .i64 k, .int .i64 kd] 23))) := (Below.refl _ _).alloc (Nat.le_refl _) _
  have X0 := Lib.hid (tri_nw w 23 (.int .i64 l) (.int .i64 k) (.int .i64 kd))
  obtain ⟨x0, x1, x2, _, _, _, hz⟩ := tri_all X0.out
  by_cases h1 : k < 1
  · have c1 : decide (k < 1) = true := decide_eq_true h1
    have E := Lib.hid (dgLdE_conf (kd := kd) (l := l) (k := k) (L := L) (fun q => by have z : 1 ≤ k ∧ k ≤ 1048576 := of_decide_eq_true q.1; omega))
    clear hv hB h1
    go_enter Try.func20, Try.ntmps20
    go_wp2_with fail
    go_ret2
    exact dg_load_no E.out (by omega) HB0.out
  · have c1 : decide (k < 1) = false := decide_eq_false h1
    by_cases h2 : 1048576 < k
    · have c2 : decide (1048576 < k) = true := decide_eq_true h2
      have E := Lib.hid (dgLdE_conf (kd := kd) (l := l) (k := k) (L := L) (fun q => by have z : 1 ≤ k ∧ k ≤ 1048576 := of_decide_eq_true q.1; omega))
      clear hv hB h1 h2
      go_enter Try.func20, Try.ntmps20
      go_wp2_with fail
      go_ret2
      exact dg_load_no E.out (by omega) HB0.out
    · have c2 : decide (1048576 < k) = false := decide_eq_false h2
      have kb1 : 1 ≤ k := by omega
      have kb2 : k ≤ 1048576 := by omega
      have HK : Hid (kIs k = true) := decide_eq_true ⟨kb1, kb2⟩
      have LD := Lib.hid (poLoad_any kd l A m c L _ (hv.below HB0.out) hB (by omega) L0 L1)
      have hlen : L.length ≤ 500 := by have := (nodes_cells hv).1; omega
      clear hv hB h1 h2
      go_enter Try.func20, Try.ntmps20
      go_wp2_with fail
      generalize w.alloc (.cells #[.int .i64 l, .int .i64 k, .int .i64 kd] 23) = W at *
      refine LD.out.mono ?_
      rintro e w1 ⟨hb1, ⟨hi, rfl⟩ | ⟨hi, hr, rfl⟩ | ⟨hi, hr, p, g, h, rfl, hd⟩⟩
      · have E := Lib.hid (dgLdE_conf (kd := kd) (l := l) (k := k) (L := L) (fun q => by rw [hi] at q; exact absurd q.2 (by simp)))
        have B1 := Lib.hid (HB0.out.trans (hb1.mono HB0.out.size))
        clear hi hb1
        go_wp2_with fail
        go_ret2
        exact dg_load_no E.out (by omega) B1.out
      · have E := Lib.hid (dgLdE_form (L := L) HK.out hi hr)
        have B1 := Lib.hid (HB0.out.trans (hb1.mono HB0.out.size))
        clear hi hb1 hr
        go_wp2_with fail
        go_ret2
        exact dg_load_no E.out (by omega) B1.out
      · have B1 := Lib.hid (HB0.out.trans (hb1.mono HB0.out.size))
        have X1 := Lib.hid (own_below X0.out hb1)
        have HI := Lib.hid hi
        have HR := Lib.hid hr
        have hba : Below w1.heap.size w1 (w1.alloc (.cells #[.int .i64 l, .int .i64 k, .int .i64 kd, .pointer (some ⟨p, 0, none⟩)] 72)) := (Below.refl _ _).alloc (Nat.le_refl _) _
        have X2 := Lib.hid (own_below X1.out hba)
        have B2 := Lib.hid (B1.out.trans (hba.mono B1.out.size))
        have D2 : Hid (DgT4 (w1.alloc (.cells #[.int .i64 l, .int .i64 k, .int .i64 kd, .pointer (some ⟨p, 0, none⟩)] 72)) w.heap.size w1.heap.size p l k kd) := ⟨own_low (quad_new ..) B1.out.size⟩
        have P2 := Lib.hid ((hd.low HB0.out.size).below hba)
        obtain ⟨x0, x1, x2, _, _, _, hz⟩ := tri_all X1.out
        clear hb1 hd hi hr hba
        have GL := Lib.hid (dgLen_any _ D2.out P2.out (by omega))
        go_wp2_with fail
        generalize w1.alloc (.cells #[.int .i64 l, .int .i64 k, .int .i64 kd, .pointer (some ⟨p, 0, none⟩)] 72) = W2 at *
        refine GL.out.mono ?_
        rintro e w3 ⟨rfl, hb3⟩
        have D3 := Lib.hid (D2.out.below hb3)
        have P3 := Lib.hid (P2.out.below hb3)
        have B3 := Lib.hid (B2.out.trans (hb3.mono B2.out.size))
        have X3 := Lib.hid (own_below X2.out hb3)
        clear hb3 GL
        have GR := Lib.hid (dgRoom_any _ D3.out kb1 kb2)
        go_wp2_with fail
        refine GR.out.mono ?_
        rintro e w4 ⟨rfl, hb4⟩
        have D4 := Lib.hid (D3.out.below hb4)
        have P4 := Lib.hid (P3.out.below hb4)
        have B4 := Lib.hid (B3.out.trans (hb4.mono B3.out.size))
        have X4 := Lib.hid (own_below X3.out hb4)
        obtain ⟨x0, x1, x2, _, _, _, hz⟩ := tri_all X4.out
        clear hb4 GR
        by_cases h4 : (L.length : Int) ≤ 8 * k
        · have c3 : decide (8 * k < (L.length : Int)) = false := decide_eq_false (by omega)
          have LT := Lib.hid (prLight_any k _ P4.out (by omega))
          have H4 := Lib.hid h4
          cases hlt : lightB l L k
          · rw [hlt] at LT
            have E := Lib.hid (dgLdE_cap HK.out HI.out HR.out (fun q => by rw [hlt] at q; exact absurd q.2 (by simp)))
            clear hlt h4
            go_wp2_with (go_at_call 35; refine LT.out.mono ?_; rintro e w5 ⟨rfl, hb5⟩)
            go_ret2
            exact dg_load_no E.out (by omega) (B4.out.trans (hb5.mono B4.out.size))
          · rw [hlt] at LT
            have E := Lib.hid (dgLdE_ok HK.out HI.out HR.out h4 hlt)
            have V : Hid (DgV l k L) := ⟨kb1, kb2, P4.out.roll, h4, light_c hlt⟩
            clear hlt h4
            go_wp2_with (go_at_call 35; refine LT.out.mono ?_; rintro e w5 ⟨rfl, hb5⟩)
            go_ret2
            exact ⟨B4.out.trans (hb5.mono B4.out.size), .inr ⟨E.out, _, p, g, h, rfl, ⟨(D4.out.below hb5).top, P4.out.below hb5, V.out⟩⟩⟩
        · have c3 : decide (8 * k < (L.length : Int)) = true := decide_eq_true (by omega)
          have E := Lib.hid (dgLdE_cap HK.out HI.out HR.out (fun q => h4 q.1))
          clear h4
          go_wp2_with fail
          go_ret2
          exact dg_load_no E.out (by omega) B4.out
end Go.Proofs.Ytfmgcabgbnfjlaa
