/- Texts laid together: Dg, Dg2, Dg3, Dg4, RnkNum, QuNum, Flt, Sp, RnkK, QuK. -/
import Derived.Test.YtkoefclkpdpdpaaGreatDgN
import Derived.Test.YtkoefclkpdpdpaaGreatPrP
import Derived.Test.YtkoefclkpdpdpaaGreatPoQ
import Derived.Deep.RegionHeld3
import Derived.Laws.StructEq
import Derived.Laws.ComplexArith
import Derived.Test.YtkoefclkpdpdpaaGreatRkT
import Derived.Test.YtkoefclkpdpdpaaGreatMmy
import Derived.Test.YtkoefclkpdpdpaaGreatPln
/- The project's package digest: parts, Conf, N, Len, Cap, Room, Nodes. -/
namespace Go.Proofs.YtkoefclkpdpdpaaGreat
set_option linter.unusedVariables false
set_option maxRecDepth 100000
open Go.RowKit

theorem body_conf (a b c : Int) (x : Option Addr) : ∀ w, (Instr.field 94 (.agg #[.int .i64 a, .int .i64 b, .int .i64 c, .pointer x]) 0).run Tryz.prog w = .ok (.agg #[.int .i64 a, .int .i64 b, .int .i64 c]) w := fun w => by kernel_rfl
theorem body_pool (a b c : Int) (x : Option Addr) : ∀ w, (Instr.field 94 (.agg #[.int .i64 a, .int .i64 b, .int .i64 c, .pointer x]) 1).run Tryz.prog w = .ok (.pointer x) w := fun w => by kernel_rfl
theorem conf_k (a b c : Int) : ∀ w, (Instr.field 23 (.agg #[.int .i64 a, .int .i64 b, .int .i64 c]) 1).run Tryz.prog w = .ok (.int .i64 b) w := fun w => by kernel_rfl
/-- a digest's box: its four cells, and where it lies -/
structure DgT4 (w : World) (B q p : Nat) (l k kd : Int) : Prop where
  top : w.ownsRow B 124 4 (.slice (some ⟨q, 0, none⟩) 1 1) 1 (dgCells l k kd p)
theorem DgT4.below {w w' : World} {B q p : Nat} {l k kd : Int} (d : DgT4 w B q p l k kd) (hb : Below w.heap.size w w') : DgT4 w' B q p l k kd := ⟨own_below d.top hb⟩
theorem DgA.box {w : World} {B q p g h : Nat} {kd l k : Int} {n : Nat} {L : List Nd} (d : DgA w B q p g h kd l k n L) : DgT4 w B q p l k kd := ⟨d.top⟩
theorem dgParts_nil (w : World) : Calls Tryz.prog 39 #[.pointer none] w fun e w' => e = .returned (.agg #[.int .i64 0, .int .i64 0, .int .i64 0, .pointer none]) ∧ Below w.heap.size w w' := by
  have HB : Hid (Below w.heap.size w (w.alloc (.cells #[.int .i64 0, .int .i64 0, .int .i64 0, .pointer none] 94))) := (Below.refl _ _).alloc (Nat.le_refl _) _
  go_enter Tryz.func39, Tryz.ntmps39
  go_wp2_with fail
  exact bodyPost_ret (v := .agg #[.int .i64 0, .int .i64 0, .int .i64 0, .pointer none]) (by simp [results, Tryz.results39, go_sem]) rfl ⟨rfl, HB.out⟩
theorem dgParts_any {B q p : Nat} {l k kd : Int} (w : World) (d : DgT4 w B q p l k kd) : Calls Tryz.prog 39 #[.pointer (some ⟨q, 0, none⟩)] w fun e w' => e = .returned (.agg #[.int .i64 l, .int .i64 k, .int .i64 kd, .pointer (some ⟨p, 0, none⟩)]) ∧ Below w.heap.size w w' := by
  have HB : Hid (∀ x y z u, Below w.heap.size w (w.alloc (.cells #[x, y, z, u] 94))) := fun x y z u => (Below.refl _ _).alloc (Nat.le_refl _) _
  obtain ⟨c0, c1, c2, c3, _, _, _, _, hz⟩ := quad_all d.top
  clear d
  go_enter Tryz.func39, Tryz.ntmps39
  go_wp2_with fail
  exact bodyPost_ret (v := .agg #[.int .i64 l, .int .i64 k, .int .i64 kd, .pointer (some ⟨p, 0, none⟩)]) (by simp [results, Tryz.results39, go_sem]) rfl ⟨rfl, HB.out _ _ _ _⟩
theorem dgConf_nil (w : World) : Calls Tryz.prog 61 #[.pointer none] w fun e w' => e = .returned (.agg #[.int .i64 0, .int .i64 0, .int .i64 0]) ∧ Below w.heap.size w w' := by
  have HB : Hid (Below w.heap.size w (w.alloc (.cells #[.int .i64 0, .int .i64 0, .int .i64 0] 23))) := (Below.refl _ _).alloc (Nat.le_refl _) _
  have X := Lib.hid (tri_nw w 23 (.int .i64 0) (.int .i64 0) (.int .i64 0))
  have F := body_conf 0 0 0 none
  go_enter Tryz.func61, Tryz.ntmps61
  go_wp2_with fail
  generalize w.alloc (.cells #[.int .i64 0, .int .i64 0, .int .i64 0] 23) = W at *
  refine (dgParts_nil _).mono ?_
  rintro e w1 ⟨rfl, hb1⟩
  have X1 := Lib.hid (own_below X.out hb1)
  obtain ⟨y0, y1, y2, f0, f1, f2, hz2⟩ := tri_all X1.out
  obtain ⟨q0, q1, q2⟩ := set_three X1.out (.int .i64 0) (.int .i64 0) (.int .i64 0)
  have B1 := Lib.hid ((HB.out.trans (hb1.mono HB.out.size)).trans (tri_set X1.out (.int .i64 0) (.int .i64 0) (.int .i64 0)).2.2.1)
  clear hb1
  go_wp2_with fail
  exact bodyPost_ret (v := .agg #[.int .i64 0, .int .i64 0, .int .i64 0]) (by simp [results, Tryz.results61, go_sem, q0, q1, q2]) rfl ⟨rfl, B1.out⟩
theorem dgConf_any {B q p : Nat} {l k kd : Int} (w : World) (d : DgT4 w B q p l k kd) : Calls Tryz.prog 61 #[.pointer (some ⟨q, 0, none⟩)] w fun e w' => e = .returned (.agg #[.int .i64 l, .int .i64 k, .int .i64 kd]) ∧ Below w.heap.size w w' := by
  have HB : Hid (Below w.heap.size w (w.alloc (.cells #[.int .i64 0, .int .i64 0, .int .i64 0] 23))) := (Below.refl _ _).alloc (Nat.le_refl _) _
  have X := Lib.hid (tri_nw w 23 (.int .i64 0) (.int .i64 0) (.int .i64 0))
  have F := body_conf l k kd (some ⟨p, 0, none⟩)
  have PT := Lib.hid (dgParts_any _ (d.below HB.out))
  clear d
  go_enter Tryz.func61, Tryz.ntmps61
  go_wp2_with fail
  generalize w.alloc (.cells #[.int .i64 0, .int .i64 0, .int .i64 0] 23) = W at *
  refine PT.out.mono ?_
  rintro e w1 ⟨rfl, hb1⟩
  have X1 := Lib.hid (own_below X.out hb1)
  obtain ⟨y0, y1, y2, f0, f1, f2, hz2⟩ := tri_all X1.out
  obtain ⟨q0, q1, q2⟩ := set_three X1.out (.int .i64 l) (.int .i64 k) (.int .i64 kd)
  have B1 := Lib.hid ((HB.out.trans (hb1.mono HB.out.size)).trans (tri_set X1.out (.int .i64 l) (.int .i64 k) (.int .i64 kd)).2.2.1)
  clear hb1
  go_wp2_with fail
  exact bodyPost_ret (v := .agg #[.int .i64 l, .int .i64 k, .int .i64 kd]) (by simp [results, Tryz.results61, go_sem, q0, q1, q2]) rfl ⟨rfl, B1.out⟩
theorem dgN_nil (w : World) : Calls Tryz.prog 13 #[.pointer none] w fun e w' => e = .returned (.int .i64 0) ∧ Below w.heap.size w w' := by
  have F := body_pool 0 0 0 none
  go_enter Tryz.func13, Tryz.ntmps13
  go_wp2_with (first | (go_at_call 39; refine (dgParts_nil _).mono ?_; rintro e w1 ⟨rfl, hb1⟩) | (go_at_call 40; refine (poTotal_nil _).mono ?_; rintro e w2 ⟨rfl, rfl⟩))
  go_ret
  exact ⟨rfl, hb1⟩
theorem dgN_any {B q p g h : Nat} {l k kd : Int} {n : Nat} {L : List Nd} (w : World) (d : DgT4 w B q p l k kd) (o : PoA w B p g h kd l n L) (hn : n ≤ 1000) : Calls Tryz.prog 13 #[.pointer (some ⟨q, 0, none⟩)] w fun e w' => e = .returned (.int .i64 (sumC L)) ∧ Below w.heap.size w w' := by
  have F := body_pool l k kd (some ⟨p, 0, none⟩)
  have PT := Lib.hid (dgParts_any _ d)
  have TT := Lib.hid (fun w1 hb => read_below (poTotal_any w1 (o.below hb) hn))
  clear d o
  generalize sumC L = s at *
  go_enter Tryz.func13, Tryz.ntmps13
  go_wp2_with (first | (go_at_call 39; refine PT.out.mono ?_; rintro e w1 ⟨rfl, hb1⟩) | (go_at_call 40; refine (TT.out _ hb1).mono ?_; rintro e w2 ⟨rfl, hb2⟩))
  go_ret
  exact ⟨rfl, hb1.trans (hb2.mono hb1.size)⟩
theorem dgLen_nil (w : World) : Calls Tryz.prog 67 #[.pointer none] w fun e w' => e = .returned (.int .i64 0) ∧ Below w.heap.size w w' := by
  have F := body_pool 0 0 0 none
  go_enter Tryz.func67, Tryz.ntmps67
  go_wp2_with (first | (go_at_call 39; refine (dgParts_nil _).mono ?_; rintro e w1 ⟨rfl, hb1⟩) | (go_at_call 104; refine (poLen_nil _).mono ?_; rintro e w2 ⟨rfl, rfl⟩))
  go_ret
  exact ⟨rfl, hb1⟩
theorem dgLen_any {B q p g h : Nat} {l k kd : Int} {n : Nat} {L : List Nd} (w : World) (d : DgT4 w B q p l k kd) (o : PoA w B p g h kd l n L) (hn : n ≤ 1000) : Calls Tryz.prog 67 #[.pointer (some ⟨q, 0, none⟩)] w fun e w' => e = .returned (.int .i64 (L.length : Int)) ∧ Below w.heap.size w w' := by
  have F := body_pool l k kd (some ⟨p, 0, none⟩)
  have PT := Lib.hid (dgParts_any _ d)
  have TT := Lib.hid (fun w1 hb => read_below (poLen_any w1 (o.below hb) hn))
  clear d o
  generalize ((L.length : Nat) : Int) = s at *
  go_enter Tryz.func67, Tryz.ntmps67
  go_wp2_with (first | (go_at_call 39; refine PT.out.mono ?_; rintro e w1 ⟨rfl, hb1⟩) | (go_at_call 104; refine (TT.out _ hb1).mono ?_; rintro e w2 ⟨rfl, hb2⟩))
  go_ret
  exact ⟨rfl, hb1.trans (hb2.mono hb1.size)⟩
theorem dgNodes_nil (w : World) : Calls Tryz.prog 83 #[.pointer none] w fun e w' => e = .returned (.slice none 0 0) ∧ Below w.heap.size w w' := by
  have F := body_pool 0 0 0 none
  go_enter Tryz.func83, Tryz.ntmps83
  go_wp2_with (first | (go_at_call 39; refine (dgParts_nil _).mono ?_; rintro e w1 ⟨rfl, hb1⟩) | (go_at_call 115; refine (poSnap_nil _).mono ?_; rintro e w2 ⟨rfl, rfl⟩))
  go_ret
  exact ⟨rfl, hb1⟩
theorem dgNodes_any {B q p g h : Nat} {l k kd : Int} {n : Nat} {L : List Nd} (w : World) (d : DgT4 w B q p l k kd) (o : PoA w B p g h kd l n L) (hn : n ≤ 1000) : Calls Tryz.prog 83 #[.pointer (some ⟨q, 0, none⟩)] w (ListOwn 87 L w) := by
  have F := body_pool l k kd (some ⟨p, 0, none⟩)
  have PT := Lib.hid (dgParts_any _ d)
  have TT := Lib.hid (fun w1 hb => poSnap_any w1 (o.below hb) hn)
  clear d o
  go_enter Tryz.func83, Tryz.ntmps83
  go_wp2_with (first | (go_at_call 39; refine PT.out.mono ?_; rintro e w1 ⟨rfl, hb1⟩) | (go_at_call 115; refine (TT.out _ hb1).mono ?_; rintro e w2 ⟨A3, m3, c3, rfl, ho, hb2⟩))
  go_ret
  exact ⟨A3, m3, c3, rfl, own_low ho hb1.size, hb1.trans (hb2.mono hb1.size)⟩
theorem dgRoom_nil (w : World) : Calls Tryz.prog 68 #[.pointer none] w fun e w' => e = .returned (.int .i64 0) ∧ Below w.heap.size w w' := by
  have F := body_conf 0 0 0 none
  have F2 := conf_k 0 0 0
  go_enter Tryz.func68, Tryz.ntmps68
  go_wp2_with (first | (go_at_call 39; refine (dgParts_nil _).mono ?_; rintro e w1 ⟨rfl, hb1⟩))
  go_ret
  exact ⟨rfl, hb1⟩
theorem dgRoom_any {B q p : Nat} {l k kd : Int} (w : World) (d : DgT4 w B q p l k kd) (k1 : 1 ≤ k) (k2 : k ≤ 1048576) : Calls Tryz.prog 68 #[.pointer (some ⟨q, 0, none⟩)] w fun e w' => e = .returned (.int .i64 (8 * k)) ∧ Below w.heap.size w w' := by
  have F := body_conf l k kd (some ⟨p, 0, none⟩)
  have F2 := conf_k l k kd
  have hw8 : IntKind.i64.wrap (8 * k) = 8 * k := wrap_lit rfl (by omega) (by omega)
  have PT := Lib.hid (dgParts_any _ d)
  clear d
  go_enter Tryz.func68, Tryz.ntmps68
  go_wp2_with (first | (go_at_call 39; refine PT.out.mono ?_; rintro e w1 ⟨rfl, hb1⟩))
  go_ret
  exact ⟨rfl, hb1⟩
theorem dgCap_nil (w : World) : Calls Tryz.prog 62 #[.pointer none] w fun e w' => e = .returned (.int .i64 0) ∧ Below w.heap.size w w' := by
  have F := body_conf 0 0 0 none
  have F2 := conf_k 0 0 0
  have CP := Lib.hid (fun w => foCap_any 0 0 w (by omega) (by omega) (by omega) (by omega))
  rw [show quoN 0 0 = 0 by decide] at CP
  go_enter Tryz.func62, Tryz.ntmps62
  go_wp2_with (first | (go_at_call 13; refine (dgN_nil _).mono ?_; rintro e w1 ⟨rfl, hb1⟩) | (go_at_call 39; refine (dgParts_nil _).mono ?_; rintro e w2 ⟨rfl, hb2⟩) | (go_at_call 100; refine (CP.out _).mono ?_; rintro e w3 ⟨rfl, rfl⟩))
  go_ret
  exact ⟨rfl, hb1.trans (hb2.mono hb1.size)⟩
theorem dgCap_any {B q p g h : Nat} {l k kd : Int} {n : Nat} {L : List Nd} (w : World) (d : DgT4 w B q p l k kd) (o : PoA w B p g h kd l n L) (hn : n ≤ 1000) (hk : kIs k = true) : Calls Tryz.prog 62 #[.pointer (some ⟨q, 0, none⟩)] w fun e w' => e = .returned (.int .i64 (sumC L / k)) ∧ Below w.heap.size w w' := by
  have F := body_conf l k kd (some ⟨p, 0, none⟩)
  have F2 := conf_k l k kd
  have NN := Lib.hid (dgN_any w d o hn)
  have PT := Lib.hid (fun w1 hb => dgParts_any w1 (d.below hb))
  have kb := of_decide_eq_true hk
  have cb := cap_bd o.roll hk
  have CP := Lib.hid (fun w => foCap_any (sumC L) k w (by omega) (by omega) (by omega) (by omega))
  rw [cap_quo o.roll hk] at CP
  unfold capW at CP cb
  clear d o
  generalize sumC L / k = c at *
  generalize sumC L = s at *
  go_enter Tryz.func62, Tryz.ntmps62
  go_wp2_with (first | (go_at_call 13; refine NN.out.mono ?_; rintro e w1 ⟨rfl, hb1⟩) | (go_at_call 39; refine (PT.out _ hb1).mono ?_; rintro e w2 ⟨rfl, hb2⟩) | (go_at_call 100; refine (CP.out _).mono ?_; rintro e w3 ⟨rfl, rfl⟩))
  go_ret
  exact ⟨rfl, hb1.trans (hb2.mono hb1.size)⟩

end Go.Proofs.YtkoefclkpdpdpaaGreat

/- The project's package digest: Compress, Insert. -/
namespace Go.Proofs.YtkoefclkpdpdpaaGreat
set_option linter.unusedVariables false
set_option maxRecDepth 100000
open Go.RowKit

theorem dgCompress_nil (w : World) : Calls Tryz.prog 96 #[.pointer none] w fun e w' => e = .returned (.int .i64 0) ∧ Below w.heap.size w w' := by
  go_enter Tryz.func96, Tryz.ntmps96
  go_wp2_with fail
  refine (dgParts_nil _).mono ?_
  rintro e w1 ⟨rfl, hb1⟩
  have B1 := Lib.hid (hb1.alloc hb1.size (.cells #[.int .i64 0, .int .i64 0, .int .i64 0, .pointer none] 94))
  clear hb1
  go_wp2_with (go_at_call 124; refine (prRun_nil _ _).mono ?_; rintro e w2 ⟨rfl, hb2⟩)
  go_ret
  exact ⟨rfl, B1.out.trans (hb2.mono B1.out.size)⟩
theorem dgF_new {q p g h h' : Nat} {w : World} (hh : h' = h ∨ w.heap.size ≤ h') : ∀ i, dgF q p g h' i → dgF q p g h i ∨ w.heap.size ≤ i := fun i f => by
  rcases f with f | f | f | f
  · exact .inl (.inl f)
  · exact .inl (.inr (.inl f))
  · exact .inl (.inr (.inr (.inl f)))
  · rcases hh with e | e
    · exact .inl (.inr (.inr (.inr (f.trans e))))
    · exact .inr (by omega)
set_option maxHeartbeats 1600000 in
theorem dgCompress_any {B q p g h : Nat} {kd l k : Int} {n : Nat} {L : List Nd} (w : World) (d : DgA w B q p g h kd l k n L) (hn : n ≤ 400) :
    Calls Tryz.prog 96 #[.pointer (some ⟨q, 0, none⟩)] w (DgPost B q p g h kd l k n (pressW l k L) (pressN l k L : Int) w) := by
  have D := Lib.hid d
  have PT := Lib.hid (dgParts_any w d.box)
  have HU := Lib.hid (fun j hl hx => press_uniq (cap := capW L k) (j := j) d.po.roll hl hx)
  have HPW : Hid (pressW l k L = preA l (capW L k) L (pressJ l (capW L k) L) ∧ pressN l k L = pressJ l (capW L k) L) := ⟨rfl, rfl⟩
  have V := Lib.hid (dgV_press d.v).1
  have HK := Lib.hid d.isk
  clear d
  generalize pressW l k L = M at *
  generalize pressN l k L = x at *
  generalize hcap : capW L k = cap at *
  go_enter Tryz.func96, Tryz.ntmps96
  go_wp2_with fail
  refine PT.out.mono ?_
  rintro e w1 ⟨rfl, hb1⟩
  have hb2 := hb1.alloc hb1.size (.cells #[.int .i64 l, .int .i64 k, .int .i64 kd, .pointer (some ⟨p, 0, none⟩)] 94)
  have B2 := Lib.hid hb2
  have D2 := Lib.hid (D.out.below hb2)
  have RN := Lib.hid (prRun_any k _ D2.out.po hn HK.out)
  rw [hcap] at RN
  clear hb1 hb2 hcap
  go_wp2_with fail
  generalize w1.alloc (.cells #[.int .i64 l, .int .i64 k, .int .i64 kd, .pointer (some ⟨p, 0, none⟩)] 94) = W at *
  refine RN.out.mono ?_
  rintro e w3 ⟨j, h', rfl, hl, hd, hc, hh⟩
  have ej := HU.out j hl.1 hl.2
  have hx : x = j := by rw [HPW.out.2]; exact ej.symm
  have hM : preA l cap L j = M := by rw [HPW.out.1, ← ej]
  rw [hM] at hd
  subst hx
  have E : Hid (DgPost B q p g h kd l k n M (x : Int) w (.returned (.int .i64 (x : Int))) w3) :=
    ⟨rfl, p, g, h', D2.out.po' hc hd V.out, (Kp.of (F := dgF q p g h) B2.out).trans hc.kp (fun i _ f => .inr (.inr f)), dgF_new (hh.imp (fun z => z) fun z => by have := B2.out.size; omega)⟩
  clear hl hd hc hh ej hM
  go_wp2_with fail
  go_ret
  exact E.out
theorem dgInsert_nil (x c : Int) (w : World) : Calls Tryz.prog 98 #[.pointer none, .int .i64 x, .int .i64 c] w fun e w' => e = .returned (.int .i64 1) ∧ w = w' := by
  go_enter Tryz.func98, Tryz.ntmps98
  go_wp2_with fail
  go_ret
  exact ⟨rfl, rfl⟩
theorem dgIns_end {B q p g h p' g' h' h2 : Nat} {kd l k : Int} {n m : Nat} {L2 M : List Nd} {w W w3 : World} (d : DgA W B q p' g' h' kd l k n L2) (kp : Kp (dgF q p g h) w W) (nw : ∀ i, dgF q p' g' h' i → dgF q p g h i ∨ w.heap.size ≤ i) (hd : PoA w3 B p' g' h2 kd l m M) (hc : Chg g' h' W w3) (hh : h2 = h' ∨ W.heap.size ≤ h2) (v : DgV l k M) (x : Int) :
    DgPost B q p g h kd l k m M x w (.returned (.int .i64 x)) w3 := by
  refine ⟨rfl, p', g', h2, d.po' hc hd v, kp.trans hc.kp (fun i hi f => ?_), fun i f => ?_⟩
  · rcases nw i (.inr (.inr f)) with z | z
    · exact z
    · omega
  · rcases dgF_new (q := q) (p := p') (g := g') hh i f with z | z
    · exact nw i z
    · exact .inr (by have := kp.size; omega)
theorem dg_stay {B q p g h : Nat} {kd l k : Int} {n m : Nat} {L : List Nd} {w W : World} (d : DgA w B q p g h kd l k n L) (hm : n ≤ m) (hb : Below w.heap.size w W) (x : Int) : DgPost B q p g h kd l k m L x w (.returned (.int .i64 x)) W :=
  ⟨rfl, p, g, h, (d.below hb).more hm, Kp.of hb, fun i f => .inl f⟩
set_option maxHeartbeats 1600000 in
theorem dgInsert_no {B q p g h : Nat} {kd l k : Int} {n : Nat} {L : List Nd} (x cc : Int) (w : World) (d : DgA w B q p g h kd l k n L) (hn : n ≤ 400) (he : ¬ dgE l L x cc = 0)
    (A0 : -9223372036854775808 ≤ x) (A1 : x ≤ 9223372036854775807) :
    Calls Tryz.prog 98 #[.pointer (some ⟨q, 0, none⟩), .int .i64 x, .int .i64 cc] w (DgPost B q p g h kd l k (n + 1) L (dgE l L x cc) w) := by
  obtain ⟨x0, x1, x2, x3⟩ := d.cells
  have u := d.po.uni
  have LF := Lib.hid (fun w => leaf_any l x w (by omega) (by omega) A0 A1)
  have D := Lib.hid d
  by_cases hv : ValC l x
  · obtain ⟨v1, v2⟩ := leaf_yes hv
    rw [v2] at LF
    by_cases h1 : cc < 1
    · rw [dgE_zero hv h1]
      have c1 : decide (cc < 1) = true := decide_eq_true h1
      clear d hv h1 v1 v2 he
      go_enter Tryz.func98, Tryz.ntmps98
      go_wp2_with (go_at_call 125; refine (LF.out _).mono ?_; rintro e w1 ⟨rfl, rfl⟩)
      go_ret
      exact dg_stay D.out (by omega) (Below.refl _ _) _
    · by_cases h2 : 72057594037927935 - sumC L < cc
      · rw [dgE_full hv h1 h2]
        have c1 : decide (cc < 1) = false := decide_eq_false h1
        have c2 : decide (72057594037927935 - sumC L < cc) = true := decide_eq_true h2
        have nn := good_nonneg (roll_good d.po.roll)
        have s0 : 0 ≤ sumC L := Int.le_trans (sum_le nn 0).1 (sum_le nn 0).2
        have s1 := d.po.roll.2.2.2.2
        have hw : IntKind.i64.wrap (72057594037927935 - sumC L) = 72057594037927935 - sumC L := wrap_lit rfl (by omega) (by omega)
        have NN := Lib.hid (dgN_any w d.box d.po (by omega))
        clear d hv h1 h2 v1 v2 he nn
        generalize sumC L = s at *
        go_enter Tryz.func98, Tryz.ntmps98
        go_wp2_with (first | (go_at_call 125; refine (LF.out _).mono ?_; rintro e w1 ⟨rfl, rfl⟩) | (go_at_call 13; refine NN.out.mono ?_; rintro e w2 ⟨rfl, hb2⟩))
        go_ret
        exact dg_stay D.out (by omega) hb2 _
      · exact absurd (dgE_ok hv h1 h2) he
  · rw [dgE_val hv]
    obtain ⟨v1, v2⟩ := leaf_no hv
    rw [v2] at LF
    clear d hv v1 v2 he
    go_enter Tryz.func98, Tryz.ntmps98
    go_wp2_with (go_at_call 125; refine (LF.out _).mono ?_; rintro e w1 ⟨rfl, rfl⟩)
    go_ret
    exact dg_stay D.out (by omega) (Below.refl _ _) _
set_option maxHeartbeats 6400000 in
theorem dgInsert_ok {B q p g h : Nat} {kd l k : Int} {n : Nat} {L : List Nd} (x cc : Int) (w : World) (d : DgA w B q p g h kd l k n L) (hn : n ≤ 400) (he : dgE l L x cc = 0)
    (A0 : -9223372036854775808 ≤ x) (A1 : x ≤ 9223372036854775807) (B0 : -9223372036854775808 ≤ cc) (B1 : cc ≤ 9223372036854775807) :
    Calls Tryz.prog 98 #[.pointer (some ⟨q, 0, none⟩), .int .i64 x, .int .i64 cc] w (DgPost B q p g h kd l k (n + 1) (dgIns l k L x cc) 0 w) := by
  obtain ⟨x0, x1, x2, x3⟩ := d.cells
  have u := d.po.uni
  have LF := Lib.hid (fun w => leaf_any l x w (by omega) (by omega) A0 A1)
  have D := Lib.hid d
  have VN := Lib.hid (dgV_ins d.v x cc)
  obtain ⟨hv, h1, h2⟩ := dgE_yes he
  rw [(leaf_yes hv).2] at LF
  have lf := leaf_right hv
  have rb := right_yes lf.1
  have c1 : decide (cc < 1) = false := decide_eq_false h1
  have c2 : decide (72057594037927935 - sumC L < cc) = false := decide_eq_false (by omega)
  have nn := good_nonneg (roll_good d.po.roll)
  have s0 : 0 ≤ sumC L := Int.le_trans (sum_le nn 0).1 (sum_le nn 0).2
  have s1 := d.po.roll.2.2.2.2
  have hw : IntKind.i64.wrap (72057594037927935 - sumC L) = 72057594037927935 - sumC L := wrap_lit rfl (by omega) (by omega)
  have kb1 := d.v.k1
  have kb2 := d.v.k2
  have lb := lf.2.2.1
  have lb2 := lf.2.2.2
  have NN := Lib.hid (dgN_any w d.box d.po (by omega))
  have GT := Lib.hid (fun w1 hb => read_below (poGet_any (leafN l x) w1 (d.po.below hb) (by omega) (by omega) (by omega)))
  have R := Lib.hid (dgRoom_is d.v x)
  have HIN : Hid (dgIns l k L x cc = insW (dgRoom l k L x) (leafN l x) cc) := if_pos he
  have AD := Lib.hid (addS_ins (L := dgRoom l k L x) (c := cc) rb h1 (by rw [R.out.2.1]; exact h2))
  have LN := Lib.hid d.v.len
  have PN := Lib.hid d.po.len
  have RM : Hid (dgRoom l k L x = if sumAt (leafN l x) L = 0 ∧ (L.length : Int) = 8 * k then pressW l k L else L) := rfl
  rw [HIN.out] at VN ⊢
  clear d nn h2 lf rb HIN he hv h1
  generalize leafN l x = leaf at *
  generalize dgRoom l k L x = L2 at *
  by_cases hs : sumAt leaf L = 0
  · have z1 : (sumAt leaf L == 0) = true := beq_iff_eq.2 hs
    have GL := Lib.hid (fun w1 hb => dgLen_any w1 (D.out.below hb).box (D.out.below hb).po (by omega))
    have GR := Lib.hid (fun w1 hb => dgRoom_any w1 (D.out.below hb).box kb1 kb2)
    by_cases hl : (L.length : Int) = 8 * k
    · have e : L2 = pressW l k L := by rw [RM.out, if_pos ⟨hs, hl⟩]
      have z2 : decide (8 * k ≤ (L.length : Int)) = true := decide_eq_true (by omega)
      have CP := Lib.hid (fun w1 hb => dgCompress_any w1 (D.out.below hb) hn)
      rw [← e] at CP
      clear RM hs hl e
      generalize ((L.length : Nat) : Int) = len at *
      generalize sumAt leaf L = sl at *
      generalize sumC L = s at *
      go_enter Tryz.func98, Tryz.ntmps98
      go_wp2_with fail
      refine (LF.out _).mono ?_
      rintro e w1 ⟨rfl, rfl⟩
      go_wp2_with fail
      refine NN.out.mono ?_
      rintro e w2 ⟨rfl, hb2⟩
      have D2 := Lib.hid (D.out.below hb2)
      have BB2 := Lib.hid hb2
      obtain ⟨x0, x1, x2, x3⟩ := D2.out.cells
      clear hb2
      go_wp2_with fail
      refine (GT.out _ BB2.out).mono ?_
      rintro e w3 ⟨rfl, hb3⟩
      have BB3 := Lib.hid (BB2.out.trans (hb3.mono BB2.out.size))
      clear hb3
      go_wp2_with fail
      refine (GL.out _ BB3.out).mono ?_
      rintro e w4 ⟨rfl, hb4⟩
      have BB4 := Lib.hid (BB3.out.trans (hb4.mono BB3.out.size))
      clear hb4
      go_wp2_with fail
      refine (GR.out _ BB4.out).mono ?_
      rintro e w5 ⟨rfl, hb5⟩
      have BB5 := Lib.hid (BB4.out.trans (hb5.mono BB4.out.size))
      clear hb5
      go_wp2_with fail
      refine (CP.out _ BB5.out).mono ?_
      rintro e w6 ⟨rfl, p', g', h', hd6, hk6, hn6⟩
      have D6 := Lib.hid hd6
      have K6 := Lib.hid ((Kp.of (F := dgF q p g h) BB5.out).trans hk6 (fun i _ f => f))
      have N6 : Hid (∀ i, dgF q p' g' h' i → dgF q p g h i ∨ w.heap.size ≤ i) := fun i f => (hn6 i f).imp (fun z => z) fun z => by have := BB5.out.size; omega
      obtain ⟨x0, x1, x2, x3⟩ := D6.out.cells
      have AA := Lib.hid (poAdd_n (n + 1) leaf cc w6 D6.out.po (by omega) (by omega) (by
        rw [AD.out.1, insW_len (roll_good D6.out.po.roll)]
        have a := R.out.2.2.1
        have b := PN.out
        split <;> omega) (by omega) (by omega) B0 B1)
      rw [AD.out.1, AD.out.2] at AA
      clear hd6 hk6 hn6
      go_wp2_with fail
      refine AA.out.mono ?_
      rintro e w7 ⟨rfl, h2, hd7, hc7, hh7⟩
      have E := Lib.hid (dgIns_end D6.out K6.out N6.out hd7 hc7 hh7 VN.out 0)
      clear hd7 hc7 hh7 AA
      go_wp2_with fail
      go_ret
      exact E.out
    · have e : L2 = L := by rw [RM.out, if_neg fun z => hl z.2]
      subst e
      have z2 : decide (8 * k ≤ (L2.length : Int)) = false := decide_eq_false (by have := LN.out; omega)
      have AA := Lib.hid (fun w1 hb => poAdd_n (n + 1) leaf cc w1 (D.out.below hb).po (by omega) (by omega) (by
        rw [AD.out.1, insW_len (roll_good D.out.po.roll)]
        have b := PN.out
        split <;> omega) (by omega) (by omega) B0 B1)
      rw [AD.out.1, AD.out.2] at AA
      clear RM hs hl
      generalize insW L2 leaf cc = M at *
      generalize ((L2.length : Nat) : Int) = len at *
      generalize sumAt leaf L2 = sl at *
      generalize sumC L2 = s at *
      go_enter Tryz.func98, Tryz.ntmps98
      go_wp2_with fail
      refine (LF.out _).mono ?_
      rintro e w1 ⟨rfl, rfl⟩
      go_wp2_with fail
      refine NN.out.mono ?_
      rintro e w2 ⟨rfl, hb2⟩
      have D2 := Lib.hid (D.out.below hb2)
      have BB2 := Lib.hid hb2
      obtain ⟨x0, x1, x2, x3⟩ := D2.out.cells
      clear hb2
      go_wp2_with fail
      refine (GT.out _ BB2.out).mono ?_
      rintro e w3 ⟨rfl, hb3⟩
      have BB3 := Lib.hid (BB2.out.trans (hb3.mono BB2.out.size))
      clear hb3
      go_wp2_with fail
      refine (GL.out _ BB3.out).mono ?_
      rintro e w4 ⟨rfl, hb4⟩
      have BB4 := Lib.hid (BB3.out.trans (hb4.mono BB3.out.size))
      clear hb4
      go_wp2_with fail
      refine (GR.out _ BB4.out).mono ?_
      rintro e w5 ⟨rfl, hb5⟩
      have BB5 := Lib.hid (BB4.out.trans (hb5.mono BB4.out.size))
      have D5 := Lib.hid (D.out.below BB5.out)
      obtain ⟨x0, x1, x2, x3⟩ := D5.out.cells
      clear hb5
      go_wp2_with fail
      refine (AA.out _ BB5.out).mono ?_
      rintro e w7 ⟨rfl, h2, hd7, hc7, hh7⟩
      have E := Lib.hid (dgIns_end D5.out (Kp.of (F := dgF q p g h) BB5.out) (fun i f => .inl f) hd7 hc7 hh7 VN.out 0)
      clear hd7 hc7 hh7 AA
      go_wp2_with fail
      go_ret
      exact E.out
  · have e : L2 = L := by rw [RM.out, if_neg fun z => hs z.1]
    subst e
    have z1 : (sumAt leaf L2 == 0) = false := beq_eq_false_iff_ne.2 hs
    have AA := Lib.hid (fun w1 hb => poAdd_n (n + 1) leaf cc w1 (D.out.below hb).po (by omega) (by omega) (by
      rw [AD.out.1, insW_len (roll_good D.out.po.roll)]
      have b := PN.out
      split <;> omega) (by omega) (by omega) B0 B1)
    rw [AD.out.1, AD.out.2] at AA
    clear RM hs
    generalize insW L2 leaf cc = M at *
    generalize sumAt leaf L2 = sl at *
    generalize sumC L2 = s at *
    go_enter Tryz.func98, Tryz.ntmps98
    go_wp2_with fail
    refine (LF.out _).mono ?_
    rintro e w1 ⟨rfl, rfl⟩
    go_wp2_with fail
    refine NN.out.mono ?_
    rintro e w2 ⟨rfl, hb2⟩
    have D2 := Lib.hid (D.out.below hb2)
    have BB2 := Lib.hid hb2
    obtain ⟨x0, x1, x2, x3⟩ := D2.out.cells
    clear hb2
    go_wp2_with fail
    refine (GT.out _ BB2.out).mono ?_
    rintro e w3 ⟨rfl, hb3⟩
    have BB3 := Lib.hid (BB2.out.trans (hb3.mono BB2.out.size))
    have D3 := Lib.hid (D.out.below BB3.out)
    obtain ⟨x0, x1, x2, x3⟩ := D3.out.cells
    clear hb3
    go_wp2_with fail
    refine (AA.out _ BB3.out).mono ?_
    rintro e w7 ⟨rfl, h2, hd7, hc7, hh7⟩
    have E := Lib.hid (dgIns_end D3.out (Kp.of (F := dgF q p g h) BB3.out) (fun i f => .inl f) hd7 hc7 hh7 VN.out 0)
    clear hd7 hc7 hh7 AA
    go_wp2_with fail
    go_ret
    exact E.out
theorem dgInsert_any {B q p g h : Nat} {kd l k : Int} {n : Nat} {L : List Nd} (x cc : Int) (w : World) (d : DgA w B q p g h kd l k n L) (hn : n ≤ 400)
    (A0 : -9223372036854775808 ≤ x) (A1 : x ≤ 9223372036854775807) (B0 : -9223372036854775808 ≤ cc) (B1 : cc ≤ 9223372036854775807) :
    Calls Tryz.prog 98 #[.pointer (some ⟨q, 0, none⟩), .int .i64 x, .int .i64 cc] w (DgPost B q p g h kd l k (n + 1) (dgIns l k L x cc) (dgE l L x cc) w) := by
  by_cases he : dgE l L x cc = 0
  · have z := dgInsert_ok x cc w d hn he A0 A1 B0 B1
    rw [he]
    exact z
  · rw [dgIns_no he]
    exact dgInsert_no x cc w d hn he A0 A1

end Go.Proofs.YtkoefclkpdpdpaaGreat

/- The project's package digest: Clone, Reset, ofAnyKind, Same. -/
namespace Go.Proofs.YtkoefclkpdpdpaaGreat
set_option linter.unusedVariables false
set_option maxRecDepth 100000
open Go.RowKit

theorem dgReset_nil (w : World) : Calls Tryz.prog 97 #[.pointer none] w fun e w' => e = .returned (.tuple #[]) ∧ w = w' := by
  go_enter Tryz.func97, Tryz.ntmps97
  go_wp2_with fail
  (try simp only [Exit.inBlock, Exit.then])
  exact bodyPost_ret (results_none rfl _ _ _) rfl ⟨rfl, rfl⟩
/-- what Reset leaves -/
def DgPost0 (B q p g h : Nat) (kd l k : Int) (n : Nat) (M : List Nd) (w : World) (e : Ending) (w' : World) : Prop :=
  e = .returned (.tuple #[]) ∧ ∃ p' g' h', DgA w' B q p' g' h' kd l k n M ∧ Kp (dgF q p g h) w w' ∧ ∀ i, dgF q p' g' h' i → dgF q p g h i ∨ w.heap.size ≤ i
theorem dg_reset {B q p g h p2 g2 h2 : Nat} {kd l k : Int} {n : Nat} {L : List Nd} {w w1 : World} (d : DgA w B q p g h kd l k n L) (hb : Below w.heap.size w w1) (hd : PoA w1 w.heap.size p2 g2 h2 kd l 0 []) :
    DgPost0 B q p g h kd l k n [] w (.returned (.tuple #[])) (w1.setCell ⟨q, 3, none⟩ (.pointer (some ⟨p2, 0, none⟩))) := by
  have lt := d.lt q (.inl rfl)
  have r := own_below d.top hb
  have s := (World.ownsRow.stored r 3 (.pointer (some ⟨p2, 0, none⟩))).1
  have z := Kp.setCell w1 ⟨q, 3, none⟩ (.pointer (some ⟨p2, 0, none⟩))
  have pl := hd.lt
  have u := d.po.uni
  refine ⟨rfl, p2, g2, h2, ⟨s, ((hd.kp z fun i e f => ?_).low (by have := d.lt q (.inl rfl); omega)).more (Nat.zero_le n), dgV_nil ⟨u.1, u.2⟩ d.v.k1 d.v.k2⟩, (Kp.of (F := dgF q p g h) hb).trans z (fun i _ e => .inl e), fun i f => ?_⟩
  · simp only at e
    rcases f with f | f | f <;> omega
  · rcases f with f | f | f | f
    · exact .inl (.inl f)
    · exact .inr (by omega)
    · exact .inr (by omega)
    · exact .inr (by omega)
set_option maxHeartbeats 3200000 in
theorem dgReset_any {B q p g h : Nat} {kd l k : Int} {n : Nat} {L : List Nd} (w : World) (d : DgA w B q p g h kd l k n L) :
    Calls Tryz.prog 97 #[.pointer (some ⟨q, 0, none⟩)] w (DgPost0 B q p g h kd l k n [] w) := by
  have D := Lib.hid d
  obtain ⟨c0, c1, c2, c3⟩ := d.cells
  have NW := Lib.hid (fun w => poNew_any kd l w d.po.is)
  have XX := Lib.hid (fun w1 (hb : Below w.heap.size w w1) => (d.below hb).cells)
  have YY := Lib.hid (fun w1 (hb : Below w.heap.size w w1) (u : Value) => quad_all (World.ownsRow.stored (own_below d.top hb) 3 u).1)
  have ZZ := Lib.hid (fun w1 (hb : Below w.heap.size w w1) => own_below d.top hb)
  clear d
  go_enter Tryz.func97, Tryz.ntmps97
  go_wp2_with fail
  go_region_held3 (fun w' => w'.cell? ⟨q, 0, none⟩ = some (.int .i64 l) ∧ w'.cell? ⟨q, 2, none⟩ = some (.int .i64 kd))
    (first | (exact ⟨(XX.out _ hb1).1, (XX.out _ hb1).2.2.1⟩) | (exact ⟨(YY.out _ hb1 _).1, (YY.out _ hb1 _).2.2.1⟩) | (exact ⟨c0, c2⟩) | (exact ⟨(XX.out _ (below_drew _)).1, (XX.out _ (below_drew _)).2.2.1⟩))
    (first | (go_at_call 101; refine (NW.out _).mono ?_; rintro e w1 ⟨p2, g2, h2, rfl, hd2, hb1'⟩; have hb1 : Below w.heap.size w w1 := (below_drew w).trans hb1'; obtain ⟨_, _, _, x3, _, _, _, x7, _⟩ := quad_all (ZZ.out _ hb1)))
  go_wp2_with fail
  go_end0
  exact dg_reset D.out hb1 hd2
/-- two confs held against each other -/
theorem conf_eq (a b c : Int) : ∀ w, (binOp .eql 23 (.agg #[.int .i64 a, .int .i64 b, .int .i64 c]) (.agg #[.int .i64 a, .int .i64 b, .int .i64 c])).run Tryz.prog w = .ok (.bool true) w := by
  intro w
  have i3 := fun (a b : Int) (w : World) => run_equalIn_int (P := Tryz.prog) w 9998 3 .i64 .i64 a b Tryz.underlying3
  rw [run_eql_struct, run_equalIn_agg _ _ _ _ _ (by kernel_rfl) (by kernel_rfl)]
  unfold Program.fieldsOf
  rw [Tryz.underlying23]
  have p0 : ∀ (a b c : Value) w, (part 3 #[a, b, c] 0).run Tryz.prog w = .ok a w := fun _ _ _ _ => by kernel_rfl
  have p1 : ∀ (a b c : Value) w, (part 3 #[a, b, c] 1).run Tryz.prog w = .ok b w := fun _ _ _ _ => by kernel_rfl
  have p2 : ∀ (a b c : Value) w, (part 3 #[a, b, c] 2).run Tryz.prog w = .ok c w := fun _ _ _ _ => by kernel_rfl
  simp only [Op.eqFields, Sem.run_bind, Sem.run_ite, p0, p1, p2, Result.andThen_ok, i3]
  simp [Result.andThen]
end Go.Proofs.YtkoefclkpdpdpaaGreat

/- The project's package digest: Load, New. -/
namespace Go.Proofs.YtkoefclkpdpdpaaGreat
set_option linter.unusedVariables false
set_option maxRecDepth 100000
open Go.RowKit

/-- what Load leaves -/
def DgLoadPost (kd l k : Int) (L : List Nd) (w : World) (e : Ending) (w' : World) : Prop := Below w.heap.size w w' ∧
  ((¬ dgLdE kd l k L = 0 ∧ e = .returned (.tuple #[.pointer none, .int .i64 (dgLdE kd l k L)])) ∨
   (dgLdE kd l k L = 0 ∧ ∃ q p g h, e = .returned (.tuple #[.pointer (some ⟨q, 0, none⟩), .int .i64 0]) ∧ DgA w' w.heap.size q p g h kd l k L.length L))
theorem dg_load_no {kd l k : Int} {L : List Nd} {w w' : World} {x : Int} (h : dgLdE kd l k L = x) (hx : ¬ x = 0) (hb : Below w.heap.size w w') : DgLoadPost kd l k L w (.returned (.tuple #[.pointer none, .int .i64 x])) w' :=
  ⟨hb, .inl ⟨by rw [h]; exact hx, by rw [h]⟩⟩
set_option maxHeartbeats 3200000 in
theorem dgLoad_any (kd l k : Int) (A : Option Addr) (m c : Nat) (L : List Nd) (w : World) (hv : NodesAt w (.slice A m c) L) (hB : NBds L) (hm : m ≤ 500) (L0 : -9223372036854775808 ≤ l) (L1 : l ≤ 9223372036854775807) :
    Calls Tryz.prog 34 #[.agg #[.int .i64 l, .int .i64 k, .int .i64 kd], .slice A m c] w (DgLoadPost kd l k L w) := by
  have HB0 : Hid (Below w.heap.size w (w.alloc (.cells #[.int .i64 l, .int .i64 k, .int .i64 kd] 23))) := (Below.refl _ _).alloc (Nat.le_refl _) _
  have X0 := Lib.hid (tri_nw w 23 (.int .i64 l) (.int .i64 k) (.int .i64 kd))
  obtain ⟨x0, x1, x2, _, _, _, hz⟩ := tri_all X0.out
  by_cases h1 : k < 1
  · have c1 : decide (k < 1) = true := decide_eq_true h1
    have E := Lib.hid (dgLdE_conf (kd := kd) (l := l) (k := k) (L := L) (fun q => by have z : 1 ≤ k ∧ k ≤ 1048576 := of_decide_eq_true q.1; omega))
    clear hv hB h1
    go_enter Tryz.func34, Tryz.ntmps34
    go_wp2_with fail
    go_ret2
    exact dg_load_no E.out (by omega) HB0.out
  · have c1 : decide (k < 1) = false := decide_eq_false h1
    by_cases h2 : 1048576 < k
    · have c2 : decide (1048576 < k) = true := decide_eq_true h2
      have E := Lib.hid (dgLdE_conf (kd := kd) (l := l) (k := k) (L := L) (fun q => by have z : 1 ≤ k ∧ k ≤ 1048576 := of_decide_eq_true q.1; omega))
      clear hv hB h1 h2
      go_enter Tryz.func34, Tryz.ntmps34
      go_wp2_with fail
      go_ret2
      exact dg_load_no E.out (by omega) HB0.out
    · have c2 : decide (1048576 < k) = false := decide_eq_false h2
      have kb1 : 1 ≤ k := by omega
      have kb2 : k ≤ 1048576 := by omega
      have HK : Hid (kIs k = true) := decide_eq_true ⟨kb1, kb2⟩
      have LD := Lib.hid (poLoad_any kd l A m c L _ (hv.below HB0.out) hB (by omega) L0 L1)
      have hlen : L.length ≤ 500 := by have := (nodes_cells hv).1; omega
      clear hv hB h1 h2
      go_enter Tryz.func34, Tryz.ntmps34
      go_wp2_with fail
      generalize w.alloc (.cells #[.int .i64 l, .int .i64 k, .int .i64 kd] 23) = W at *
      refine LD.out.mono ?_
      rintro e w1 ⟨hb1, ⟨hi, rfl⟩ | ⟨hi, hr, rfl⟩ | ⟨hi, hr, p, g, h, rfl, hd⟩⟩
      · have E := Lib.hid (dgLdE_conf (kd := kd) (l := l) (k := k) (L := L) (fun q => by rw [hi] at q; exact absurd q.2 (by simp)))
        have B1 := Lib.hid (HB0.out.trans (hb1.mono HB0.out.size))
        clear hi hb1
        go_wp2_with fail
        go_ret2
        exact dg_load_no E.out (by omega) B1.out
      · have E := Lib.hid (dgLdE_form (L := L) HK.out hi hr)
        have B1 := Lib.hid (HB0.out.trans (hb1.mono HB0.out.size))
        clear hi hb1 hr
        go_wp2_with fail
        go_ret2
        exact dg_load_no E.out (by omega) B1.out
      · have B1 := Lib.hid (HB0.out.trans (hb1.mono HB0.out.size))
        have X1 := Lib.hid (own_below X0.out hb1)
        have HI := Lib.hid hi
        have HR := Lib.hid hr
        have hba : Below w1.heap.size w1 (w1.alloc (.cells #[.int .i64 l, .int .i64 k, .int .i64 kd, .pointer (some ⟨p, 0, none⟩)] 124)) := (Below.refl _ _).alloc (Nat.le_refl _) _
        have X2 := Lib.hid (own_below X1.out hba)
        have B2 := Lib.hid (B1.out.trans (hba.mono B1.out.size))
        have D2 : Hid (DgT4 (w1.alloc (.cells #[.int .i64 l, .int .i64 k, .int .i64 kd, .pointer (some ⟨p, 0, none⟩)] 124)) w.heap.size w1.heap.size p l k kd) := ⟨own_low (quad_new ..) B1.out.size⟩
        have P2 := Lib.hid ((hd.low HB0.out.size).below hba)
        obtain ⟨x0, x1, x2, _, _, _, hz⟩ := tri_all X1.out
        clear hb1 hd hi hr hba
        have GL := Lib.hid (dgLen_any _ D2.out P2.out (by omega))
        go_wp2_with fail
        generalize w1.alloc (.cells #[.int .i64 l, .int .i64 k, .int .i64 kd, .pointer (some ⟨p, 0, none⟩)] 124) = W2 at *
        refine GL.out.mono ?_
        rintro e w3 ⟨rfl, hb3⟩
        have D3 := Lib.hid (D2.out.below hb3)
        have P3 := Lib.hid (P2.out.below hb3)
        have B3 := Lib.hid (B2.out.trans (hb3.mono B2.out.size))
        have X3 := Lib.hid (own_below X2.out hb3)
        clear hb3 GL
        have GR := Lib.hid (dgRoom_any _ D3.out kb1 kb2)
        go_wp2_with fail
        refine GR.out.mono ?_
        rintro e w4 ⟨rfl, hb4⟩
        have D4 := Lib.hid (D3.out.below hb4)
        have P4 := Lib.hid (P3.out.below hb4)
        have B4 := Lib.hid (B3.out.trans (hb4.mono B3.out.size))
        have X4 := Lib.hid (own_below X3.out hb4)
        obtain ⟨x0, x1, x2, _, _, _, hz⟩ := tri_all X4.out
        clear hb4 GR
        by_cases h4 : (L.length : Int) ≤ 8 * k
        · have c3 : decide (8 * k < (L.length : Int)) = false := decide_eq_false (by omega)
          have LT := Lib.hid (prLight_any k _ P4.out (by omega))
          have H4 := Lib.hid h4
          cases hlt : lightB l L k
          · rw [hlt] at LT
            have E := Lib.hid (dgLdE_cap HK.out HI.out HR.out (fun q => by rw [hlt] at q; exact absurd q.2 (by simp)))
            clear hlt h4
            go_wp2_with (go_at_call 69; refine LT.out.mono ?_; rintro e w5 ⟨rfl, hb5⟩)
            go_ret2
            exact dg_load_no E.out (by omega) (B4.out.trans (hb5.mono B4.out.size))
          · rw [hlt] at LT
            have E := Lib.hid (dgLdE_ok HK.out HI.out HR.out h4 hlt)
            have V : Hid (DgV l k L) := ⟨kb1, kb2, P4.out.roll, h4, light_c hlt⟩
            clear hlt h4
            go_wp2_with (go_at_call 69; refine LT.out.mono ?_; rintro e w5 ⟨rfl, hb5⟩)
            go_ret2
            exact ⟨B4.out.trans (hb5.mono B4.out.size), .inr ⟨E.out, _, p, g, h, rfl, ⟨(D4.out.below hb5).top, P4.out.below hb5, V.out⟩⟩⟩
        · have c3 : decide (8 * k < (L.length : Int)) = true := decide_eq_true (by omega)
          have E := Lib.hid (dgLdE_cap HK.out HI.out HR.out (fun q => h4 q.1))
          clear h4
          go_wp2_with fail
          go_ret2
          exact dg_load_no E.out (by omega) B4.out
theorem dgNodes_at0 (w : World) : NodesAt w (.slice none 0 0) [] := ownNd_nodes (ownNd_nil 87 w 0)
set_option maxHeartbeats 1600000 in
theorem dgNew_any (kd l k : Int) (w : World) (L0 : -9223372036854775808 ≤ l) (L1 : l ≤ 9223372036854775807) :
    Calls Tryz.prog 57 #[.agg #[.int .i64 l, .int .i64 k, .int .i64 kd]] w (DgLoadPost kd l k [] w) := by
  have HB0 : Hid (Below w.heap.size w (w.alloc (.cells #[.int .i64 l, .int .i64 k, .int .i64 kd] 23))) := (Below.refl _ _).alloc (Nat.le_refl _) _
  have X0 := Lib.hid (tri_nw w 23 (.int .i64 l) (.int .i64 k) (.int .i64 kd))
  obtain ⟨x0, x1, x2, _, _, _, hz⟩ := tri_all X0.out
  have LD := Lib.hid (dgLoad_any kd l k none 0 0 [] _ (dgNodes_at0 (w.alloc (.cells #[.int .i64 l, .int .i64 k, .int .i64 kd] 23))) (fun n hn => by simp at hn) (by omega) L0 L1)
  go_enter Tryz.func57, Tryz.ntmps57
  go_wp2_with fail
  generalize w.alloc (.cells #[.int .i64 l, .int .i64 k, .int .i64 kd] 23) = W at *
  refine LD.out.mono ?_
  rintro e w1 ⟨hb1, ⟨hi, rfl⟩ | ⟨hi, q, p, g, h, rfl, hd⟩⟩
  · have B1 := Lib.hid (HB0.out.trans (hb1.mono HB0.out.size))
    have HI := Lib.hid hi
    clear hi hb1
    generalize hx : dgLdE kd l k [] = x at *
    have HX := Lib.hid hx
    clear hx
    go_wp2_with fail
    go_ret2
    exact dg_load_no HX.out HI.out B1.out
  · have B1 := Lib.hid (HB0.out.trans (hb1.mono HB0.out.size))
    have HI := Lib.hid hi
    have HD := Lib.hid (hd.low HB0.out.size)
    clear hi hb1 hd
    go_wp2_with fail
    go_ret2
    exact ⟨B1.out, .inr ⟨HI.out, q, p, g, h, rfl, HD.out⟩⟩
theorem dgNew_ok (kd l k : Int) (w : World) (hk : kIs k = true) (hp : isP kd l = true) :
    Calls Tryz.prog 57 #[.agg #[.int .i64 l, .int .i64 k, .int .i64 kd]] w fun e w' => Below w.heap.size w w' ∧ ∃ q p g h, e = .returned (.tuple #[.pointer (some ⟨q, 0, none⟩), .int .i64 0]) ∧ DgA w' w.heap.size q p g h kd l k 0 [] := by
  have u : 1 ≤ l ∧ l ≤ 48 := by rcases of_decide_eq_true hp with q | q <;> omega
  refine (dgNew_any kd l k w (by omega) (by omega)).mono ?_
  rintro e w1 ⟨hb, ⟨hi, _⟩ | ⟨_, z⟩⟩
  · exact absurd (by rw [dgLdE_nil, if_pos ⟨hk, hp⟩]) hi
  · exact ⟨hb, z⟩
theorem dgNew_no (kd l k : Int) (w : World) (h : ¬ (kIs k = true ∧ isP kd l = true)) (L0 : -9223372036854775808 ≤ l) (L1 : l ≤ 9223372036854775807) :
    Calls Tryz.prog 57 #[.agg #[.int .i64 l, .int .i64 k, .int .i64 kd]] w fun e w' => e = .returned (.tuple #[.pointer none, .int .i64 2]) ∧ Below w.heap.size w w' := by
  refine (dgNew_any kd l k w L0 L1).mono ?_
  rintro e w1 ⟨hb, ⟨hi, z⟩ | ⟨z, _⟩⟩
  · rw [dgLdE_conf h] at z
    exact ⟨z, hb⟩
  · rw [dgLdE_conf h] at z
    exact absurd z (by omega)

end Go.Proofs.YtkoefclkpdpdpaaGreat

/- Plain facts of layer rank: the sums along a list, and the values at which they grow. No program is spoken of here. -/
namespace Go.Proofs.YtkoefclkpdpdpaaGreat
set_option linter.unusedVariables false

theorem wtF_parts {P : Int → Bool} {l : Int} {L : List Nd} (h : RollC l L) (k : Nat) : 0 ≤ wtF P (L.take k) ∧ wtF P (L.take k) ≤ 72057594037927935 := by
  have nn : NonNeg L := good_nonneg (roll_good h)
  have b := wtF_bd P (L := L.take k) fun m hm => nn m (List.mem_of_mem_take hm)
  have e : sumC (L.take k) + sumC (L.drop k) = sumC L := by rw [← sumC_app, List.take_append_drop]
  have b2 := wtF_bd (fun _ => true) (L := L.drop k) fun m hm => nn m (List.mem_of_mem_drop hm)
  rw [wtF_all] at b2
  have s : sumC L ≤ 72057594037927935 := h.2.2.2.2
  exact ⟨b.1, by omega⟩
theorem wtF_all_parts {P : Int → Bool} {l : Int} {L : List Nd} (h : RollC l L) : 0 ≤ wtF P L ∧ wtF P L ≤ 72057594037927935 := by
  have q := wtF_parts (P := P) h L.length
  rwa [List.take_length] at q
def lowP (l y : Int) : Int → Bool := fun n => decide (hiN l n ≤ y)
def highP (l y : Int) : Int → Bool := fun n => decide (loN l n ≤ y)
theorem low_is (l : Int) (L : List Nd) (y : Int) : lowR l L y = wtF (lowP l y) L := rfl
theorem high_is (l : Int) (L : List Nd) (y : Int) : highR l L y = wtF (highP l y) L := rfl
theorem low_bd {l : Int} {L : List Nd} (h : RollC l L) (y : Int) : 0 ≤ lowR l L y ∧ lowR l L y ≤ 72057594037927935 := wtF_all_parts h
theorem high_bd {l : Int} {L : List Nd} (h : RollC l L) (y : Int) : 0 ≤ highR l L y ∧ highR l L y ≤ 72057594037927935 := wtF_all_parts h
theorem low_mono {l : Int} {L : List Nd} (h : RollC l L) {a b : Int} (hab : a ≤ b) : lowR l L a ≤ lowR l L b :=
  wtF_le (good_nonneg (roll_good h)) fun n _ q => decide_eq_true (Int.le_trans (of_decide_eq_true q) hab)
theorem high_mono {l : Int} {L : List Nd} (h : RollC l L) {a b : Int} (hab : a ≤ b) : highR l L a ≤ highR l L b :=
  wtF_le (good_nonneg (roll_good h)) fun n _ q => decide_eq_true (Int.le_trans (of_decide_eq_true q) hab)
theorem node_ends {l : Int} {L : List Nd} (h : RollC l L) {n : Nd} (hn : n ∈ L) : 0 ≤ loN l n.1 ∧ loN l n.1 ≤ hiN l n.1 ∧ hiN l n.1 < 2 ^ l.toNat := by
  have r : RightC l n.1 := of_decide_eq_true (h.2.2.1 n hn).1
  have m := right_max (h.2.2.1 n hn).1
  have e := end_yes r
  have b := wid_bd r m
  have p := wid_pos l n.1
  rw [e.1, e.2.1]
  exact ⟨by omega, by omega, by omega⟩
theorem low_high {l : Int} {L : List Nd} (h : RollC l L) (y : Int) : lowR l L y ≤ highR l L y :=
  wtF_le (good_nonneg (roll_good h)) fun n hn q => decide_eq_true (Int.le_trans (node_ends h hn).2.1 (of_decide_eq_true q))
/-- from the last value on both are all -/
theorem rank_last {l : Int} {L : List Nd} (h : RollC l L) {a : Int} (ha : 2 ^ l.toNat - 1 ≤ a) : lowR l L a = sumC L ∧ highR l L a = sumC L := by
  rw [← wtF_all]
  exact ⟨wtF_eq fun n hn => decide_eq_true (by have := node_ends h hn; omega), wtF_eq fun n hn => decide_eq_true (by have := node_ends h hn; omega)⟩
theorem wtF_none (L : List Nd) : wtF (fun _ => false) L = 0 := by
  induction L with
  | nil => rfl
  | cons n L ih => simp [wtF, ih]
theorem rank_first {l : Int} {L : List Nd} (h : RollC l L) {a : Int} (ha : a < 0) : lowR l L a = 0 ∧ highR l L a = 0 := by
  rw [← wtF_none L]
  exact ⟨wtF_eq fun n hn => decide_eq_false (by have := node_ends h hn; omega), wtF_eq fun n hn => decide_eq_false (by have := node_ends h hn; omega)⟩
/-- how far both may be apart -/
def slackN (l k : Int) (L : List Nd) : Int := l * (sumC L / k)
theorem slack_bd {l k : Int} {L : List Nd} (v : DgV l k L) : 0 ≤ sumC L / k ∧ sumC L / k ≤ 72057594037927935 ∧ 0 ≤ slackN l k L ∧ slackN l k L ≤ 3458764513820540880 := by
  have u : 1 ≤ l ∧ l ≤ 48 := of_decide_eq_true v.roll.1
  have s : sumC L ≤ 72057594037927935 := v.roll.2.2.2.2
  have s0 : 0 ≤ sumC L := by have := wtF_all_parts (P := fun _ => true) v.roll; rw [wtF_all] at this; exact this.1
  have k1 := v.k1
  have c0 : 0 ≤ sumC L / k := Int.ediv_nonneg s0 (by omega)
  have c1 : sumC L / k ≤ 72057594037927935 := Int.le_trans (Int.ediv_le_self _ s0) s
  have m : l * (sumC L / k) ≤ 48 * 72057594037927935 := Int.mul_le_mul u.2 c1 c0 (by omega)
  exact ⟨c0, c1, Int.mul_nonneg (by omega) c0, by unfold slackN; omega⟩
/-! ### the values at which the lower sum grows -/
def insS (x : Int) : List Int → List Int
  | [] => [x]
  | y :: ys => if y < x then y :: insS x ys else if y = x then y :: ys else x :: y :: ys
def stepsN (l : Int) (L : List Nd) : List Int := L.foldl (fun o n => insS (hiN l n.1) o) []
theorem steps_take (l : Int) {L : List Nd} {k : Nat} (hk : k < L.length) : stepsN l (L.take (k + 1)) = insS (hiN l (L.getD k nz).1) (stepsN l (L.take k)) := by
  have g : L.getD k nz = L[k] := by simp [List.getD_eq_getElem?_getD, hk]
  unfold stepsN
  rw [List.take_succ_eq_append_getElem hk, List.foldl_append, g]
  rfl
theorem insS_mem {x y : Int} : ∀ {T : List Int}, y ∈ insS x T ↔ y = x ∨ y ∈ T
  | [] => by simp [insS]
  | z :: T => by
    unfold insS
    split
    · rw [List.mem_cons, insS_mem, List.mem_cons]; constructor <;> (rintro (h | h | h) <;> simp [h])
    · split
      · rename_i h; subst h; simp
      · simp
theorem insS_len {x : Int} : ∀ {T : List Int}, (insS x T).length ≤ T.length + 1
  | [] => by simp [insS]
  | z :: T => by
    unfold insS
    have := insS_len (x := x) (T := T)
    split
    · simp; omega
    · split <;> simp
theorem steps_len (l : Int) (L : List Nd) : ∀ k : Nat, (stepsN l (L.take k)).length ≤ k
  | 0 => by simp [stepsN]
  | k + 1 => by
    have ih := steps_len l L k
    by_cases h : k < L.length
    · rw [steps_take l h]
      have := insS_len (x := hiN l (L.getD k nz).1) (T := stepsN l (L.take k))
      omega
    · rw [List.take_of_length_le (by omega)]
      rw [List.take_of_length_le (by omega)] at ih
      omega
theorem steps_mem (l : Int) (L : List Nd) (y : Int) : y ∈ stepsN l L ↔ ∃ n ∈ L, hiN l n.1 = y := by
  have key : ∀ (L : List Nd) (o : List Int), y ∈ L.foldl (fun o n => insS (hiN l n.1) o) o ↔ y ∈ o ∨ ∃ n ∈ L, hiN l n.1 = y := by
    intro L
    induction L with
    | nil => intro o; simp
    | cons n L ih =>
      intro o
      rw [List.foldl_cons, ih, insS_mem]
      constructor
      · rintro ((h | h) | ⟨m, hm, h⟩)
        · exact .inr ⟨n, by simp, h.symm⟩
        · exact .inl h
        · exact .inr ⟨m, by simp [hm], h⟩
      · rintro (h | ⟨m, hm, h⟩)
        · exact .inl (.inr h)
        · rcases List.mem_cons.1 hm with q | q
          · subst q; exact .inl (.inl h.symm)
          · exact .inr ⟨m, q, h⟩
  rw [stepsN, key]; simp
/-- rising -/
def RiseI : List Int → Prop
  | [] => True
  | x :: T => (∀ y ∈ T, x < y) ∧ RiseI T
theorem insS_rise {x : Int} : ∀ {T : List Int}, RiseI T → RiseI (insS x T)
  | [], _ => ⟨fun y h => by simp at h, trivial⟩
  | z :: T, ⟨h1, h2⟩ => by
    unfold insS
    split
    · rename_i hz
      refine ⟨fun y hy => ?_, insS_rise h2⟩
      rcases insS_mem.1 hy with q | q
      · omega
      · exact h1 y q
    · split
      · exact ⟨h1, h2⟩
      · refine ⟨fun y hy => ?_, h1, h2⟩
        rcases List.mem_cons.1 hy with q | q
        · omega
        · have := h1 y q; omega
theorem steps_rise (l : Int) (L : List Nd) : RiseI (stepsN l L) := by
  have key : ∀ (L : List Nd) (o : List Int), RiseI o → RiseI (L.foldl (fun o n => insS (hiN l n.1) o) o) := by
    intro L
    induction L with
    | nil => intro o h; exact h
    | cons n L ih => intro o h; exact ih _ (insS_rise h)
  exact key L [] trivial
/-- a rising list is told by what it has -/
theorem rise_uniq : ∀ {S T : List Int}, RiseI S → RiseI T → (∀ y, y ∈ S ↔ y ∈ T) → S = T
  | [], [], _, _, _ => rfl
  | [], y :: T, _, _, h => absurd ((h y).2 (by simp)) (by simp)
  | x :: S, [], _, _, h => absurd ((h x).1 (by simp)) (by simp)
  | x :: S, y :: T, ⟨a, b⟩, ⟨c, d⟩, h => by
    have e : x = y := by
      rcases List.mem_cons.1 ((h x).1 (by simp)) with p | p
      · exact p
      · rcases List.mem_cons.1 ((h y).2 (by simp)) with q | q
        · exact q.symm
        · have := a y q; have := c x p; omega
    subst e
    have r := rise_uniq b d fun z => by
      constructor
      · intro hz
        rcases List.mem_cons.1 ((h z).1 (List.mem_cons_of_mem _ hz)) with q | q
        · have := a z hz; omega
        · exact q
      · intro hz
        rcases List.mem_cons.1 ((h z).2 (List.mem_cons_of_mem _ hz)) with q | q
        · have := c z hz; omega
        · exact q
    rw [r]
theorem ins_at {x : Int} : ∀ {T : List Int} {k : Nat}, k ≤ T.length → (∀ j, j < k → T.getD j 0 < x) → (k = T.length ∨ ¬ T.getD k 0 < x) → insS x T = if k < T.length ∧ T.getD k 0 = x then T else T.take k ++ x :: T.drop k
  | [], k, hk, _, _ => by
    obtain rfl : k = 0 := by simpa using hk
    simp [insS]
  | y :: T, 0, _, _, h => by
    have hy : ¬ y < x := by rcases h with h | h; simp at h; simpa using h
    unfold insS
    rw [if_neg hy]
    by_cases e : y = x
    · rw [if_pos e, if_pos ⟨by simp, by simpa using e⟩]
    · rw [if_neg e, if_neg (by simp [e])]
      simp
  | y :: T, k + 1, hk, h1, h2 => by
    have hy : y < x := by simpa using h1 0 (by omega)
    have ih := ins_at (x := x) (T := T) (k := k) (by simpa using hk) (fun j hj => by simpa using h1 (j + 1) (by omega)) (by rcases h2 with h | h; exact .inl (by simpa using h); exact .inr (by simpa using h))
    unfold insS
    rw [if_pos hy, ih]
    by_cases c : k < T.length ∧ T.getD k 0 = x
    · rw [if_pos c, if_pos ⟨by simp; omega, by simpa using c.2⟩]
    · rw [if_neg c, if_neg (by simpa using c)]
      simp
theorem steps_bd {l : Int} {L : List Nd} (h : RollC l L) : ∀ y ∈ stepsN l L, 0 ≤ y ∧ y < 2 ^ l.toNat := fun y hy => by
  obtain ⟨n, hn, e⟩ := (steps_mem l L y).1 hy
  have := node_ends h hn
  omega

end Go.Proofs.YtkoefclkpdpdpaaGreat

/- Plain facts of layer quant: the least value up to which so much weighs. No program is spoken of here. -/
namespace Go.Proofs.YtkoefclkpdpdpaaGreat
set_option linter.unusedVariables false

/-- what those nodes weigh whose end is at most y -/
def wtE (e : Int → Int) (L : List Nd) (y : Int) : Int := wtF (fun n => decide (e n ≤ y)) L
theorem low_wtE (l : Int) (L : List Nd) (y : Int) : lowR l L y = wtE (hiN l) L y := rfl
theorem high_wtE (l : Int) (L : List Nd) (y : Int) : highR l L y = wtE (loN l) L y := rfl
/-- of the ends the least one that will do, by definition -/
def bestS (e : Int → Int) (A : List Nd) (r b : Int) (n : Nd) : Int := if r ≤ wtE e A (e n.1) ∧ (b < 0 ∨ e n.1 < b) then e n.1 else b
def bestE (e : Int → Int) (A : List Nd) (r : Int) (P : List Nd) : Int := P.foldl (bestS e A r) (-1)
theorem best_take (e : Int → Int) (A : List Nd) (r : Int) {P : List Nd} {k : Nat} (hk : k < P.length) : bestE e A r (P.take (k + 1)) = bestS e A r (bestE e A r (P.take k)) (P.getD k nz) := by
  have g : P.getD k nz = P[k] := by simp [List.getD_eq_getElem?_getD, hk]
  unfold bestE
  rw [List.take_succ_eq_append_getElem hk, List.foldl_append, g]
  rfl
theorem best_spec {e : Int → Int} {A : List Nd} {r : Int} (he : ∀ n ∈ A, 0 ≤ e n.1) : ∀ (P Q : List Nd) (b : Int), (∀ n ∈ P, n ∈ A) → (∀ n ∈ Q, n ∈ A) →
    ((b = -1 ∧ ∀ n ∈ Q, wtE e A (e n.1) < r) ∨ (∃ m ∈ A, b = e m.1 ∧ r ≤ wtE e A b ∧ ∀ n ∈ Q, r ≤ wtE e A (e n.1) → b ≤ e n.1)) →
    ((P.foldl (bestS e A r) b = -1 ∧ ∀ n ∈ Q ++ P, wtE e A (e n.1) < r) ∨ (∃ m ∈ A, P.foldl (bestS e A r) b = e m.1 ∧ r ≤ wtE e A (e m.1) ∧ ∀ n ∈ Q ++ P, r ≤ wtE e A (e n.1) → e m.1 ≤ e n.1))
  | [], Q, b, _, _, h => by
    rcases h with ⟨h1, h2⟩ | ⟨m, hm, h1, h2, h3⟩
    · exact .inl ⟨h1, by simpa using h2⟩
    · subst h1; exact .inr ⟨m, hm, rfl, h2, by simpa using h3⟩
  | x :: P, Q, b, hP, hQ, h => by
    have hx := hP x (by simp)
    have h0 := he x hx
    have k : ((bestS e A r b x = -1 ∧ ∀ n ∈ Q ++ [x], wtE e A (e n.1) < r) ∨ (∃ m ∈ A, bestS e A r b x = e m.1 ∧ r ≤ wtE e A (bestS e A r b x) ∧ ∀ n ∈ Q ++ [x], r ≤ wtE e A (e n.1) → bestS e A r b x ≤ e n.1)) := by
      unfold bestS
      by_cases c : r ≤ wtE e A (e x.1) ∧ (b < 0 ∨ e x.1 < b)
      · rw [if_pos c]
        refine .inr ⟨x, hx, rfl, c.1, fun n hn hr => ?_⟩
        rcases List.mem_append.1 hn with q | q
        · rcases h with ⟨_, h2⟩ | ⟨m, hm, h1, _, h3⟩
          · have := h2 n q; omega
          · have a := h3 n q hr
            have z := he m hm
            omega
        · rw [List.mem_singleton.1 q]; omega
      · rw [if_neg c]
        rcases h with ⟨h1, h2⟩ | ⟨m, hm, h1, h2, h3⟩
        · refine .inl ⟨h1, fun n hn => ?_⟩
          rcases List.mem_append.1 hn with q | q
          · exact h2 n q
          · rw [List.mem_singleton.1 q]; omega
        · refine .inr ⟨m, hm, h1, h2, fun n hn hr => ?_⟩
          rcases List.mem_append.1 hn with q | q
          · exact h3 n q hr
          · rw [List.mem_singleton.1 q] at hr ⊢; omega
    have r2 := best_spec he P (Q ++ [x]) (bestS e A r b x) (fun n hn => hP n (by simp [hn])) (fun n hn => by
      rcases List.mem_append.1 hn with q | q
      · exact hQ n q
      · rw [List.mem_singleton.1 q]; exact hx) k
    rw [List.append_assoc] at r2
    exact r2
/-- the greatest end at most z -/
theorem end_under {e : Int → Int} {z : Int} : ∀ {L : List Nd}, (∃ n ∈ L, e n.1 ≤ z) → ∃ n ∈ L, e n.1 ≤ z ∧ ∀ m ∈ L, e m.1 ≤ z → e m.1 ≤ e n.1
  | [], h => by obtain ⟨n, h, _⟩ := h; simp at h
  | x :: L, h => by
    by_cases c : ∃ n ∈ L, e n.1 ≤ z
    · obtain ⟨n, hn, h1, h2⟩ := end_under c
      by_cases d : e x.1 ≤ z ∧ e n.1 < e x.1
      · refine ⟨x, by simp, d.1, fun m hm hz => ?_⟩
        rcases List.mem_cons.1 hm with q | q
        · rw [q]; omega
        · have := h2 m q hz; omega
      · refine ⟨n, by simp [hn], h1, fun m hm hz => ?_⟩
        rcases List.mem_cons.1 hm with q | q
        · rw [q] at hz ⊢; omega
        · exact h2 m q hz
    · obtain ⟨n, hn, h1⟩ := h
      have hx : n = x := by
        rcases List.mem_cons.1 hn with q | q
        · exact q
        · exact absurd ⟨n, q, h1⟩ c
      subst hx
      refine ⟨n, by simp, h1, fun m hm hz => ?_⟩
      rcases List.mem_cons.1 hm with q | q
      · rw [q]; omega
      · exact absurd ⟨m, q, hz⟩ c
theorem wtE_at {e : Int → Int} {L : List Nd} {z : Int} (h : 1 ≤ wtE e L z) : ∃ n ∈ L, e n.1 ≤ z ∧ wtE e L (e n.1) = wtE e L z := by
  have c : ∃ n ∈ L, e n.1 ≤ z := Classical.byContradiction fun c => by
    have : wtE e L z = wtF (fun _ => false) L := wtF_eq fun n hn => decide_eq_false fun q => c ⟨n, hn, q⟩
    rw [this, wtF_none] at h
    omega
  obtain ⟨n, hn, h1, h2⟩ := end_under c
  refine ⟨n, hn, h1, wtF_eq fun m hm => ?_⟩
  by_cases q : e m.1 ≤ z
  · rw [decide_eq_true q, decide_eq_true (h2 m hm q)]
  · rw [decide_eq_false q, decide_eq_false (by omega)]
theorem wtE_mono {e : Int → Int} {L : List Nd} (h : NonNeg L) {a b : Int} (hab : a ≤ b) : wtE e L a ≤ wtE e L b :=
  wtF_le h fun n _ q => decide_eq_true (Int.le_trans (of_decide_eq_true q) hab)
/-- y is the least up to which so much weighs -/
structure AtP (e : Int → Int) (L : List Nd) (r y : Int) : Prop where
  is : r ≤ wtE e L y
  least : ∀ z, z < y → wtE e L z < r
theorem AtP.uniq {e : Int → Int} {L : List Nd} {r x y : Int} (a : AtP e L r x) (b : AtP e L r y) : x = y := by
  rcases Int.lt_trichotomy x y with h | h | h
  · have := b.least x h; have := a.is; omega
  · exact h
  · have := a.least y h; have := b.is; omega
theorem AtP.mono {e : Int → Int} {L : List Nd} {r s x y : Int} (a : AtP e L r x) (b : AtP e L s y) (h : r ≤ s) : x ≤ y := by
  rcases Int.lt_or_le y x with q | q
  · have := a.least y q; have := b.is; omega
  · exact q
theorem AtP.le {e : Int → Int} {L : List Nd} {r x z : Int} (a : AtP e L r x) (h : r ≤ wtE e L z) : x ≤ z := by
  rcases Int.lt_or_le z x with q | q
  · have := a.least z q; omega
  · exact q
/-- the best one is it -/
theorem best_at {e : Int → Int} {L : List Nd} {r : Int} (he : ∀ n ∈ L, 0 ≤ e n.1) (nn : NonNeg L) (h1 : 1 ≤ r) (h2 : r ≤ sumC L) : AtP e L r (bestE e L r L) ∧ ∃ m ∈ L, bestE e L r L = e m.1 := by
  have s := best_spec (r := r) he L [] (-1) (fun n h => h) (fun n h => by simp at h) (.inl ⟨rfl, fun n h => by simp at h⟩)
  -- up to a great number all of it weighs
  have top : ∃ Z, ∀ n ∈ L, e n.1 ≤ Z := by
    clear s h2 nn he
    induction L with
    | nil => exact ⟨0, fun n h => by simp at h⟩
    | cons x L ih =>
      obtain ⟨Z, hZ⟩ := ih
      refine ⟨max Z (e x.1), fun n hn => ?_⟩
      rcases List.mem_cons.1 hn with q | q
      · rw [q]; omega
      · have := hZ n q; omega
  obtain ⟨Z, hZ⟩ := top
  have all : wtE e L Z = sumC L := by rw [← wtF_all]; exact wtF_eq fun n hn => decide_eq_true (hZ n hn)
  obtain ⟨n, hn, _, hw⟩ := wtE_at (e := e) (L := L) (z := Z) (by omega)
  rcases s with ⟨_, s⟩ | ⟨m, hm, s1, s2, s3⟩
  · have := s n (by simpa using hn); omega
  · have eb : bestE e L r L = e m.1 := s1
    refine ⟨⟨by rw [eb]; exact s2, fun z hz => ?_⟩, m, hm, eb⟩
    rcases Int.lt_or_le (wtE e L z) r with q | q
    · exact q
    · obtain ⟨n, hn, hz2, hw2⟩ := wtE_at (e := e) (L := L) (z := z) (by omega)
      have := s3 n (by simpa using hn) (by omega)
      rw [eb] at hz
      omega
/-- the values of a rank: the least whose Low, and whose High, isn't below it -/
def atN (l : Int) (L : List Nd) (r : Int) : Int := bestE (hiN l) L r L
def fstQ (l : Int) (L : List Nd) (r : Int) : Int := bestE (loN l) L r L
theorem at_is {l : Int} {L : List Nd} {r : Int} (h : RollC l L) (h1 : 1 ≤ r) (h2 : r ≤ sumC L) : AtP (hiN l) L r (atN l L r) ∧ 0 ≤ atN l L r ∧ atN l L r < 2 ^ l.toNat := by
  obtain ⟨a, m, hm, e⟩ := best_at (e := hiN l) (fun n hn => by have := node_ends h hn; omega) (good_nonneg (roll_good h)) h1 h2
  have z := node_ends h hm
  refine ⟨a, ?_, ?_⟩ <;> (unfold atN; rw [e]; omega)
theorem fst_isQ {l : Int} {L : List Nd} {r : Int} (h : RollC l L) (h1 : 1 ≤ r) (h2 : r ≤ sumC L) : AtP (loN l) L r (fstQ l L r) ∧ 0 ≤ fstQ l L r ∧ fstQ l L r < 2 ^ l.toNat := by
  obtain ⟨a, m, hm, e⟩ := best_at (e := loN l) (fun n hn => by have := node_ends h hn; omega) (good_nonneg (roll_good h)) h1 h2
  have z := node_ends h hm
  refine ⟨a, ?_, ?_⟩ <;> (unfold fstQ; rw [e]; omega)
/-- the span's ends are in order -/
theorem fst_at {l : Int} {L : List Nd} {r : Int} (h : RollC l L) (h1 : 1 ≤ r) (h2 : r ≤ sumC L) : fstQ l L r ≤ atN l L r := by
  have a := (at_is h h1 h2).1
  have b := (fst_isQ h h1 h2).1
  refine b.le ?_
  have c := low_high h (atN l L r)
  have d := a.is
  rw [low_wtE, high_wtE] at c
  omega
/-- the true value of the rank is in the span; the value that is told has the rank, the one ahead of it is below that and the slack -/
theorem quant_holds {l k r x : Int} {L T : List Nd} (v : DgV l k L) (s : DgS l L T) (h1 : 1 ≤ r) (h2 : r ≤ sumC L) (hx : r ≤ betN T 0 x) (hl : ∀ z, z < x → betN T 0 z < r) :
    r ≤ betN T 0 (atN l L r) ∧ betN T 0 (atN l L r - 1) < r + slackN l k L ∧ fstQ l L r ≤ x ∧ x ≤ atN l L r := by
  have a := (at_is v.roll h1 h2).1
  have b := (fst_isQ v.roll h1 h2).1
  have r1 := std_rank (y := atN l L r) s.std v.roll s.bag
  have r2 := std_rank (y := atN l L r - 1) s.std v.roll s.bag
  have r3 := std_rank (y := x) s.std v.roll s.bag
  have g := rank_gap (y := atN l L r - 1) v.roll (slack_bd v).1 v.light
  have g2 : highR l L (atN l L r - 1) - lowR l L (atN l L r - 1) ≤ slackN l k L := g.2
  have c := a.least (atN l L r - 1) (by omega)
  have d := a.is
  rw [← low_wtE] at c d
  have m1 : r ≤ betN T 0 (atN l L r) := by omega
  refine ⟨m1, by omega, b.le (by rw [← high_wtE]; omega), ?_⟩
  rcases Int.lt_or_le (atN l L r) x with q | q
  · have := hl _ q; omega
  · exact q
/-- the last of a rising list is its greatest -/
theorem rise_last : ∀ {S : List Int} (h : S ≠ []), RiseI S → S.getLast h ∈ S ∧ ∀ y ∈ S, y ≤ S.getLast h
  | [x], _, _ => ⟨by simp, fun y hy => by simp at hy; simp [hy]⟩
  | x :: z :: S, _, ⟨a, b⟩ => by
    have r := rise_last (S := z :: S) (by simp) b
    rw [List.getLast_cons (by simp)]
    refine ⟨List.mem_cons_of_mem _ r.1, fun y hy => ?_⟩
    rcases List.mem_cons.1 hy with q | q
    · rw [q]; exact Int.le_of_lt (a _ r.1)
    · exact r.2 y q
theorem wtF_one {m : Nd} : ∀ {L : List Nd}, NonNeg L → m ∈ L → m.2 ≤ wtF (fun n => decide (n = m.1)) L
  | [], _, h => by simp at h
  | x :: L, nn, h => by
    have n2 : NonNeg L := fun y hy => nn y (by simp [hy])
    have b := wtF_bd (fun n => decide (n = m.1)) n2
    rcases List.mem_cons.1 h with q | q
    · subst q; simp only [wtF, decide_true, if_true]; omega
    · have i := wtF_one n2 q
      have hx := nn x (by simp)
      simp only [wtF]; split <;> omega
/-- the value of all is where the last node ends -/
theorem at_all {l : Int} {L : List Nd} (h : RollC l L) (h1 : 1 ≤ sumC L) : ∃ hn : stepsN l L ≠ [], (stepsN l L).getLast hn = atN l L (sumC L) := by
  have a := at_is h h1 (Int.le_refl _)
  obtain ⟨n0, hn0⟩ : ∃ n, n ∈ L := by
    cases L with
    | nil => simp [sumC] at h1
    | cons x L => exact ⟨x, by simp⟩
  have ne : stepsN l L ≠ [] := fun e => by
    have := (steps_mem l L (hiN l n0.1)).2 ⟨n0, hn0, rfl⟩
    rw [e] at this; simp at this
  refine ⟨ne, ?_⟩
  have r := rise_last ne (steps_rise l L)
  obtain ⟨m, hm, em⟩ := (steps_mem l L _).1 r.1
  refine AtP.uniq ⟨?_, fun z hz => ?_⟩ a.1
  · have : wtE (hiN l) L ((stepsN l L).getLast ne) = sumC L := by
      rw [← wtF_all]
      exact wtF_eq fun n hn => decide_eq_true (r.2 _ ((steps_mem l L _).2 ⟨n, hn, rfl⟩))
    omega
  · have nn := good_nonneg (roll_good h)
    have e := wtF_not (fun n => decide (hiN l n ≤ z)) L
    have p : 1 ≤ wtF (fun n => !(decide (hiN l n ≤ z))) L := by
      have q := (roll_good h).pos m hm
      have one : wtF (fun n => decide (n = m.1)) L ≤ wtF (fun n => !(decide (hiN l n ≤ z))) L := wtF_le nn fun n _ d => by
        have d := of_decide_eq_true d
        rw [d, em]; simp; omega
      have two := wtF_one nn hm
      omega
    show wtF (fun n => decide (hiN l n ≤ z)) L < sumC L
    omega

end Go.Proofs.YtkoefclkpdpdpaaGreat

/- Plain facts on floats (binary64): the float nearest to a whole number from 0 to below 2^53 stands for just that number; how two such floats stand to each other, and what is cut of one. No program is spoken of here. -/
namespace Go.Proofs.YtkoefclkpdpdpaaGreat
set_option linter.unusedVariables false

theorem cut_whole (way : Ieee.Toward) (neg : Bool) (n : Nat) : way.cut neg n 0 = n := by
  unfold Ieee.Toward.cut
  have h0 : min 0 (n.log2 + 2) = 0 := Nat.zero_min _
  rw [h0]
  have h1 : (1 <<< 0 : Nat) = 1 := rfl
  rw [h1]
  dsimp only
  rw [Nat.div_one, Nat.mod_one]
  cases way <;> simp

theorem flo_log {n : Nat} (h0 : 0 < n) (h1 : n < 9007199254740992) : n.log2 ≤ 52 ∧ 4503599627370496 ≤ n * 2 ^ (52 - n.log2) ∧ n * 2 ^ (52 - n.log2) < 9007199254740992 := by
  have hn : n ≠ 0 := by omega
  have a := Nat.log2_self_le hn
  have b := @Nat.lt_log2_self n
  have c : n.log2 < 53 := (Nat.log2_lt hn).2 h1
  refine ⟨by omega, ?_, ?_⟩
  · have d : 2 ^ n.log2 * 2 ^ (52 - n.log2) = 2 ^ 52 := by rw [← Nat.pow_add]; congr 1; omega
    have e := Nat.mul_le_mul_right (2 ^ (52 - n.log2)) a
    rw [d] at e; exact e
  · have d : 2 ^ (n.log2 + 1) * 2 ^ (52 - n.log2) = 2 ^ 53 := by rw [← Nat.pow_add]; congr 1; omega
    have e := Nat.mul_lt_mul_of_pos_right b (Nat.two_pow_pos (52 - n.log2))
    rw [d] at e; exact e

theorem nearest_is {n : Nat} (h0 : 0 < n) (h1 : n < 9007199254740992) : Ieee.double.nearest false n 0 = (n.log2 + 1022) * 4503599627370496 + n * 2 ^ (52 - n.log2) := by
  obtain ⟨hL, k0, k1⟩ := flo_log h0 h1
  unfold Ieee.Format.nearest
  rw [if_neg (by omega)]
  have hl : Ieee.double.leastPlace = -1074 := by decide
  have hf : Ieee.double.fractionBits = 52 := rfl
  have hb : Ieee.double.binade = 4503599627370496 := by decide
  have hi : Ieee.double.infRung = 2047 * 4503599627370496 := by decide
  have hm : max ((0 : Int) + (n.log2 : Int) - (Ieee.double.fractionBits : Int)) Ieee.double.leastPlace = (n.log2 : Int) - 52 := by rw [hl, hf]; omega
  rw [hm, hl, hb, hi]
  have e1 : ((0 : Int) - ((n.log2 : Int) - 52)).toNat = 52 - n.log2 := by omega
  have e2 : (((n.log2 : Int) - 52) - 0).toNat = 0 := by omega
  have e3 : ((n.log2 : Int) - 52 - (-1074)).toNat = n.log2 + 1022 := by omega
  dsimp only
  rw [e1, e2, e3, cut_whole, Nat.shiftLeft_eq]
  have hw : ∀ r, Ieee.double.word false r = r := fun r => if_neg Bool.false_ne_true
  rw [hw]
  generalize n * 2 ^ (52 - n.log2) = K at *
  generalize n.log2 = L at *
  exact Nat.min_eq_left (by omega)

theorem read_nearest {n : Nat} (h0 : 0 < n) (h1 : n < 9007199254740992) : Ieee.double.read (Ieee.double.nearest false n 0) = .number false (n * 2 ^ (52 - n.log2)) ((n.log2 : Int) - 52) := by
  obtain ⟨hL, k0, k1⟩ := flo_log h0 h1
  rw [nearest_is h0 h1]
  have hl : Ieee.double.leastPlace = -1074 := by decide
  have hb : Ieee.double.binade = 4503599627370496 := by decide
  have hi : Ieee.double.infRung = 9218868437227405312 := by decide
  have hs : Ieee.double.signWeight = 9223372036854775808 := by decide
  unfold Ieee.Format.read
  rw [hl, hb, hi, hs]
  generalize n * 2 ^ (52 - n.log2) = K at *
  generalize n.log2 = L at *
  have d : ((L + 1022) * 4503599627370496 + K) / 9223372036854775808 % 2 = 0 := by omega
  have m : ((L + 1022) * 4503599627370496 + K) % 9223372036854775808 = (L + 1022) * 4503599627370496 + K := by omega
  have q : ((L + 1022) * 4503599627370496 + K) % 4503599627370496 = K - 4503599627370496 := by omega
  have p : ((L + 1022) * 4503599627370496 + K) / 4503599627370496 = L + 1023 := by omega
  dsimp only
  rw [d, m, q, p, if_neg (by omega), if_pos (by omega)]
  have g1 : 4503599627370496 + (K - 4503599627370496) = K := by omega
  have g2 : (-1074 : Int) + ((L + 1023 - 1 : Nat) : Int) = (L : Int) - 52 := by omega
  rw [g1, g2]
  rfl

theorem zero_pw (k : Nat) : 0 = ((0 : Nat) : Int).toNat * 2 ^ k := by simp

/-- the float nearest to a whole number -/
theorem flo_read {n : Int} (h0 : 0 ≤ n) (h1 : n < 9007199254740992) : ∃ m k : Nat, ∃ e : Int, Ieee.double.read (floatOfInt .f64 n) = .number false m e ∧ e ≤ 0 ∧ m = n.toNat * 2 ^ k ∧ (-e).toNat = k := by
  obtain ⟨j, rfl⟩ := Int.eq_ofNat_of_zero_le h0
  have hf : floatOfInt .f64 (j : Int) = Ieee.double.nearest false j 0 := by
    have hd : decide ((j : Int) < 0) = false := decide_eq_false (by omega)
    show Ieee.double.write (.number (decide ((j : Int) < 0)) (j : Int).natAbs 0) = _
    rw [hd]; rfl
  rw [hf]
  by_cases hj : j = 0
  · subst hj; exact ⟨0, 1074, -1074, by decide +kernel, by decide, zero_pw 1074, by decide⟩
  · have := (flo_log (n := j) (by omega) (by omega)).1
    exact ⟨_, 52 - j.log2, _, read_nearest (by omega) (by omega), by omega, by simp, by omega⟩

theorem signed_pos (m up : Nat) : Ieee.signed false m up = ((m * 2 ^ up : Nat) : Int) := by
  unfold Ieee.signed
  rw [if_neg (by decide), Nat.shiftLeft_eq]

theorem cmp_scale (a b : Int) (K : Nat) (hK : 0 < K) : compare (a * K) (b * K) = compare a b := by
  have hk : (0 : Int) < (K : Int) := by omega
  rcases Int.lt_trichotomy a b with h | h | h
  · have := Int.mul_lt_mul_of_pos_right h hk
    rw [Int.compare_eq_lt.2 this, Int.compare_eq_lt.2 h]
  · subst h; rw [Int.compare_eq_eq.2 rfl, Int.compare_eq_eq.2 rfl]
  · have := Int.mul_lt_mul_of_pos_right h hk
    rw [Int.compare_eq_gt.2 this, Int.compare_eq_gt.2 h]

theorem flo_order {a b : Int} (a0 : 0 ≤ a) (a1 : a < 9007199254740992) (b0 : 0 ≤ b) (b1 : b < 9007199254740992) : Ieee.double.order (floatOfInt .f64 a) (floatOfInt .f64 b) = some (compare a b) := by
  obtain ⟨m, k, e, hr, he, hm, hk⟩ := flo_read a0 a1
  obtain ⟨n, j, f, hs, hf, hn, hj⟩ := flo_read b0 b1
  unfold Ieee.Format.order
  rw [hr, hs]
  unfold Ieee.Datum.order
  simp only [signed_pos]
  subst hm hn hk hj
  obtain ⟨x, rfl⟩ := Int.eq_ofNat_of_zero_le a0
  obtain ⟨y, rfl⟩ := Int.eq_ofNat_of_zero_le b0
  congr 1
  refine Eq.trans ?_ (cmp_scale (x : Int) (y : Int) (2 ^ (-(min e f)).toNat) (Nat.two_pow_pos _))
  have p1 : (-e).toNat + (e - min e f).toNat = (-(min e f)).toNat := by omega
  have p2 : (-f).toNat + (f - min e f).toNat = (-(min e f)).toNat := by omega
  rw [Nat.mul_assoc, ← Nat.pow_add, p1, Nat.mul_assoc, ← Nat.pow_add, p2]
  simp

theorem flo_cut {n : Int} (h0 : 0 ≤ n) (h1 : n < 9007199254740992) : floatToIntVal .f64 (floatOfInt .f64 n) .i64 = some n := by
  obtain ⟨m, k, e, hr, he, hm, hk⟩ := flo_read h0 h1
  obtain ⟨x, rfl⟩ := Int.eq_ofNat_of_zero_le h0
  have ht : (FloatKind.decode .f64 (floatOfInt .f64 (x : Int))).toInt .zero = some (x : Int) := by
    show (Ieee.double.read (floatOfInt .f64 (x : Int))).toInt .zero = _
    rw [hr]
    unfold Ieee.Datum.toInt Ieee.Datum.integral
    have e0 : e.toNat = 0 := by omega
    simp only [e0, signed_pos]
    subst hm hk
    have hc : Ieee.Toward.zero.cut false (((x : Int).toNat * 2 ^ (-e).toNat) <<< 0) (-e).toNat = x := by
      rw [Nat.shiftLeft_zero]
      simp only [Int.toNat_natCast]
      unfold Ieee.Toward.cut
      simp only [Bool.toNat_false, Nat.add_zero, Nat.shiftLeft_eq, Nat.one_mul]
      by_cases hx : x = 0
      · subst hx; simp
      · have hp : 0 < 2 ^ (-e).toNat := Nat.two_pow_pos _
        have hle : (-e).toNat ≤ (x * 2 ^ (-e).toNat).log2 := by
          refine (Nat.le_log2 (by exact Nat.mul_ne_zero hx (by omega))).2 ?_
          exact Nat.le_mul_of_pos_left _ (by omega)
        have hmin : min (-e).toNat ((x * 2 ^ (-e).toNat).log2 + 2) = (-e).toNat := by omega
        rw [hmin, Nat.mul_div_cancel _ hp]
    rw [hc]; simp
  unfold floatToIntVal
  rw [ht]
  have lo : IntKind.i64.min = -9223372036854775808 := by decide
  have hi : IntKind.i64.max = 9223372036854775807 := by decide
  simp only [lo, hi]
  rw [if_pos (by omega)]

theorem flo_zero : floatOfInt .f64 0 = 0 := by decide
theorem flo_last : floatOfInt .f64 281474976710655 = 4823355200913801184 := by decide +kernel
theorem flo_self {a : Int} (a0 : 0 ≤ a) (a1 : a < 9007199254740992) : (Ieee.double.order (floatOfInt .f64 a) (floatOfInt .f64 a) == some .eq) = true := by
  rw [flo_order a0 a1 a0 a1, Int.compare_eq_eq.2 rfl]; rfl

end Go.Proofs.YtkoefclkpdpdpaaGreat

/- The project's package span: each call answers what the plain numbers say, of spans whose parts are floats of whole numbers; nothing that was there before is changed. -/
namespace Go.Proofs.YtkoefclkpdpdpaaGreat
set_option linter.unusedVariables false
open Go.RowKit

/-- is there a span of these ends? -/
def SpC (lo hi : Int) : Prop := 0 ≤ lo ∧ lo ≤ hi ∧ hi ≤ 281474976710655
instance (lo hi : Int) : Decidable (SpC lo hi) := by unfold SpC; infer_instance
def spA (lo hi : Int) : Nat := if SpC lo hi then floatOfInt .f64 lo else 0
def spZ (lo hi : Int) : Nat := if SpC lo hi then floatOfInt .f64 hi else 0
def spB (lo hi : Int) : Bool := decide (SpC lo hi)
theorem sp_yes {lo hi : Int} (h : SpC lo hi) : spA lo hi = floatOfInt .f64 lo ∧ spZ lo hi = floatOfInt .f64 hi ∧ spB lo hi = true := ⟨if_pos h, if_pos h, decide_eq_true h⟩
theorem sp_no {lo hi : Int} (h : ¬ SpC lo hi) : spA lo hi = 0 ∧ spZ lo hi = 0 ∧ spB lo hi = false := ⟨if_neg h, if_neg h, decide_eq_false h⟩

theorem cmp_ge {n : Int} (h : 0 ≤ n) : (some (compare n 0) == some Ordering.gt || some (compare n 0) == some Ordering.eq) = true := by
  rcases Int.lt_trichotomy n 0 with g | g | g
  · omega
  · subst g; rfl
  · rw [Int.compare_eq_gt.2 g]; rfl
theorem cmp_le {m n : Int} (h : m ≤ n) : (some (compare m n) == some Ordering.lt || some (compare m n) == some Ordering.eq) = true := by
  rcases Int.lt_trichotomy m n with g | g | g
  · rw [Int.compare_eq_lt.2 g]; rfl
  · subst g; rw [Int.compare_eq_eq.2 rfl]; rfl
  · omega
/-- what the tests on a part say -/
theorem part_facts {n : Int} (h0 : 0 ≤ n) (h1 : n ≤ 281474976710655) :
    (FloatKind.f64.format.order (floatOfInt .f64 n) 0 == some .gt || FloatKind.f64.format.order (floatOfInt .f64 n) 0 == some .eq) = true ∧
    (FloatKind.f64.format.order (floatOfInt .f64 n) 4823355200913801184 == some .lt || FloatKind.f64.format.order (floatOfInt .f64 n) 4823355200913801184 == some .eq) = true ∧
    (FloatKind.f64.format.order (floatOfInt .f64 n) (floatOfInt .f64 n) == some .eq) = true := by
  refine ⟨?_, ?_, flo_self h0 (by omega)⟩
  · have := flo_order (a := n) (b := 0) h0 (by omega) (by omega) (by omega)
    rw [flo_zero] at this
    show (Ieee.double.order _ _ == _ || Ieee.double.order _ _ == _) = true
    rw [this]; exact cmp_ge h0
  · have := flo_order (a := n) (b := 281474976710655) h0 (by omega) (by omega) (by omega)
    rw [flo_last] at this
    show (Ieee.double.order _ _ == _ || Ieee.double.order _ _ == _) = true
    rw [this]; exact cmp_le h1

end Go.Proofs.YtkoefclkpdpdpaaGreat

/- What the statements of layer rank ask of the project's package: its contracts, laid as one premise; a table's place in memory is TB. -/
namespace Go.Proofs.YtkoefclkpdpdpaaGreat
set_option linter.unusedVariables false
set_option maxRecDepth 100000
open Go.RowKit

/-- the project's Low and High -/
structure RnkLH : Prop where
  low : ∀ {B q p g h : Nat} {kd l k : Int} {n : Nat} {L : List Nd} (x : Int) (w : World), DgA w B q p g h kd l k n L → n ≤ 1000 → -9223372036854775808 ≤ x → x ≤ 9223372036854775807 → Calls Tryz.prog 28 #[.pointer (some ⟨q, 0, none⟩), .int .i64 x] w fun e w' => e = .returned (.int .i64 (lowR l L x)) ∧ Below w.heap.size w w'
  high : ∀ {B q p g h : Nat} {kd l k : Int} {n : Nat} {L : List Nd} (x : Int) (w : World), DgA w B q p g h kd l k n L → n ≤ 1000 → -9223372036854775808 ≤ x → x ≤ 9223372036854775807 → Calls Tryz.prog 27 #[.pointer (some ⟨q, 0, none⟩), .int .i64 x] w fun e w' => e = .returned (.int .i64 (highR l L x)) ∧ Below w.heap.size w w'
/-- the project's Low alone -/
structure RnkLq : Prop where
  low : ∀ {B q p g h : Nat} {kd l k : Int} {n : Nat} {L : List Nd} (x : Int) (w : World), DgA w B q p g h kd l k n L → n ≤ 1000 → -9223372036854775808 ≤ x → x ≤ 9223372036854775807 → Calls Tryz.prog 28 #[.pointer (some ⟨q, 0, none⟩), .int .i64 x] w fun e w' => e = .returned (.int .i64 (lowR l L x)) ∧ Below w.heap.size w w'
/-- its Slack -/
structure RnkS : Prop where
  slack : ∀ {B q p g h : Nat} {kd l k : Int} {n : Nat} {L : List Nd} (w : World), DgA w B q p g h kd l k n L → n ≤ 1000 → Calls Tryz.prog 26 #[.pointer (some ⟨q, 0, none⟩)] w fun e w' => e = .returned (.int .i64 (slackN l k L)) ∧ Below w.heap.size w w'
/-- .. of nil -/
structure RnkN : Prop where
  low_nil : ∀ (x : Int) (w : World), Calls Tryz.prog 28 #[.pointer none, .int .i64 x] w fun e w' => e = .returned (.int .i64 0) ∧ Below w.heap.size w w'
  high_nil : ∀ (x : Int) (w : World), Calls Tryz.prog 27 #[.pointer none, .int .i64 x] w fun e w' => e = .returned (.int .i64 0) ∧ Below w.heap.size w w'
  slack_nil : ∀ (w : World), Calls Tryz.prog 26 #[.pointer none] w fun e w' => e = .returned (.int .i64 0) ∧ Below w.heap.size w w'
end Go.Proofs.YtkoefclkpdpdpaaGreat

/- What the statements of layer quant ask of the project's package: its contracts, laid as premises. -/
namespace Go.Proofs.YtkoefclkpdpdpaaGreat
set_option linter.unusedVariables false
set_option maxRecDepth 100000
open Go.RowKit

/-- why there is no value of a rank -/
def wrE (L : List Nd) (r : Int) : Int := if sumC L = 0 then 7 else if r < 1 ∨ sumC L < r then 2 else 0
theorem wrE_yes {L : List Nd} {r : Int} (h1 : 1 ≤ r) (h2 : r ≤ sumC L) : wrE L r = 0 := by unfold wrE; rw [if_neg (by omega), if_neg (by omega)]
theorem wrE_zero {L : List Nd} {r : Int} (h : wrE L r = 0) : ¬ sumC L = 0 ∧ 1 ≤ r ∧ r ≤ sumC L := by
  unfold wrE at h
  split at h
  · omega
  · split at h
    · omega
    · omega
theorem wrE_bd (L : List Nd) (r : Int) : wrE L r = 7 ∨ wrE L r = 2 ∨ wrE L r = 0 := by
  unfold wrE
  split
  · exact .inl rfl
  · split
    · exact .inr (.inl rfl)
    · exact .inr (.inr rfl)
/-- the value of a rank; 0 where there is none -/
def qaA (l : Int) (L : List Nd) (r : Int) : Int := if wrE L r = 0 then atN l L r else 0
/-- the ends of the span, as floats -/
def qsA (l : Int) (L : List Nd) (r : Int) : Nat := if wrE L r = 0 then floatOfInt .f64 (fstQ l L r) else 0
def qsZ (l : Int) (L : List Nd) (r : Int) : Nat := if wrE L r = 0 then floatOfInt .f64 (atN l L r) else 0
theorem qaA_yes {l : Int} {L : List Nd} {r : Int} (h : wrE L r = 0) : qaA l L r = atN l L r := if_pos h
theorem qaA_no {l : Int} {L : List Nd} {r : Int} (h : ¬ wrE L r = 0) : qaA l L r = 0 := if_neg h
def qfA (l : Int) (L : List Nd) (r : Int) : Int := if wrE L r = 0 then fstQ l L r else 0
theorem qfA_yes {l : Int} {L : List Nd} {r : Int} (h : wrE L r = 0) : qfA l L r = fstQ l L r := if_pos h
theorem qfA_no {l : Int} {L : List Nd} {r : Int} (h : ¬ wrE L r = 0) : qfA l L r = 0 := if_neg h
/-- why there is no part of the weight, and its rank -/
def shE (L : List Nd) (num den : Int) : Int := if sumC L = 0 then 7 else if den < 1 ∨ num < 0 ∨ den < num then 2 else 0
def shR (L : List Nd) (num den : Int) : Int := if partUpN (sumC L) num den < 1 then 1 else partUpN (sumC L) num den
def shN (L : List Nd) (num den : Int) : Int := if shE L num den = 0 then shR L num den else 0
def qoA (l : Int) (L : List Nd) (num den : Int) : Int := if shE L num den = 0 then atN l L (shR L num den) else 0
theorem shE_zero {L : List Nd} {num den : Int} (h : shE L num den = 0) : ¬ sumC L = 0 ∧ 1 ≤ den ∧ 0 ≤ num ∧ num ≤ den := by
  unfold shE at h
  split at h
  · omega
  · split at h
    · omega
    · omega
theorem shE_bd (L : List Nd) (num den : Int) : shE L num den = 7 ∨ shE L num den = 2 ∨ shE L num den = 0 := by
  unfold shE
  split
  · exact .inl rfl
  · split
    · exact .inr (.inl rfl)
    · exact .inr (.inr rfl)
theorem sh_in {L : List Nd} {num den : Int} (h : shE L num den = 0) (s0 : 0 ≤ sumC L) (s1 : sumC L ≤ 72057594037927935) : 1 ≤ shR L num den ∧ shR L num den ≤ sumC L := by
  obtain ⟨z, d1, n0, nd⟩ := shE_zero h
  have pc : partC (sumC L) num den := ⟨s0, n0, d1⟩
  have m0 : 0 ≤ sumC L * num := Int.mul_nonneg s0 n0
  have m1 : sumC L * num ≤ sumC L * den := Int.mul_le_mul_of_nonneg_left nd s0
  have m2 : sumC L * den < 9223372036854775808 * den := by
    have := Int.mul_lt_mul_of_pos_right (show sumC L < 9223372036854775808 by omega) (show 0 < den by omega)
    exact this
  have lt : sumC L * num < 9223372036854775808 * den := by omega
  have pn : partN (sumC L) num den = sumC L * num / den := by rw [(part_yes pc).1]; exact if_pos lt
  have q0 : 0 ≤ sumC L * num / den := Int.ediv_nonneg m0 (by omega)
  have q1 : sumC L * num / den ≤ sumC L := Int.ediv_le_of_le_mul (by omega) m1
  have key : partUpN (sumC L) num den ≤ sumC L := by
    cases hr : partR (sumC L) num den
    · rw [(partUp_flat hr).1, pn]; exact q1
    · rw [(partUp_more hr (by rw [pn]; omega)).1, pn]
      have rr := (part_yes pc).2.1
      rw [hr] at rr
      have rn : sumC L * num % den ≠ 0 := by
        unfold quotR at rr
        simp only [Bool.true_eq, Bool.and_eq_true] at rr
        exact of_decide_eq_true rr.2
      rcases Int.lt_or_le (sumC L * num / den) (sumC L) with g | g
      · omega
      · exfalso
        have e : sumC L * num / den = sumC L := by omega
        have dm := Int.mul_ediv_add_emod (sumC L * num) den
        rw [e, Int.mul_comm den] at dm
        have := Int.emod_nonneg (sumC L * num) (show den ≠ 0 by omega)
        omega
  unfold shR
  split <;> omega
/-- of many ranks the first error -/
def mnE (L : List Nd) : List Int → Int
  | [] => 0
  | r :: R => if wrE L r = 0 then mnE L R else wrE L r
end Go.Proofs.YtkoefclkpdpdpaaGreat
