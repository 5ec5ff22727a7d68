/- Texts laid together: Dg, Dg2, Dg3, Dg4, RnkNum, QuNum, Flt, Sp, RnkK, QuK. -/
import Derived.Test.YtmfdpaahklndnaaGreatDgN
import Derived.Test.YtmfdpaahklndnaaGreatPrP
import Derived.Test.YtmfdpaahklndnaaGreatPoQ
import Derived.Deep.RegionHeld3
import Derived.Laws.StructEq
import Derived.Laws.ComplexArith
import Derived.Test.YtmfdpaahklndnaaGreatRkT
import Derived.Test.YtmfdpaahklndnaaGreatMmy
import Derived.Test.YtmfdpaahklndnaaGreatPln
namespace Go.Proofs.YtmfdpaahklndnaaGreat
set_option linter.unusedVariables false
set_option maxRecDepth 100000
open Go.RowKit
theorem body_conf (a b c : Int) (x : Option Addr) : ∀ w, (Instr.field 96 (.agg #[.int .i64 a, .int .i64 b, .int .i64 c, .pointer x]) 0).run Tryz.prog w = .ok (.agg #[.int .i64 a, .int .i64 b, .int .i64 c]) w := fun w => by kernel_rfl
theorem body_pool (a b c : Int) (x : Option Addr) : ∀ w, (Instr.field 96 (.agg #[.int .i64 a, .int .i64 b, .int .i64 c, .pointer x]) 1).run Tryz.prog w = .ok (.pointer x) w := fun w => by kernel_rfl
theorem conf_k (a b c : Int) : ∀ w, (Instr.field 23 (.agg #[.int .i64 a, .int .i64 b, .int .i64 c]) 1).run Tryz.prog w = .ok (.int .i64 b) w := fun w => by kernel_rfl
/-- a digest's box: its four cells, and where it lies -/
structure DgT4 (w : World) (B q p : Nat) (l k kd : Int) : Prop where
  top : w.ownsRow B 110 4 (.slice (some ⟨q, 0, none⟩) 1 1) 1 (dgCells l k kd p)
theorem DgT4.below {w w' : World} {B q p : Nat} {l k kd : Int} (d : DgT4 w B q p l k kd) (hb : Below w.heap.size w w') : DgT4 w' B q p l k kd := ⟨own_below d.top hb⟩
theorem DgA.box {w : World} {B q p g h : Nat} {kd l k : Int} {n : Nat} {L : List Nd} (d : DgA w B q p g h kd l k n L) : DgT4 w B q p l k kd := ⟨d.top⟩
theorem dgParts_any {B q p : Nat} {l k kd : Int} (w : World) (d : DgT4 w B q p l k kd) : Calls Tryz.prog 44 #[.pointer (some ⟨q, 0, none⟩)] w fun e w' => e = .returned (.agg #[.int .i64 l, .int .i64 k, .int .i64 kd, .pointer (some ⟨p, 0, none⟩)]) ∧ Below w.heap.size w w' := by
  have HB : Hid (∀ x y z u, Below w.heap.size w (w.alloc (.cells #[x, y, z, u] 96))) := fun x y z u => (Below.refl _ _).alloc (Nat.le_refl _) _
  obtain ⟨c0, c1, c2, c3, _, _, _, _, hz⟩ := quad_all d.top
  clear d
  go_enter Tryz.func44, Tryz.ntmps44
  go_wp2_with fail
  exact bodyPost_ret (v := .agg #[.int .i64 l, .int .i64 k, .int .i64 kd, .pointer (some ⟨p, 0, none⟩)]) (by simp [results, Tryz.results44, go_sem]) rfl ⟨rfl, HB.out _ _ _ _⟩
theorem dgConf_any {B q p : Nat} {l k kd : Int} (w : World) (d : DgT4 w B q p l k kd) : Calls Tryz.prog 50 #[.pointer (some ⟨q, 0, none⟩)] w fun e w' => e = .returned (.agg #[.int .i64 l, .int .i64 k, .int .i64 kd]) ∧ Below w.heap.size w w' := by
  have HB : Hid (Below w.heap.size w (w.alloc (.cells #[.int .i64 0, .int .i64 0, .int .i64 0] 23))) := (Below.refl _ _).alloc (Nat.le_refl _) _
  have X := Lib.hid (tri_nw w 23 (.int .i64 0) (.int .i64 0) (.int .i64 0))
  have F := body_conf l k kd (some ⟨p, 0, none⟩)
  have PT := Lib.hid (dgParts_any _ (d.below HB.out))
  clear d
  go_enter Tryz.func50, Tryz.ntmps50
  go_wp2_with fail
  generalize w.alloc (.cells #[.int .i64 0, .int .i64 0, .int .i64 0] 23) = W at *
  refine PT.out.mono ?_
  rintro e w1 ⟨rfl, hb1⟩
  have X1 := Lib.hid (own_below X.out hb1)
  obtain ⟨y0, y1, y2, f0, f1, f2, hz2⟩ := tri_all X1.out
  obtain ⟨q0, q1, q2⟩ := set_three X1.out (.int .i64 l) (.int .i64 k) (.int .i64 kd)
  have B1 := Lib.hid ((HB.out.trans (hb1.mono HB.out.size)).trans (tri_set X1.out (.int .i64 l) (.int .i64 k) (.int .i64 kd)).2.2.1)
  clear hb1
  go_wp2_with fail
  exact bodyPost_ret (v := .agg #[.int .i64 l, .int .i64 k, .int .i64 kd]) (by simp [results, Tryz.results50, go_sem, q0, q1, q2]) rfl ⟨rfl, B1.out⟩
theorem dgN_any {B q p g h : Nat} {l k kd : Int} {n : Nat} {L : List Nd} (w : World) (d : DgT4 w B q p l k kd) (o : PoA w B p g h kd l n L) (hn : n ≤ 1000) : Calls Tryz.prog 20 #[.pointer (some ⟨q, 0, none⟩)] w fun e w' => e = .returned (.int .i64 (sumC L)) ∧ Below w.heap.size w w' := by
  have F := body_pool l k kd (some ⟨p, 0, none⟩)
  have PT := Lib.hid (dgParts_any _ d)
  have TT := Lib.hid (fun w1 hb => read_below (poTotal_any w1 (o.below hb) hn))
  clear d o
  generalize sumC L = s at *
  go_enter Tryz.func20, Tryz.ntmps20
  go_wp2_with (first | (go_at_call 44; refine PT.out.mono ?_; rintro e w1 ⟨rfl, hb1⟩) | (go_at_call 45; refine (TT.out _ hb1).mono ?_; rintro e w2 ⟨rfl, hb2⟩))
  go_ret
  exact ⟨rfl, hb1.trans (hb2.mono hb1.size)⟩
theorem dgLen_any {B q p g h : Nat} {l k kd : Int} {n : Nat} {L : List Nd} (w : World) (d : DgT4 w B q p l k kd) (o : PoA w B p g h kd l n L) (hn : n ≤ 1000) : Calls Tryz.prog 55 #[.pointer (some ⟨q, 0, none⟩)] w fun e w' => e = .returned (.int .i64 (L.length : Int)) ∧ Below w.heap.size w w' := by
  have F := body_pool l k kd (some ⟨p, 0, none⟩)
  have PT := Lib.hid (dgParts_any _ d)
  have TT := Lib.hid (fun w1 hb => read_below (poLen_any w1 (o.below hb) hn))
  clear d o
  generalize ((L.length : Nat) : Int) = s at *
  go_enter Tryz.func55, Tryz.ntmps55
  go_wp2_with (first | (go_at_call 44; refine PT.out.mono ?_; rintro e w1 ⟨rfl, hb1⟩) | (go_at_call 95; refine (TT.out _ hb1).mono ?_; rintro e w2 ⟨rfl, hb2⟩))
  go_ret
  exact ⟨rfl, hb1.trans (hb2.mono hb1.size)⟩
theorem dgNodes_any {B q p g h : Nat} {l k kd : Int} {n : Nat} {L : List Nd} (w : World) (d : DgT4 w B q p l k kd) (o : PoA w B p g h kd l n L) (hn : n ≤ 1000) : Calls Tryz.prog 51 #[.pointer (some ⟨q, 0, none⟩)] w (ListOwn 77 L w) := by
  have F := body_pool l k kd (some ⟨p, 0, none⟩)
  have PT := Lib.hid (dgParts_any _ d)
  have TT := Lib.hid (fun w1 hb => poSnap_any w1 (o.below hb) hn)
  clear d o
  go_enter Tryz.func51, Tryz.ntmps51
  go_wp2_with (first | (go_at_call 44; refine PT.out.mono ?_; rintro e w1 ⟨rfl, hb1⟩) | (go_at_call 87; refine (TT.out _ hb1).mono ?_; rintro e w2 ⟨A3, m3, c3, rfl, ho, hb2⟩))
  go_ret
  exact ⟨A3, m3, c3, rfl, own_low ho hb1.size, hb1.trans (hb2.mono hb1.size)⟩
theorem dgRoom_any {B q p : Nat} {l k kd : Int} (w : World) (d : DgT4 w B q p l k kd) (k1 : 1 ≤ k) (k2 : k ≤ 1048576) : Calls Tryz.prog 56 #[.pointer (some ⟨q, 0, none⟩)] w fun e w' => e = .returned (.int .i64 (8 * k)) ∧ Below w.heap.size w w' := by
  have F := body_conf l k kd (some ⟨p, 0, none⟩)
  have F2 := conf_k l k kd
  have hw8 : IntKind.i64.wrap (8 * k) = 8 * k := wrap_lit rfl (by omega) (by omega)
  have PT := Lib.hid (dgParts_any _ d)
  clear d
  go_enter Tryz.func56, Tryz.ntmps56
  go_wp2_with (first | (go_at_call 44; refine PT.out.mono ?_; rintro e w1 ⟨rfl, hb1⟩))
  go_ret
  exact ⟨rfl, hb1⟩
end Go.Proofs.YtmfdpaahklndnaaGreat
namespace Go.Proofs.YtmfdpaahklndnaaGreat
set_option linter.unusedVariables false
set_option maxRecDepth 100000
open Go.RowKit
end Go.Proofs.YtmfdpaahklndnaaGreat
namespace Go.Proofs.YtmfdpaahklndnaaGreat
set_option linter.unusedVariables false
set_option maxRecDepth 100000
open Go.RowKit
end Go.Proofs.YtmfdpaahklndnaaGreat
namespace Go.Proofs.YtmfdpaahklndnaaGreat
set_option linter.unusedVariables false
set_option maxRecDepth 100000
open Go.RowKit
/-- what Load leaves -/
def DgLoadPost (kd l k : Int) (L : List Nd) (w : World) (e : Ending) (w' : World) : Prop := Below w.heap.size w w' ∧
  ((¬ dgLdE kd l k L = 0 ∧ e = .returned (.tuple #[.pointer none, .int .i64 (dgLdE kd l k L)])) ∨
   (dgLdE kd l k L = 0 ∧ ∃ q p g h, e = .returned (.tuple #[.pointer (some ⟨q, 0, none⟩), .int .i64 0]) ∧ DgA w' w.heap.size q p g h kd l k L.length L))
theorem dg_load_no {kd l k : Int} {L : List Nd} {w w' : World} {x : Int} (h : dgLdE kd l k L = x) (hx : ¬ x = 0) (hb : Below w.heap.size w w') : DgLoadPost kd l k L w (.returned (.tuple #[.pointer none, .int .i64 x])) w' :=
  ⟨hb, .inl ⟨by rw [h]; exact hx, by rw [h]⟩⟩
set_option maxHeartbeats 3200000 in
theorem dgLoad_any (kd l k : Int) (A : Option Addr) (m c : Nat) (L : List Nd) (w : World) (hv : NodesAt w (.slice A m c) L) (hB : NBds L) (hm : m ≤ 500) (L0 : -9223372036854775808 ≤ l) (L1 : l ≤ 9223372036854775807) :
    Calls Tryz.prog 28 #[.agg #[.int .i64 l, .int .i64 k, .int .i64 kd], .slice A m c] w (DgLoadPost kd l k L w) := by
  have HB0 : Hid (Below w.heap.size w (w.alloc (.cells #[.int .i64 l, .int .i64 k, .int .i64 kd] 23))) := (Below.refl _ _).alloc (Nat.le_refl _) _
  have X0 := Lib.hid (tri_nw w 23 (.int .i64 l) (.int .i64 k) (.int .i64 kd))
  obtain ⟨x0, x1, x2, _, _, _, hz⟩ := tri_all X0.out
  by_cases h1 : k < 1
  · have c1 : decide (k < 1) = true := decide_eq_true h1
    have E := Lib.hid (dgLdE_conf (kd := kd) (l := l) (k := k) (L := L) (fun q => by have z : 1 ≤ k ∧ k ≤ 1048576 := of_decide_eq_true q.1; omega))
    clear hv hB h1
    go_enter Tryz.func28, Tryz.ntmps28
    go_wp2_with fail
    go_ret2
    exact dg_load_no E.out (by omega) HB0.out
  · have c1 : decide (k < 1) = false := decide_eq_false h1
    by_cases h2 : 1048576 < k
    · have c2 : decide (1048576 < k) = true := decide_eq_true h2
      have E := Lib.hid (dgLdE_conf (kd := kd) (l := l) (k := k) (L := L) (fun q => by have z : 1 ≤ k ∧ k ≤ 1048576 := of_decide_eq_true q.1; omega))
      clear hv hB h1 h2
      go_enter Tryz.func28, Tryz.ntmps28
      go_wp2_with fail
      go_ret2
      exact dg_load_no E.out (by omega) HB0.out
    · have c2 : decide (1048576 < k) = false := decide_eq_false h2
      have kb1 : 1 ≤ k := by omega
      have kb2 : k ≤ 1048576 := by omega
      have HK : Hid (kIs k = true) := decide_eq_true ⟨kb1, kb2⟩
      have LD := Lib.hid (poLoad_any kd l A m c L _ (hv.below HB0.out) hB (by omega) L0 L1)
      have hlen : L.length ≤ 500 := by have := (nodes_cells hv).1; omega
      clear hv hB h1 h2
      go_enter Tryz.func28, Tryz.ntmps28
      go_wp2_with fail
      generalize w.alloc (.cells #[.int .i64 l, .int .i64 k, .int .i64 kd] 23) = W at *
      refine LD.out.mono ?_
      rintro e w1 ⟨hb1, ⟨hi, rfl⟩ | ⟨hi, hr, rfl⟩ | ⟨hi, hr, p, g, h, rfl, hd⟩⟩
      · have E := Lib.hid (dgLdE_conf (kd := kd) (l := l) (k := k) (L := L) (fun q => by rw [hi] at q; exact absurd q.2 (by simp)))
        have B1 := Lib.hid (HB0.out.trans (hb1.mono HB0.out.size))
        clear hi hb1
        go_wp2_with fail
        go_ret2
        exact dg_load_no E.out (by omega) B1.out
      · have E := Lib.hid (dgLdE_form (L := L) HK.out hi hr)
        have B1 := Lib.hid (HB0.out.trans (hb1.mono HB0.out.size))
        clear hi hb1 hr
        go_wp2_with fail
        go_ret2
        exact dg_load_no E.out (by omega) B1.out
      · have B1 := Lib.hid (HB0.out.trans (hb1.mono HB0.out.size))
        have X1 := Lib.hid (own_below X0.out hb1)
        have HI := Lib.hid hi
        have HR := Lib.hid hr
        have hba : Below w1.heap.size w1 (w1.alloc (.cells #[.int .i64 l, .int .i64 k, .int .i64 kd, .pointer (some ⟨p, 0, none⟩)] 110)) := (Below.refl _ _).alloc (Nat.le_refl _) _
        have X2 := Lib.hid (own_below X1.out hba)
        have B2 := Lib.hid (B1.out.trans (hba.mono B1.out.size))
        have D2 : Hid (DgT4 (w1.alloc (.cells #[.int .i64 l, .int .i64 k, .int .i64 kd, .pointer (some ⟨p, 0, none⟩)] 110)) w.heap.size w1.heap.size p l k kd) := ⟨own_low (quad_new ..) B1.out.size⟩
        have P2 := Lib.hid ((hd.low HB0.out.size).below hba)
        obtain ⟨x0, x1, x2, _, _, _, hz⟩ := tri_all X1.out
        clear hb1 hd hi hr hba
        have GL := Lib.hid (dgLen_any _ D2.out P2.out (by omega))
        go_wp2_with fail
        generalize w1.alloc (.cells #[.int .i64 l, .int .i64 k, .int .i64 kd, .pointer (some ⟨p, 0, none⟩)] 110) = W2 at *
        refine GL.out.mono ?_
        rintro e w3 ⟨rfl, hb3⟩
        have D3 := Lib.hid (D2.out.below hb3)
        have P3 := Lib.hid (P2.out.below hb3)
        have B3 := Lib.hid (B2.out.trans (hb3.mono B2.out.size))
        have X3 := Lib.hid (own_below X2.out hb3)
        clear hb3 GL
        have GR := Lib.hid (dgRoom_any _ D3.out kb1 kb2)
        go_wp2_with fail
        refine GR.out.mono ?_
        rintro e w4 ⟨rfl, hb4⟩
        have D4 := Lib.hid (D3.out.below hb4)
        have P4 := Lib.hid (P3.out.below hb4)
        have B4 := Lib.hid (B3.out.trans (hb4.mono B3.out.size))
        have X4 := Lib.hid (own_below X3.out hb4)
        obtain ⟨x0, x1, x2, _, _, _, hz⟩ := tri_all X4.out
        clear hb4 GR
        by_cases h4 : (L.length : Int) ≤ 8 * k
        · have c3 : decide (8 * k < (L.length : Int)) = false := decide_eq_false (by omega)
          have LT := Lib.hid (prLight_any k _ P4.out (by omega))
          have H4 := Lib.hid h4
          cases hlt : lightB l L k
          · rw [hlt] at LT
            have E := Lib.hid (dgLdE_cap HK.out HI.out HR.out (fun q => by rw [hlt] at q; exact absurd q.2 (by simp)))
            clear hlt h4
            go_wp2_with (go_at_call 57; refine LT.out.mono ?_; rintro e w5 ⟨rfl, hb5⟩)
            go_ret2
            exact dg_load_no E.out (by omega) (B4.out.trans (hb5.mono B4.out.size))
          · rw [hlt] at LT
            have E := Lib.hid (dgLdE_ok HK.out HI.out HR.out h4 hlt)
            have V : Hid (DgV l k L) := ⟨kb1, kb2, P4.out.roll, h4, light_c hlt⟩
            clear hlt h4
            go_wp2_with (go_at_call 57; refine LT.out.mono ?_; rintro e w5 ⟨rfl, hb5⟩)
            go_ret2
            exact ⟨B4.out.trans (hb5.mono B4.out.size), .inr ⟨E.out, _, p, g, h, rfl, ⟨(D4.out.below hb5).top, P4.out.below hb5, V.out⟩⟩⟩
        · have c3 : decide (8 * k < (L.length : Int)) = true := decide_eq_true (by omega)
          have E := Lib.hid (dgLdE_cap HK.out HI.out HR.out (fun q => h4 q.1))
          clear h4
          go_wp2_with fail
          go_ret2
          exact dg_load_no E.out (by omega) B4.out
end Go.Proofs.YtmfdpaahklndnaaGreat
namespace Go.Proofs.YtmfdpaahklndnaaGreat
set_option linter.unusedVariables false
theorem wtF_parts {P : Int → Bool} {l : Int} {L : List Nd} (h : RollC l L) (k : Nat) : 0 ≤ wtF P (L.take k) ∧ wtF P (L.take k) ≤ 72057594037927935 := by
  have nn : NonNeg L := good_nonneg (roll_good h)
  have b := wtF_bd P (L := L.take k) fun m hm => nn m (List.mem_of_mem_take hm)
  have e : sumC (L.take k) + sumC (L.drop k) = sumC L := by rw [← sumC_app, List.take_append_drop]
  have b2 := wtF_bd (fun _ => true) (L := L.drop k) fun m hm => nn m (List.mem_of_mem_drop hm)
  rw [wtF_all] at b2
  have s : sumC L ≤ 72057594037927935 := h.2.2.2.2
  exact ⟨b.1, by omega⟩
theorem wtF_all_parts {P : Int → Bool} {l : Int} {L : List Nd} (h : RollC l L) : 0 ≤ wtF P L ∧ wtF P L ≤ 72057594037927935 := by
  have q := wtF_parts (P := P) h L.length
  rwa [List.take_length] at q
theorem node_ends {l : Int} {L : List Nd} (h : RollC l L) {n : Nd} (hn : n ∈ L) : 0 ≤ loN l n.1 ∧ loN l n.1 ≤ hiN l n.1 ∧ hiN l n.1 < 2 ^ l.toNat := by
  have r : RightC l n.1 := of_decide_eq_true (h.2.2.1 n hn).1
  have m := right_max (h.2.2.1 n hn).1
  have e := end_yes r
  have b := wid_bd r m
  have p := wid_pos l n.1
  rw [e.1, e.2.1]
  exact ⟨by omega, by omega, by omega⟩
theorem wtF_none (L : List Nd) : wtF (fun _ => false) L = 0 := by
  induction L with
  | nil => rfl
  | cons n L ih => simp [wtF, ih]
end Go.Proofs.YtmfdpaahklndnaaGreat
namespace Go.Proofs.YtmfdpaahklndnaaGreat
set_option linter.unusedVariables false
/-- what those nodes weigh whose end is at most y -/
def wtE (e : Int → Int) (L : List Nd) (y : Int) : Int := wtF (fun n => decide (e n ≤ y)) L
/-- y is the least up to which so much weighs -/
structure AtP (e : Int → Int) (L : List Nd) (r y : Int) : Prop where
  is : r ≤ wtE e L y
  least : ∀ z, z < y → wtE e L z < r
theorem AtP.uniq {e : Int → Int} {L : List Nd} {r x y : Int} (a : AtP e L r x) (b : AtP e L r y) : x = y := by
  rcases Int.lt_trichotomy x y with h | h | h
  · have := b.least x h; have := a.is; omega
  · exact h
  · have := a.least y h; have := b.is; omega
theorem AtP.mono {e : Int → Int} {L : List Nd} {r s x y : Int} (a : AtP e L r x) (b : AtP e L s y) (h : r ≤ s) : x ≤ y := by
  rcases Int.lt_or_le y x with q | q
  · have := a.least y q; have := b.is; omega
  · exact q
theorem AtP.le {e : Int → Int} {L : List Nd} {r x z : Int} (a : AtP e L r x) (h : r ≤ wtE e L z) : x ≤ z := by
  rcases Int.lt_or_le z x with q | q
  · have := a.least z q; omega
  · exact q
end Go.Proofs.YtmfdpaahklndnaaGreat
namespace Go.Proofs.YtmfdpaahklndnaaGreat
set_option linter.unusedVariables false
end Go.Proofs.YtmfdpaahklndnaaGreat
namespace Go.Proofs.YtmfdpaahklndnaaGreat
set_option linter.unusedVariables false
open Go.RowKit
/-- is there a span of these ends? -/
def SpC (lo hi : Int) : Prop := 0 ≤ lo ∧ lo ≤ hi ∧ hi ≤ 281474976710655
instance (lo hi : Int) : Decidable (SpC lo hi) := by unfold SpC; infer_instance
end Go.Proofs.YtmfdpaahklndnaaGreat
namespace Go.Proofs.YtmfdpaahklndnaaGreat
set_option linter.unusedVariables false
set_option maxRecDepth 100000
open Go.RowKit
end Go.Proofs.YtmfdpaahklndnaaGreat
namespace Go.Proofs.YtmfdpaahklndnaaGreat
set_option linter.unusedVariables false
set_option maxRecDepth 100000
open Go.RowKit
end Go.Proofs.YtmfdpaahklndnaaGreat
