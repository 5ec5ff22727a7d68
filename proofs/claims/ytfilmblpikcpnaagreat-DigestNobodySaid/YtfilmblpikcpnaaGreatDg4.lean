/- The project's package digest: Load, New. -/
import Derived.Test.YtfilmblpikcpnaaGreatDg3
import Derived.Test.YtfilmblpikcpnaaGreatDgLd
namespace Go.Proofs.YtfilmblpikcpnaaGreat
set_option linter.unusedVariables false
set_option maxRecDepth 100000
open Go.RowKit

/-- what Load leaves -/
def DgLoadPost (kd l k : Int) (L : List Nd) (w : World) (e : Ending) (w' : World) : Prop := Below w.heap.size w w' ∧
  ((¬ dgLdE kd l k L = 0 ∧ e = .returned (.tuple #[.pointer none, .int .i64 (dgLdE kd l k L)])) ∨
   (dgLdE kd l k L = 0 ∧ ∃ q p g h, e = .returned (.tuple #[.pointer (some ⟨q, 0, none⟩), .int .i64 0]) ∧ DgA w' w.heap.size q p g h kd l k L.length L))
theorem dg_load_no {kd l k : Int} {L : List Nd} {w w' : World} {x : Int} (h : dgLdE kd l k L = x) (hx : ¬ x = 0) (hb : Below w.heap.size w w') : DgLoadPost kd l k L w (.returned (.tuple #[.pointer none, .int .i64 x])) w' :=
  ⟨hb, .inl ⟨by rw [h]; exact hx, by rw [h]⟩⟩
set_option maxHeartbeats 3200000 in
theorem dgLoad_any (kd l k : Int) (A : Option Addr) (m c : Nat) (L : List Nd) (w : World) (hv : NodesAt w (.slice A m c) L) (hB : NBds L) (hm : m ≤ 500) (L0 : -9223372036854775808 ≤ l) (L1 : l ≤ 9223372036854775807) :
    Calls Tryz.prog 17 #[.agg #[.int .i64 l, .int .i64 k, .int .i64 kd], .slice A m c] w (DgLoadPost kd l k L w) := by
  have HB0 : Hid (Below w.heap.size w (w.alloc (.cells #[.int .i64 l, .int .i64 k, .int .i64 kd] 23))) := (Below.refl _ _).alloc (Nat.le_refl _) _
  have X0 := Lib.hid (tri_nw w 23 (.int .i64 l) (.int .i64 k) (.int .i64 kd))
  obtain ⟨x0, x1, x2, _, _, _, hz⟩ := tri_all X0.out
  by_cases h1 : k < 1
  · have c1 : decide (k < 1) = true := decide_eq_true h1
    have E := Lib.hid (dgLdE_conf (kd := kd) (l := l) (k := k) (L := L) (fun q => by have z : 1 ≤ k ∧ k ≤ 1048576 := of_decide_eq_true q.1; omega))
    clear hv hB h1
    go_enter Tryz.func17, Tryz.ntmps17
    go_wp2_with fail
    go_ret2
    exact dg_load_no E.out (by omega) HB0.out
  · have c1 : decide (k < 1) = false := decide_eq_false h1
    by_cases h2 : 1048576 < k
    · have c2 : decide (1048576 < k) = true := decide_eq_true h2
      have E := Lib.hid (dgLdE_conf (kd := kd) (l := l) (k := k) (L := L) (fun q => by have z : 1 ≤ k ∧ k ≤ 1048576 := of_decide_eq_true q.1; omega))
      clear hv hB h1 h2
      go_enter Tryz.func17, Tryz.ntmps17
      go_wp2_with fail
      go_ret2
      exact dg_load_no E.out (by omega) HB0.out
    · have c2 : decide (1048576 < k) = false := decide_eq_false h2
      have kb1 : 1 ≤ k := by omega
      have kb2 : k ≤ 1048576 := by omega
      have HK : Hid (kIs k = true) := decide_eq_true ⟨kb1, kb2⟩
      have LD := Lib.hid (poLoad_any kd l A m c L _ (hv.below HB0.out) hB (by omega) L0 L1)
      have hlen : L.length ≤ 500 := by have := (nodes_cells hv).1; omega
      clear hv hB h1 h2
      go_enter Tryz.func17, Tryz.ntmps17
      go_wp2_with fail
      generalize w.alloc (.cells #[.int .i64 l, .int .i64 k, .int .i64 kd] 23) = W at *
      refine LD.out.mono ?_
      rintro e w1 ⟨hb1, ⟨hi, rfl⟩ | ⟨hi, hr, rfl⟩ | ⟨hi, hr, p, g, h, rfl, hd⟩⟩
      · have E := Lib.hid (dgLdE_conf (kd := kd) (l := l) (k := k) (L := L) (fun q => by rw [hi] at q; exact absurd q.2 (by simp)))
        have B1 := Lib.hid (HB0.out.trans (hb1.mono HB0.out.size))
        clear hi hb1
        go_wp2_with fail
        go_ret2
        exact dg_load_no E.out (by omega) B1.out
      · have E := Lib.hid (dgLdE_form (L := L) HK.out hi hr)
        have B1 := Lib.hid (HB0.out.trans (hb1.mono HB0.out.size))
        clear hi hb1 hr
        go_wp2_with fail
        go_ret2
        exact dg_load_no E.out (by omega) B1.out
      · have B1 := Lib.hid (HB0.out.trans (hb1.mono HB0.out.size))
        have X1 := Lib.hid (own_below X0.out hb1)
        have HI := Lib.hid hi
        have HR := Lib.hid hr
        have hba : Below w1.heap.size w1 (w1.alloc (.cells #[.int .i64 l, .int .i64 k, .int .i64 kd, .pointer (some ⟨p, 0, none⟩)] 84)) := (Below.refl _ _).alloc (Nat.le_refl _) _
        have X2 := Lib.hid (own_below X1.out hba)
        have B2 := Lib.hid (B1.out.trans (hba.mono B1.out.size))
        have D2 : Hid (DgT4 (w1.alloc (.cells #[.int .i64 l, .int .i64 k, .int .i64 kd, .pointer (some ⟨p, 0, none⟩)] 84)) w.heap.size w1.heap.size p l k kd) := ⟨own_low (quad_new ..) B1.out.size⟩
        have P2 := Lib.hid ((hd.low HB0.out.size).below hba)
        obtain ⟨x0, x1, x2, _, _, _, hz⟩ := tri_all X1.out
        clear hb1 hd hi hr hba
        have GL := Lib.hid (dgLen_any _ D2.out P2.out (by omega))
        go_wp2_with fail
        generalize w1.alloc (.cells #[.int .i64 l, .int .i64 k, .int .i64 kd, .pointer (some ⟨p, 0, none⟩)] 84) = W2 at *
        refine GL.out.mono ?_
        rintro e w3 ⟨rfl, hb3⟩
        have D3 := Lib.hid (D2.out.below hb3)
        have P3 := Lib.hid (P2.out.below hb3)
        have B3 := Lib.hid (B2.out.trans (hb3.mono B2.out.size))
        have X3 := Lib.hid (own_below X2.out hb3)
        clear hb3 GL
        have GR := Lib.hid (dgRoom_any _ D3.out kb1 kb2)
        go_wp2_with fail
        refine GR.out.mono ?_
        rintro e w4 ⟨rfl, hb4⟩
        have D4 := Lib.hid (D3.out.below hb4)
        have P4 := Lib.hid (P3.out.below hb4)
        have B4 := Lib.hid (B3.out.trans (hb4.mono B3.out.size))
        have X4 := Lib.hid (own_below X3.out hb4)
        obtain ⟨x0, x1, x2, _, _, _, hz⟩ := tri_all X4.out
        clear hb4 GR
        by_cases h4 : (L.length : Int) ≤ 8 * k
        · have c3 : decide (8 * k < (L.length : Int)) = false := decide_eq_false (by omega)
          have LT := Lib.hid (prLight_any k _ P4.out (by omega))
          have H4 := Lib.hid h4
          cases hlt : lightB l L k
          · rw [hlt] at LT
            have E := Lib.hid (dgLdE_cap HK.out HI.out HR.out (fun q => by rw [hlt] at q; exact absurd q.2 (by simp)))
            clear hlt h4
            go_wp2_with (go_at_call 46; refine LT.out.mono ?_; rintro e w5 ⟨rfl, hb5⟩)
            go_ret2
            exact dg_load_no E.out (by omega) (B4.out.trans (hb5.mono B4.out.size))
          · rw [hlt] at LT
            have E := Lib.hid (dgLdE_ok HK.out HI.out HR.out h4 hlt)
            have V : Hid (DgV l k L) := ⟨kb1, kb2, P4.out.roll, h4, light_c hlt⟩
            clear hlt h4
            go_wp2_with (go_at_call 46; refine LT.out.mono ?_; rintro e w5 ⟨rfl, hb5⟩)
            go_ret2
            exact ⟨B4.out.trans (hb5.mono B4.out.size), .inr ⟨E.out, _, p, g, h, rfl, ⟨(D4.out.below hb5).top, P4.out.below hb5, V.out⟩⟩⟩
        · have c3 : decide (8 * k < (L.length : Int)) = true := decide_eq_true (by omega)
          have E := Lib.hid (dgLdE_cap HK.out HI.out HR.out (fun q => h4 q.1))
          clear h4
          go_wp2_with fail
          go_ret2
          exact dg_load_no E.out (by omega) B4.out
theorem dgNodes_at0 (w : World) : NodesAt w (.slice none 0 0) [] := ownNd_nodes (ownNd_nil 74 w 0)
set_option maxHeartbeats 1600000 in
theorem dgNew_any (kd l k : Int) (w : World) (L0 : -9223372036854775808 ≤ l) (L1 : l ≤ 9223372036854775807) :
    Calls Tryz.prog 9 #[.agg #[.int .i64 l, .int .i64 k, .int .i64 kd]] w (DgLoadPost kd l k [] w) := by
  have HB0 : Hid (Below w.heap.size w (w.alloc (.cells #[.int .i64 l, .int .i64 k, .int .i64 kd] 23))) := (Below.refl _ _).alloc (Nat.le_refl _) _
  have X0 := Lib.hid (tri_nw w 23 (.int .i64 l) (.int .i64 k) (.int .i64 kd))
  obtain ⟨x0, x1, x2, _, _, _, hz⟩ := tri_all X0.out
  have LD := Lib.hid (dgLoad_any kd l k none 0 0 [] _ (dgNodes_at0 (w.alloc (.cells #[.int .i64 l, .int .i64 k, .int .i64 kd] 23))) (fun n hn => by simp at hn) (by omega) L0 L1)
  go_enter Tryz.func9, Tryz.ntmps9
  go_wp2_with fail
  generalize w.alloc (.cells #[.int .i64 l, .int .i64 k, .int .i64 kd] 23) = W at *
  refine LD.out.mono ?_
  rintro e w1 ⟨hb1, ⟨hi, rfl⟩ | ⟨hi, q, p, g, h, rfl, hd⟩⟩
  · have B1 := Lib.hid (HB0.out.trans (hb1.mono HB0.out.size))
    have HI := Lib.hid hi
    clear hi hb1
    generalize hx : dgLdE kd l k [] = x at *
    have HX := Lib.hid hx
    clear hx
    go_wp2_with fail
    go_ret2
    exact dg_load_no HX.out HI.out B1.out
  · have B1 := Lib.hid (HB0.out.trans (hb1.mono HB0.out.size))
    have HI := Lib.hid hi
    have HD := Lib.hid (hd.low HB0.out.size)
    clear hi hb1 hd
    go_wp2_with fail
    go_ret2
    exact ⟨B1.out, .inr ⟨HI.out, q, p, g, h, rfl, HD.out⟩⟩
theorem dgNew_ok (kd l k : Int) (w : World) (hk : kIs k = true) (hp : isP kd l = true) :
    Calls Tryz.prog 9 #[.agg #[.int .i64 l, .int .i64 k, .int .i64 kd]] w fun e w' => Below w.heap.size w w' ∧ ∃ q p g h, e = .returned (.tuple #[.pointer (some ⟨q, 0, none⟩), .int .i64 0]) ∧ DgA w' w.heap.size q p g h kd l k 0 [] := by
  have u : 1 ≤ l ∧ l ≤ 48 := by rcases of_decide_eq_true hp with q | q <;> omega
  refine (dgNew_any kd l k w (by omega) (by omega)).mono ?_
  rintro e w1 ⟨hb, ⟨hi, _⟩ | ⟨_, z⟩⟩
  · exact absurd (by rw [dgLdE_nil, if_pos ⟨hk, hp⟩]) hi
  · exact ⟨hb, z⟩
theorem dgNew_no (kd l k : Int) (w : World) (h : ¬ (kIs k = true ∧ isP kd l = true)) (L0 : -9223372036854775808 ≤ l) (L1 : l ≤ 9223372036854775807) :
    Calls Tryz.prog 9 #[.agg #[.int .i64 l, .int .i64 k, .int .i64 kd]] w fun e w' => e = .returned (.tuple #[.pointer none, .int .i64 2]) ∧ Below w.heap.size w w' := by
  refine (dgNew_any kd l k w L0 L1).mono ?_
  rintro e w1 ⟨hb, ⟨hi, z⟩ | ⟨z, _⟩⟩
  · rw [dgLdE_conf h] at z
    exact ⟨z, hb⟩
  · rw [dgLdE_conf h] at z
    exact absurd z (by omega)

end Go.Proofs.YtfilmblpikcpnaaGreat
