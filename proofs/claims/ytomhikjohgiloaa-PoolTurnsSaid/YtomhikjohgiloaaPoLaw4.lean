/- The walk of the statement PoolTurns of layer pool: for every input it returns true, and nothing that was there before is changed. -/
import Derived.Test.YtomhikjohgiloaaPoLaw2
import Derived.Test.YtomhikjohgiloaaPoTurn
import Derived.Test.YtomhikjohgiloaaDsRefN
namespace Go.Proofs.Ytomhikjohgiloaa
set_option linter.unusedVariables false
set_option maxRecDepth 100000
open Go.RowKit

theorem keep_six {W a b : World} {p0 p1 p2 p3 p4 p5 : Addr} {x0 x1 x2 x3 x4 x5 : Value} (h : a.cell? p0 = some x0 ∧ a.cell? p1 = some x1 ∧ a.cell? p2 = some x2 ∧ a.cell? p3 = some x3 ∧ a.cell? p4 = some x4 ∧ a.cell? p5 = some x5 ∧ Below W.heap.size W a) (hb : Below a.heap.size a b)
    (q0 : p0.block < W.heap.size) (q1 : p1.block < W.heap.size) (q2 : p2.block < W.heap.size) (q3 : p3.block < W.heap.size) (q4 : p4.block < W.heap.size) (q5 : p5.block < W.heap.size) :
    b.cell? p0 = some x0 ∧ b.cell? p1 = some x1 ∧ b.cell? p2 = some x2 ∧ b.cell? p3 = some x3 ∧ b.cell? p4 = some x4 ∧ b.cell? p5 = some x5 ∧ Below W.heap.size W b := by
  obtain ⟨h0, h1, h2, h3, h4, h5, h6⟩ := h
  have hz := h6.size
  exact ⟨(hb.cell (by omega)).trans h0, (hb.cell (by omega)).trans h1, (hb.cell (by omega)).trans h2, (hb.cell (by omega)).trans h3, (hb.cell (by omega)).trans h4, (hb.cell (by omega)).trans h5, h6.trans (hb.mono hz)⟩
theorem below_of6 {W a : World} {p0 p1 p2 p3 p4 p5 : Addr} {x0 x1 x2 x3 x4 x5 : Value} (h : a.cell? p0 = some x0 ∧ a.cell? p1 = some x1 ∧ a.cell? p2 = some x2 ∧ a.cell? p3 = some x3 ∧ a.cell? p4 = some x4 ∧ a.cell? p5 = some x5 ∧ Below W.heap.size W a) : Below W.heap.size W a := h.2.2.2.2.2.2
theorem same_below {P : Program} {f : FuncId} {args : Array Value} {L M : List Nd} {w : World} (h : Calls P f args w (SamePost L M w)) : Calls P f args w fun e w' => e = .returned (.bool (sameB L M)) ∧ Below w.heap.size w w' :=
  h.mono fun _ _ ⟨a, q, b⟩ => ⟨a, by rw [b]; exact drewN_below (Below.refl _ _) q⟩
theorem box4 (w : World) (TO : TypeId) (a b c d : Value) : (w.alloc (.cells #[a, b, c, d] TO)).ownsRow w.heap.size TO 4 (.slice (some ⟨w.heap.size, 0, none⟩) 1 1) 1 [a, b, c, d] :=
  World.ownsRow_lit (base := w.heap.size) (e := TO) (size := 4) w #[a, b, c, d] 1 (Nat.le_refl _) (by unfold maxLen; omega) rfl
theorem quad_cells {TS : TypeId} {w : World} {B q : Nat} {x y z u : Value} (r : w.ownsRow B TS 4 (.slice (some ⟨q, 0, none⟩) 1 1) 1 [x, y, z, u]) :
    w.cell? ⟨q, 0, none⟩ = some x ∧ w.cell? ⟨q, 1, none⟩ = some y ∧ w.cell? ⟨q, 2, none⟩ = some z ∧ w.cell? ⟨q, 3, none⟩ = some u :=
  ⟨r.cellAt 0 (by omega), r.cellAt 1 (by omega), r.cellAt 2 (by omega), r.cellAt 3 (by omega)⟩
set_option maxHeartbeats 6400000 in
theorem walk_poolTurns (k0 k1 l : Int) (A : Option Addr) (n c : Nat) (L : List Nd) (a b x : Int) (K0 : -9223372036854775808 ≤ k0) (K0' : k0 ≤ 9223372036854775807) (K1 : -9223372036854775808 ≤ k1) (K1' : k1 ≤ 9223372036854775807) (L0 : -9223372036854775808 ≤ l) (L1 : l ≤ 9223372036854775807) (NB : NBds L) (m1 : n ≤ 9223372036854775807)
    (A0 : -9223372036854775808 ≤ a) (A1 : a ≤ 9223372036854775807) (I0 : -9223372036854775808 ≤ b) (I1 : b ≤ 9223372036854775807) (C0 : -9223372036854775808 ≤ x) (C1 : x ≤ 9223372036854775807) (w : World) (H1 : NodesAt w (.slice A n c) L) :
    Calls Try.prog 11 #[.agg #[.int .i64 k0, .int .i64 k1], .int .i64 l, .agg #[.slice A n c, .int .i64 a, .int .i64 b, .int .i64 x]] w fun e w' => e = .returned (.bool true) ∧ Below w.heap.size w w' := by
  have HV := Lib.hid H1
  have HNB : Hid (NBds L) := NB
  have HL := Lib.hid (nodes_cells H1).1
  have ez : (w.alloc (.cells #[.int .i64 k0, .int .i64 k1] 26)).heap.size = w.heap.size + 1 := by simp
  have KB0 := Lib.hid ((box2 w 26 (.int .i64 k0) (.int .i64 k1)).alloc (.cells #[.slice A n c, .int .i64 a, .int .i64 b, .int .i64 x] 71))
  have XB0 : Hid (((w.alloc (.cells #[.int .i64 k0, .int .i64 k1] 26)).alloc (.cells #[.slice A n c, .int .i64 a, .int .i64 b, .int .i64 x] 71)).ownsRow w.heap.size 71 4 (.slice (some ⟨w.heap.size + 1, 0, none⟩) 1 1) 1 [.slice A n c, .int .i64 a, .int .i64 b, .int .i64 x]) := by
    have q := box4 (w.alloc (.cells #[.int .i64 k0, .int .i64 k1] 26)) 71 (.slice A n c) (.int .i64 a) (.int .i64 b) (.int .i64 x)
    rw [ez] at q
    exact own_low q (by omega)
  have HB0 : Hid (Below w.heap.size w ((w.alloc (.cells #[.int .i64 k0, .int .i64 k1] 26)).alloc (.cells #[.slice A n c, .int .i64 a, .int .i64 b, .int .i64 x] 71))) := ((Below.refl _ _).alloc (Nat.le_refl _) _).alloc (by simp) _
  clear H1 NB ez
  by_cases hn : 60 < n
  · go_enter Try.func11, Try.ntmps11
    go_wp2_with (go_at_call 35; refine (poAlive_any _).mono ?_; rintro e w1 ⟨rfl, hb1⟩)
    all_goals (go_ret; exact ⟨rfl, HB0.out.trans (hb1.mono HB0.out.size)⟩)
  · by_cases hl : 12 < l
    · go_enter Try.func11, Try.ntmps11
      go_wp2_with (go_at_call 35; refine (poAlive_any _).mono ?_; rintro e w1 ⟨rfl, hb1⟩)
      all_goals (go_ret; exact ⟨rfl, HB0.out.trans (hb1.mono HB0.out.size)⟩)
    · have IS := Lib.hid (poIs_any k1 l)
      have LD := Lib.hid (fun w1 (hb : Below w.heap.size w w1) => poLoad_any k0 l A n c L w1 (HV.out.below hb) HNB.out (by omega) L0 L1)
      go_enter Try.func11, Try.ntmps11
      go_wp2_with fail
      generalize (w.alloc (.cells #[.int .i64 k0, .int .i64 k1] 26)).alloc (.cells #[.slice A n c, .int .i64 a, .int .i64 b, .int .i64 x] 71) = W0 at *
      refine (LD.out _ HB0.out).mono ?_
      rintro e w1 ⟨hb1, ⟨hi, rfl⟩ | ⟨hi, hr, rfl⟩ | ⟨hi, hr, p, g, h, rfl, hd⟩⟩
      · have B1 := Lib.hid (HB0.out.trans (hb1.mono HB0.out.size))
        clear hb1 hi
        go_wp2_with (go_at_call 35; refine (poAlive_any _).mono ?_; rintro e w2 ⟨rfl, hb2⟩)
        go_ret
        exact ⟨rfl, B1.out.trans (hb2.mono B1.out.size)⟩
      · have B1 := Lib.hid (HB0.out.trans (hb1.mono HB0.out.size))
        clear hb1 hi hr
        go_wp2_with (go_at_call 35; refine (poAlive_any _).mono ?_; rintro e w2 ⟨rfl, hb2⟩)
        go_ret
        exact ⟨rfl, B1.out.trans (hb2.mono B1.out.size)⟩
      · have B1 := Lib.hid (HB0.out.trans (hb1.mono HB0.out.size))
        have P1 := Lib.hid (hd.low HB0.out.size)
        have hlen : L.length ≤ 60 := by have := HL.out; omega
        have KB1 := Lib.hid (own_below KB0.out hb1)
        have XB1 := Lib.hid (own_below XB0.out hb1)
        obtain ⟨xc0, xc1, xc2, xc3⟩ := quad_cells XB1.out
        have hz1 := B1.out.size
        have hx1 : w.heap.size + 1 < w1.heap.size := (XB1.out.lt _ rfl).2
        clear hb1 hi hr hd
        go_wp2_with fail
        have hba : Below w1.heap.size w1 (w1.alloc (.cells #[.int .i64 l, .slice A n c] 48)) := (Below.refl _ _).alloc (Nat.le_refl _) _
        have hB1a : Below w.heap.size w (w1.alloc (.cells #[.int .i64 l, .slice A n c] 48)) := B1.out.alloc hz1 _
        have WB1 := Lib.hid (own_low (box2 w1 48 (.int .i64 l) (.slice A n c)) hz1)
        have NL1 := Lib.hid (HV.out.below hB1a)
        refine (rsDoN_any l a b x A n c L _ NL1.out P1.out.roll (by omega) I0 I1 C0 C1).mono ?_
        rintro e w2 ⟨A2, m2, c2, rfl, hv2, hb2⟩
        have hb12 : Below w1.heap.size w1 w2 := hba.trans (hb2.mono hba.size)
        have hz2 := hb2.size
        have B2 := Lib.hid (hB1a.trans (hb2.mono hB1a.size))
        have ha2 : Below w2.heap.size w2 (w2.alloc (.cells #[.int .i64 l, .slice A2 m2 c2] 48)) := (Below.refl _ _).alloc (Nat.le_refl _) _
        have P2 := Lib.hid ((P1.out.below hb12).below ha2)
        have KB2 := Lib.hid (own_below (own_below KB1.out hb12) ha2)
        have XB2 := Lib.hid (own_below (own_below XB1.out hb12) ha2)
        have WB2 := Lib.hid (own_below (own_below WB1.out hb2) ha2)
        have VB2 := Lib.hid (own_low (box2 w2 48 (.int .i64 l) (.slice A2 m2 c2)) B2.out.size)
        have NL2 := Lib.hid ((NL1.out.below hb2).below ha2)
        have RM := Lib.hid (roll_do (k := a) (id := b) (c := x) P1.out.roll)
        have LM := Lib.hid (do_len (k := a) (id := b) (c := x) P1.out.roll)
        obtain ⟨M, hM⟩ : ∃ M, M = doW l L a b x := ⟨_, rfl⟩
        have HM := Lib.hid hM
        rw [← hM] at hv2 RM LM
        have NM2 : Hid (NodesAt (w2.alloc (.cells #[.int .i64 l, .slice A2 m2 c2] 48)) (.slice A2 m2 c2) M) := by
          rcases hv2 with ⟨e1, e2⟩ | ho
          · have q := NL2.out
            rw [← e1, ← e2] at q
            exact q
          · exact (ownNd_nodes ho).below ha2
        have B2a := Lib.hid (B2.out.alloc B2.out.size (.cells #[.int .i64 l, .slice A2 m2 c2] 48))
        clear hM hv2 hba hB1a hb2 hb12 ha2 xc0 xc1 xc2 xc3 KB1 XB1 WB1 NL1 P1
        have hkc2 := (box_cells KB2.out).2.1
        go_wp2_with fail
        have hz2a : w2.heap.size < (w2.alloc (.cells #[.int .i64 l, .slice A2 m2 c2] 48)).heap.size := by simp
        have HZ2 := Lib.hid hz2a
        generalize w2.alloc (.cells #[.int .i64 l, .slice A2 m2 c2] 48) = W2 at *
        clear hz2a
        cases hi : isP k1 l
        · have HI := Lib.hid hi
          clear hi
          refine (poTurn_no k1 _ P2.out (by omega) HI.out).mono ?_
          rintro e w3 ⟨rfl, hb3⟩
          have KB3 := Lib.hid (own_below KB2.out hb3)
          have B3 := Lib.hid (B2a.out.trans (hb3.mono B2a.out.size))
          have hkc3 := (box_cells KB3.out).2.1
          clear hb3 hkc2
          go_wp2_with (first
            | (go_at_call 37; refine (IS.out _).mono ?_; rw [HI.out]; rintro e w9 ⟨rfl, rfl⟩)
            | (go_at_call 35; refine (poAlive_any _).mono ?_; rintro e w4 ⟨rfl, hb4⟩))
          go_ret
          exact ⟨rfl, B3.out.trans (hb4.mono B3.out.size)⟩
        · have HI := Lib.hid hi
          clear hi
          have hss := same_self L
          refine (poTurn_any k1 _ P2.out (by omega) HI.out).mono ?_
          rintro e w3 ⟨pq, gq, hq, rfl, hdq, hb3⟩
          have Q3 := Lib.hid hdq
          have B3 := Lib.hid hb3
          have hkc3 := (box_cells (own_below KB2.out hb3)).2.1
          have P3 := Lib.hid (P2.out.below hb3)
          clear hb3 hkc2 hdq
          go_wp2_with (go_at_call 37; refine (IS.out _).mono ?_; rw [HI.out]; rintro e w9 ⟨rfl, rfl⟩)
          refine (poSame_any _ P3.out Q3.out (by omega) (by omega)).mono ?_
          rw [hss]
          rintro e w4 ⟨rfl, hb4⟩
          have B4 := Lib.hid (B3.out.trans (hb4.mono B3.out.size))
          have Q4 := Lib.hid (Q3.out.below hb4)
          have P4 := Lib.hid (P3.out.below hb4)
          clear hb4 hkc3
          go_wp2_with fail
          refine (poClone_any _ P4.out (by omega)).mono ?_
          rintro e w5 ⟨pc, gc, hc, rfl, hdc, hb5⟩
          have ltq := Q4.out.lt
          have ltc := hdc.lt
          have G5 : Hid (gq ≠ gc) := by show _ ≠ _; omega
          have H5 : Hid (hq ≠ hc) := by show _ ≠ _; omega
          have B5 := Lib.hid (B4.out.trans (hb5.mono B4.out.size))
          have Q5 := Lib.hid (Q4.out.below hb5)
          have C5 := Lib.hid (hdc.low B4.out.size)
          obtain ⟨wc0, wc1, _, _, _⟩ := box_cells (own_below WB2.out B5.out)
          have hkc5 := (box_cells (own_below KB2.out B5.out)).1
          clear hb5 hdc ltq ltc
          go_wp2_with fail
          refine (polike_any _ _ _ _ C5.out (by omega) (NL2.out.below B5.out)).mono ?_
          rintro e w6 ⟨rfl, hb6⟩
          have B6 := Lib.hid (B5.out.trans (hb6.mono B5.out.size))
          have Q6 := Lib.hid (Q5.out.below hb6)
          have C6 := Lib.hid (C5.out.below hb6)
          obtain ⟨_, xc1, xc2, xc3⟩ := quad_cells (own_below XB2.out B6.out)
          clear hb6 wc0 wc1 hkc5
          go_wp2_with fail
          refine (podo_any a b x _ Q6.out (by omega) I0 I1 C0 C1).mono ?_
          rw [← HM.out]
          rintro e w7 ⟨rfl, hq', hdq7, hc7, hh7⟩
          have ltq := Q6.out.lt
          have ltc := C6.out.lt
          have B7 : Hid (Below W2.heap.size W2 w7) := B6.out.trans (hc7.below ltq.2.1 ltq.2.2.2.1 B6.out.size)
          have Q7 := Lib.hid hdq7
          have C7 := Lib.hid (C6.out.chg Q6.out hc7 (Ne.symm G5.out) (Ne.symm H5.out))
          have H7 : Hid (hq' ≠ hc) := by
            show _ ≠ _
            have := H5.out
            rcases hh7 with e | e <;> omega
          obtain ⟨_, xc1', xc2', xc3'⟩ := quad_cells (own_below XB2.out B7.out)
          clear hc7 hh7 hdq7 xc1 xc2 xc3 ltq ltc
          go_wp2_with fail
          refine (podo_any a b x _ C7.out (by omega) I0 I1 C0 C1).mono ?_
          rw [← HM.out]
          rintro e w8 ⟨rfl, hc', hdc8, hc8, hh8⟩
          have ltc := C7.out.lt
          have B8 : Hid (Below W2.heap.size W2 w8) := B7.out.trans (hc8.below ltc.2.1 ltc.2.2.2.1 B7.out.size)
          have Q8 := Lib.hid (Q7.out.chg C7.out hc8 G5.out H7.out)
          have C8 := Lib.hid hdc8
          have P8 := Lib.hid (P2.out.below B8.out)
          have NL8 := Lib.hid (NL2.out.below B8.out)
          have NM8 := Lib.hid (NM2.out.below B8.out)
          clear hc8 hh8 hdc8 ltc xc1' xc2' xc3'
          go_wp2_with fail
          obtain ⟨k0c, k1c, _, _, kq⟩ := box_cells (own_below KB2.out B8.out)
          obtain ⟨w0c, w1c, _, _, wq⟩ := box_cells (own_below WB2.out B8.out)
          obtain ⟨v0c, v1c, _, _, vq⟩ := box_cells (own_below VB2.out B8.out)
          have KQ := Lib.hid kq
          have WQ := Lib.hid wq
          have VQ := Lib.hid vq
          have LP := Lib.hid (fun w' (hb : Below w8.heap.size w8 w') => polike_any A n c w' (P8.out.below hb) (by omega) (NL8.out.below hb))
          have LQ := Lib.hid (fun w' (hb : Below w8.heap.size w8 w') => polike_any A2 m2 c2 w' (Q8.out.below hb) (by omega) (NM8.out.below hb))
          have LC := Lib.hid (fun w' (hb : Below w8.heap.size w8 w') => polike_any A2 m2 c2 w' (C8.out.below hb) (by omega) (NM8.out.below hb))
          have SM := Lib.hid (fun w' (hb : Below w8.heap.size w8 w') => poSame_any w' (P8.out.below hb) (Q8.out.below hb) (by omega) (by omega))
          have hn2 : n ≤ 1000000 := by omega
          have hm2 : m2 ≤ 1000000 := by have := (nodes_cells NM8.out).1; have := LM.out; omega
          have RS := Lib.hid (fun w' (hb : Below w8.heap.size w8 w') => same_below (rSame_any A A2 n c m2 c2 L M w' (NL8.out.below hb) (NM8.out.below hb) hn2 hm2))
          obtain ⟨sb, hsb⟩ : ∃ s, s = sameB L M := ⟨_, rfl⟩
          rw [← hsb] at SM RS
          clear hsb kq wq vq
          go_region_held3 (fun w' => w'.cell? ⟨w.heap.size, 0, none⟩ = some (.int .i64 k0) ∧ w'.cell? ⟨w.heap.size, 1, none⟩ = some (.int .i64 k1) ∧ w'.cell? ⟨w1.heap.size, 0, none⟩ = some (.int .i64 l) ∧ w'.cell? ⟨w1.heap.size, 1, none⟩ = some (.slice A n c) ∧ w'.cell? ⟨w2.heap.size, 0, none⟩ = some (.int .i64 l) ∧ w'.cell? ⟨w2.heap.size, 1, none⟩ = some (.slice A2 m2 c2) ∧ Below w8.heap.size w8 w')
            (first | assumption | (exact keep_six (by assumption) (by assumption) KQ.out KQ.out WQ.out WQ.out VQ.out VQ.out) | (exact ⟨k0c, k1c, w0c, w1c, v0c, v1c, below_drew _⟩))
            (first
              | ((with_reducible refine (LP.out _ (below_of6 (p0 := ⟨w.heap.size, 0, none⟩) (x0 := .int .i64 k0) (p1 := ⟨w.heap.size, 1, none⟩) (x1 := .int .i64 k1) (p2 := ⟨w1.heap.size, 0, none⟩) (x2 := .int .i64 l) (p3 := ⟨w1.heap.size, 1, none⟩) (x3 := .slice A n c) (p4 := ⟨w2.heap.size, 0, none⟩) (x4 := .int .i64 l) (p5 := ⟨w2.heap.size, 1, none⟩) (x5 := .slice A2 m2 c2) (by assumption))).mono ?_); rintro e u1 ⟨rfl, hbu1⟩)
              | ((with_reducible refine (LQ.out _ (below_of6 (p0 := ⟨w.heap.size, 0, none⟩) (x0 := .int .i64 k0) (p1 := ⟨w.heap.size, 1, none⟩) (x1 := .int .i64 k1) (p2 := ⟨w1.heap.size, 0, none⟩) (x2 := .int .i64 l) (p3 := ⟨w1.heap.size, 1, none⟩) (x3 := .slice A n c) (p4 := ⟨w2.heap.size, 0, none⟩) (x4 := .int .i64 l) (p5 := ⟨w2.heap.size, 1, none⟩) (x5 := .slice A2 m2 c2) (by assumption))).mono ?_); rintro e u2 ⟨rfl, hbu2⟩)
              | ((with_reducible refine (LC.out _ (below_of6 (p0 := ⟨w.heap.size, 0, none⟩) (x0 := .int .i64 k0) (p1 := ⟨w.heap.size, 1, none⟩) (x1 := .int .i64 k1) (p2 := ⟨w1.heap.size, 0, none⟩) (x2 := .int .i64 l) (p3 := ⟨w1.heap.size, 1, none⟩) (x3 := .slice A n c) (p4 := ⟨w2.heap.size, 0, none⟩) (x4 := .int .i64 l) (p5 := ⟨w2.heap.size, 1, none⟩) (x5 := .slice A2 m2 c2) (by assumption))).mono ?_); rintro e u3 ⟨rfl, hbu3⟩)
              | ((with_reducible refine (SM.out _ (below_of6 (p0 := ⟨w.heap.size, 0, none⟩) (x0 := .int .i64 k0) (p1 := ⟨w.heap.size, 1, none⟩) (x1 := .int .i64 k1) (p2 := ⟨w1.heap.size, 0, none⟩) (x2 := .int .i64 l) (p3 := ⟨w1.heap.size, 1, none⟩) (x3 := .slice A n c) (p4 := ⟨w2.heap.size, 0, none⟩) (x4 := .int .i64 l) (p5 := ⟨w2.heap.size, 1, none⟩) (x5 := .slice A2 m2 c2) (by assumption))).mono ?_); rintro e u4 ⟨rfl, hbu4⟩)
              | ((with_reducible refine (RS.out _ (below_of6 (p0 := ⟨w.heap.size, 0, none⟩) (x0 := .int .i64 k0) (p1 := ⟨w.heap.size, 1, none⟩) (x1 := .int .i64 k1) (p2 := ⟨w1.heap.size, 0, none⟩) (x2 := .int .i64 l) (p3 := ⟨w1.heap.size, 1, none⟩) (x3 := .slice A n c) (p4 := ⟨w2.heap.size, 0, none⟩) (x4 := .int .i64 l) (p5 := ⟨w2.heap.size, 1, none⟩) (x5 := .slice A2 m2 c2) (by assumption))).mono ?_); rintro e u5 ⟨rfl, hbu5⟩)
              | (go_at_call 35; refine (poAlive_any _).mono ?_; rintro e u6 ⟨rfl, hbu6⟩))
          rename_i hH
          have hbb := hH.2.2.2.2.2.2
          have B9 := Lib.hid (B2a.out.trans (B8.out.mono B2a.out.size))
          go_wp2_with fail
          go_ret
          exact ⟨rfl, B9.out.trans (hbb.mono B9.out.size)⟩

end Go.Proofs.Ytomhikjohgiloaa
