/- The walk of the statement FoldAgenda of layer fold: for every input it returns true, and nothing that was there before is changed. -/
import Derived.Test.YtikiflhpicjefaaFoLaw
import Derived.Test.YtikiflhpicjefaaOpen8
namespace Go.Proofs.Ytikiflhpicjefaa
set_option linter.unusedVariables false
set_option maxRecDepth 100000
open Go.RowKit

theorem IntsC.kp {F : Nat → Prop} {w w' : World} {A : Option Addr} {n c : Nat} {T : List Int} (h : IntsC w A n c T) (p : Kp F w w') (hF : 0 < n → ∀ ad, A = some ad → ¬ F ad.block) : IntsC w' A n c T := by
  refine ⟨⟨A, c, by rw [← h.len], fun h0 => ?_⟩, h.le, h.nil⟩
  have hn : 0 < n := by rw [h.len]; exact h0
  obtain ⟨b, o, e, hb, hc⟩ := h.cells hn
  refine ⟨b, o, e, Nat.lt_of_lt_of_le hb p.size, fun k hk => ?_⟩
  rw [p.cell (o := o + k) hb (hF hn _ e)]
  exact hc k (by rw [h.len]; exact hk)
theorem IntsC.lt {w : World} {A : Option Addr} {n c : Nat} {T : List Int} (h : IntsC w A n c T) (h0 : 0 < n) : ∀ ad, A = some ad → ad.block < w.heap.size := fun ad e => by
  obtain ⟨b, o, e', hb, _⟩ := h.cells h0
  rw [e] at e'
  injection e' with e'
  subst e'
  exact hb
/-- s[1:] of a slice that is read -/
theorem IntsC.tail {w : World} {a : Addr} {n c : Nat} {x : Int} {T : List Int} (h : IntsC w (some a) n c (x :: T)) : IntsC w (some (advA a c 1 1)) (n - 1) (c - 1) T := by
  have hl := h.len
  simp at hl
  have hn := h.le
  refine ⟨⟨_, _, by rw [show T.length = n - 1 by omega], ?_⟩, by omega, fun e => by cases e⟩
  have q := cells_drop (T := x :: T) (k := 1) h.cells (by omega) hn
  rw [show T.length = n - 1 by omega]
  exact q
theorem adv_block (a : Addr) (c k s : Nat) : (advA a c k s).block = a.block := by
  unfold advA
  split
  · rfl
  · unfold Addr.add; split <;> rfl
/-- an agenda and a list that is read beside it -/
structure Both (w0 w : World) (b m n : Nat) (v : Value) (Q : List Int) (A : Option Addr) (k c : Nat) (W : List Int) : Prop where
  ag : Agd w w0.heap.size b m n v Q W
  ls : IntsC w A k c W
  far : 0 < k → ∀ ad, A = some ad → ¬ agF b m v ad.block
  low : Below w0.heap.size w0 w
theorem Both.bd {w0 w : World} {b m n k c : Nat} {v : Value} {Q W : List Int} {A : Option Addr} (h : Both w0 w b m n v Q A k c W) : ∀ y ∈ W, -9223372036854775808 ≤ y ∧ y ≤ 9223372036854775807 := fun y hy => by
  have := h.ag.qu.bds y ((h.ag.hp.mem y).2 hy)
  omega
/-- the list's next one, made ahead of a call of the agenda -/
theorem Both.call {w0 w w1 w2 : World} {b m n n2 k c k2 c2 : Nat} {v v2 : Value} {Q Q2 W W2 : List Int} {A A2 : Option Addr} (h : Both w0 w b m n v Q A k c W) (hb : Below w.heap.size w w1) (l2 : IntsC w1 A2 k2 c2 W2) (hA : (A2 = A ∧ W2 = W) ∨ NewA A2 w.heap.size)
    (d : Agd w2 w0.heap.size b m n2 v2 Q2 W2) (p : Kp (agF b m v) w1 w2) (a : At2 w1 v v2) : Both w0 w2 b m n2 v2 Q2 A2 k2 c2 W2 := by
  have f1 : 0 < k2 → ∀ ad, A2 = some ad → ¬ agF b m v ad.block := fun h0 ad e q => by
    rcases hA with ⟨z, z2⟩ | z
    · have hk : 0 < k := by have a := l2.len; have b := h.ls.len; rw [z2] at a; omega
      exact h.far hk ad (z ▸ e) q
    · have := z ad e; have := (h.ag.blocks _ q).2; omega
  refine ⟨d, l2.kp p f1, fun h0 ad e q => ?_, ?_⟩
  · have hlt := l2.lt h0 ad e
    rcases q with (q | q) | q
    · exact f1 h0 ad e (.inl (.inl q))
    · rcases a _ q with z | z
      · exact f1 h0 ad e (.inl (.inr z))
      · omega
    · exact f1 h0 ad e (.inr q)
  · have B1 := h.low.trans (hb.mono h.low.size)
    exact B1.trans ((h.ag.below hb).low' (F := fun _ => False) p B1.size)
set_option maxHeartbeats 6400000 in
theorem walk_foldAgenda (A1 : Option Addr) (n1 c1 : Nat) (ids : List Int) (A2 : Option Addr) (n2 c2 : Nat) (L : List Int) (B1 : BdZ ids) (m1 : n1 ≤ 9223372036854775807) (B2 : BdZ L) (m2 : n2 ≤ 9223372036854775807) (w : World) (H1 : IntsAt w (.slice A1 n1 c1) ids) (H2 : IntsAt w (.slice A2 n2 c2) L) :
    Calls Try.prog 6 #[.slice A1 n1 c1, .slice A2 n2 c2] w fun e w' => e = .returned (.bool true) ∧ Below w.heap.size w w' := by
  by_cases hn1 : 60 < n1
  · clear B1 B2 H1 H2
    go_enter Try.func6, Try.ntmps6
    go_wp2_with (go_at_call 10; refine (foAlive_any _).mono ?_; rintro e w1 ⟨rfl, hb1⟩)
    all_goals (go_ret; exact ⟨rfl, hb1⟩)
  · by_cases hn2 : 100 < n2
    · clear B1 B2 H1 H2
      go_enter Try.func6, Try.ntmps6
      go_wp2_with (go_at_call 10; refine (foAlive_any _).mono ?_; rintro e w1 ⟨rfl, hb1⟩)
      all_goals (go_ret; exact ⟨rfl, hb1⟩)
    · have NW := Lib.hid (foNew_any A1 n1 c1 ids w H1 B1 (by omega))
      have RA := Lib.hid (fun w1 (hb : Below w.heap.size w w1) => rAgenda_any A1 n1 c1 ids w1 (H1.below hb) B1 (by omega))
      have HL := Lib.hid (ints_cells H2).1
      have HC := Lib.hid (ints_cells H2).2
      have HB := Lib.hid B2
      obtain ⟨i0, hi, hz0, hz1, hz2⟩ := info_parts foInt_info
      clear B1 B2 H1 H2
      go_enter Try.func6, Try.ntmps6
      go_wp2_with fail
      refine NW.out.mono ?_
      rintro e w1 ⟨b, m, v, Q, rfl, hd1, hb1⟩
      have D1 := Lib.hid hd1
      have R1 := Lib.hid (RA.out w1 hb1)
      have E1 := Lib.hid hb1
      clear hd1 hb1
      go_wp2_with fail
      refine R1.out.mono ?_
      rintro e w2 ⟨A3, k3, c3, rfl, hl3, hna3, hb3⟩
      have I3 : Hid (Both w w2 b m n1 v Q A3 k3 c3 (agH [] ids)) := ⟨D1.out.below hb3, hl3, fun h0 ad e q => by have := hna3 ad e; have := (D1.out.blocks _ q).2; omega, E1.out.trans (hb3.mono E1.out.size)⟩
      clear hl3 hna3 hb3 NW RA R1 D1 E1
      go_wp2_with fail
      go_loopw [6, 30] (fun s i wr => ∃ (k : Nat) (A : Option Addr) (j c : Nat) (v : Value) (Q W : List Int), k ≤ n2 ∧ i = .int .i64 k ∧ s = .slice A j c ∧ Both w wr b m (n1 + k) v Q A j c W) (fun _ i _ => n2 - (intOf i).toNat)
      case atStart => exact ⟨0, A3, k3, c3, v, Q, agH [] ids, by omega, rfl, rfl, I3.out⟩
      case round =>
        rename_i wr
        obtain ⟨k, A, j, c, v, Q, W, hk, rfl, rfl, hI⟩ := hrel
        have II := Lib.hid hI
        have hjW : j = W.length := hI.ls.len
        have hWl := hI.ag.len
        have HJW := Lib.hid hjW
        have hj : j ≤ 1000 := by omega
        by_cases hlt : k < n2
        · have hk2 : k < L.length := by have := HL.out; omega
          obtain ⟨b2, o, rfl, hbo, hcell⟩ := HC.out (by have := HL.out; omega)
          have e0 : wr.cell? ⟨b2, o + k, none⟩ = some (.int .i64 (L.getD k 0)) := (hI.low.cell (p := ⟨b2, o + k, none⟩) hbo).trans (hcell k hk2)
          have hx := HB.out _ (getD_mem hk2)
          clear hcell hI hjW
          generalize L.getD k 0 = x at *
          by_cases h1 : 1 ≤ x
          · have RW := Lib.hid (rWith_any A j c W x wr II.out.ls (by omega) II.out.bd hx.1 hx.2)
            have WL := Lib.hid (with_len II.out.ag.hp.srt x)
            go_wp2_with fail
            refine RW.out.mono ?_
            rintro e w3 ⟨A4, j4, c4, rfl, hl4, hb4, hA4⟩
            have D3 := Lib.hid (II.out.ag.below hb4)
            have hj4 : j4 = (withH W x).length := hl4.len
            by_cases hxW : x ∈ W
            · have hjj : Hid (j4 = j) := by show j4 = j; rw [hj4, WL.out, if_pos hxW, HJW.out]
              have PT := Lib.hid (foPut_any x D3.out (by omega) hx.1 hx.2)
              unfold PutPost at PT
              rw [show decide (1 ≤ x ∧ ¬ x ∈ W) = false from decide_eq_false fun q => q.2 hxW, if_pos h1] at PT
              have KK := Lib.hid (fun (w5 : World) (n5 : Nat) (v5 : Value) (Q5 : List Int) (d : Agd w5 w.heap.size b m n5 v5 Q5 (withH W x)) p a => II.out.call hb4 hl4 hA4 d p a)
              have c5 : decide (j < j4) = false := decide_eq_false (by have := hjj.out; omega)
              clear hl4 hb4 hA4 hj4 hxW e0
              go_wp2_with fail
              refine PT.out.mono ?_
              rintro e w5 ⟨rfl, v5, Q5, hd5, hp5, ha5⟩
              have I5 := Lib.hid (KK.out w5 _ v5 Q5 hd5 hp5 ha5)
              clear hd5 hp5 ha5
              go_wp2_with fail
              refine ⟨⟨k + 1, A4, j4, c4, v5, Q5, withH W x, by omega, by go_num, rfl, I5.out⟩, ?_⟩
              simp [intOf]; omega
            · have hjj : Hid (j4 = j + 1) := by show j4 = j + 1; rw [hj4, WL.out, if_neg hxW, HJW.out]
              have PT := Lib.hid (foPut_any x D3.out (by omega) hx.1 hx.2)
              unfold PutPost at PT
              rw [show decide (1 ≤ x ∧ ¬ x ∈ W) = true from decide_eq_true ⟨h1, hxW⟩, if_pos h1] at PT
              have KK := Lib.hid (fun (w5 : World) (n5 : Nat) (v5 : Value) (Q5 : List Int) (d : Agd w5 w.heap.size b m n5 v5 Q5 (withH W x)) p a => II.out.call hb4 hl4 hA4 d p a)
              have c5 : decide (j < j4) = true := decide_eq_true (by have := hjj.out; omega)
              clear hl4 hb4 hA4 hj4 hxW e0
              go_wp2_with fail
              refine PT.out.mono ?_
              rintro e w5 ⟨rfl, v5, Q5, hd5, hp5, ha5⟩
              have I5 := Lib.hid (KK.out w5 _ v5 Q5 hd5 hp5 ha5)
              clear hd5 hp5 ha5
              go_wp2_with fail
              refine ⟨⟨k + 1, A4, j4, c4, v5, Q5, withH W x, by omega, by go_num, rfl, I5.out⟩, ?_⟩
              simp [intOf]; omega
          · have D3 := Lib.hid II.out.ag
            have PT := Lib.hid (foPut_any x D3.out (by omega) hx.1 hx.2)
            unfold PutPost at PT
            rw [show decide (1 ≤ x ∧ ¬ x ∈ W) = false from decide_eq_false fun q => h1 q.1, if_neg h1] at PT
            go_wp2_with fail
            refine PT.out.mono ?_
            rintro e w5 ⟨rfl, v5, Q5, hd5, hp5, ha5⟩
            have I5 := Lib.hid (II.out.call (Below.refl _ _) II.out.ls (.inl ⟨rfl, rfl⟩) hd5 hp5 ha5)
            clear hd5 hp5 ha5 PT D3
            cases W with
            | nil =>
              have PN := Lib.hid (foPop_nil I5.out.ag)
              have LN := Lib.hid (foLen_any I5.out.ag)
              obtain rfl : j = 0 := HJW.out
              go_wp2_with (first | (go_at_call 33; refine PN.out.mono ?_; rintro e w6 ⟨rfl, rfl⟩) | (go_at_call 34; refine LN.out.mono ?_; rintro e w7 ⟨rfl, rfl⟩))
              refine ⟨⟨k + 1, A, 0, c, v5, Q5, [], by omega, by go_num, rfl, I5.out⟩, ?_⟩
              simp [intOf]; omega
            | cons y W =>
              obtain ⟨N, hN⟩ : ∃ N, N = W.length := ⟨_, rfl⟩
              obtain rfl : j = N + 1 := by have := HJW.out; rw [List.length_cons, ← hN] at this; exact this
              have PN := Lib.hid (foPop_cons I5.out.ag (by omega))
              obtain ⟨bA, oA, rfl, hbA, hcA⟩ := I5.out.ls.cells (Nat.succ_pos N)
              have e1 : w5.cell? ⟨bA, oA, none⟩ = some (.int .i64 y) := by have q := hcA 0 (Nat.succ_pos N); rw [Nat.add_zero] at q; exact q
              have HF := I5.out.far (Nat.succ_pos N) _ rfl
              have E1 := Lib.hid (And.intro hbA (And.intro HF e1))
              have sf : ∀ w, (Instr.slice 45 (.slice (some ⟨bA, oA, none⟩) (N + 1) c) (some (.int .i64 1)) none none).run Try.prog w = .ok (.slice (some (advA ⟨bA, oA, none⟩ c 1 1)) N (c - 1)) w := fun w => by
                have q := sl_one Try.underlying45 hi hz1 ⟨bA, oA, none⟩ (N + 1) c (Nat.succ_le_succ (Nat.zero_le _)) w
                rw [Nat.add_sub_cancel] at q
                exact q
              have HNW := Lib.hid hN
              clear hcA hbA HF e1 hN
              go_wp2_with fail
              refine PN.out.mono ?_
              rintro e w6 ⟨rfl, v6, Q6, hd6, hp6, ha6⟩
              have e6 := (hp6.cell (o := oA) E1.out.1 E1.out.2.1).trans E1.out.2.2
              have I6 : Hid (Both w w6 b m (n1 + k + 1) v6 Q6 (some (advA ⟨bA, oA, none⟩ c 1 1)) N (c - 1) W) := by
                have q := (I5.out.ls.kp hp6 (fun h0 => I5.out.far h0)).tail
                rw [Nat.add_sub_cancel] at q
                refine ⟨hd6, q, fun h0 ad e f => ?_, I5.out.low.trans (I5.out.ag.low' (F := fun _ => False) hp6 I5.out.low.size)⟩
                injection e with e
                rw [← e, adv_block] at f
                rcases f with (f | f) | f
                · exact E1.out.2.1 (.inl (.inl f))
                · rcases ha6 _ f with z | z
                  · exact E1.out.2.1 (.inl (.inr z))
                  · have := E1.out.1; dsimp only at z; omega
                · exact E1.out.2.1 (.inr f)
              have LN := Lib.hid (foLen_any hd6)
              rw [← HNW.out] at LN
              have c6 : (y != y) = false := by simp
              clear hd6 hp6 ha6
              go_wp2_with (go_at_call 34; refine LN.out.mono ?_; rintro e w7 ⟨rfl, rfl⟩)
              refine ⟨⟨k + 1, _, N, c - 1, v6, Q6, W, by omega, by go_num, rfl, I6.out⟩, ?_⟩
              simp [intOf]; omega
        · obtain rfl : k = n2 := by omega
          have LN := Lib.hid (foLen_any II.out.ag)
          rw [← HJW.out] at LN
          have BB := Lib.hid II.out.low
          clear hI
          go_wp2_with (first
            | (go_at_call 33; refine (foPop_none _).mono ?_; rintro e w6 ⟨rfl, rfl⟩)
            | (go_at_call 34; with_reducible refine LN.out.mono ?_; rintro e w7 ⟨rfl, rfl⟩)
            | (go_at_call 34; refine (foLen_nil _).mono ?_; rintro e w8 ⟨rfl, rfl⟩)
            | (go_at_call 32; refine (foPut_nil 1 _).mono ?_; rintro e w9 ⟨rfl, rfl⟩)
            | (go_at_call 10; refine (foAlive_any _).mono ?_; rintro e w10 ⟨rfl, hb10⟩))
          go_ret
          exact ⟨rfl, BB.out.trans (hb10.mono BB.out.size)⟩

end Go.Proofs.Ytikiflhpicjefaa
