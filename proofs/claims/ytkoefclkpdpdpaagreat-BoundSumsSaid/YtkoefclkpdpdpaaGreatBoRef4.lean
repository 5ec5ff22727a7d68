/- The document's answers of package dewpondref20: Mean. -/
import Derived.Test.YtkoefclkpdpdpaaGreatBoRef3
import Derived.Test.YtkoefclkpdpdpaaGreatDgR
namespace Go.Proofs.YtkoefclkpdpdpaaGreat
set_option linter.unusedVariables false
set_option maxRecDepth 100000
open Go.RowKit

theorem me_quot {l : Int} {L : List Nd} (hr : RollC l L) (hz : 1 ≤ sumC L) (b : Bool) :
    quotN (suF (endN b l) L) (sumC L) = suF (endN b l) L / sumC L ∧ quotR (suF (endN b l) L) (sumC L) = decide (suF (endN b l) L % sumC L ≠ 0) ∧ 0 ≤ suF (endN b l) L / sumC L ∧ suF (endN b l) L / sumC L ≤ 281474976710656 := by
  have u : 1 ≤ l ∧ l ≤ 48 := of_decide_eq_true hr.1
  have p48 : (2 : Int) ^ l.toNat ≤ 281474976710656 := two_le l.toNat 48 (by omega)
  have e : ∀ n ∈ L, 0 ≤ endN b l n.1 ∧ endN b l n.1 ≤ 281474976710656 := fun n hn => by
    have q := node_ends hr hn
    cases b
    · show 0 ≤ loN l n.1 ∧ loN l n.1 ≤ _; omega
    · show 0 ≤ hiN l n.1 ∧ hiN l n.1 ≤ _; omega
  have s := suF_bd (endN b l) (good_nonneg (roll_good hr)) e
  have c : suF (endN b l) L < 9223372036854775808 * sumC L := by omega
  refine ⟨if_pos c, ?_, Int.ediv_nonneg s.1 (by omega), Int.ediv_le_of_le_mul (by omega) s.2⟩
  unfold quotR
  rw [decide_eq_true c]; rfl
set_option maxHeartbeats 6400000 in
theorem rBoMean_any {l : Int} (k : Int) (A : Option Addr) (n c : Nat) (L : List Nd) (w : World) (h : NodesAt w (.slice A n c) L) (hr : RollC l L) (hn : n ≤ 1000) (hz1 : 1 ≤ sumC L) :
    Calls Tryz.prog 20 #[.agg #[.int .i64 k, .int .i64 l, .slice A n c]] w fun e w' => e = .returned (.agg #[.int .i64 (meL l L), .int .i64 (meH l L)]) ∧ Below w.heap.size w w' := by
  have HB0 : Hid (Below w.heap.size w (w.alloc (.cells #[.int .i64 k, .int .i64 l, .slice A n c] 31))) := (Below.refl _ _).alloc (Nat.le_refl _) _
  obtain ⟨x0, x1, x2, _, _, _, hz⟩ := tri_all (tri_new w 31 (.int .i64 k) (.int .i64 l) (.slice A n c))
  have HZ := Lib.hid hz
  have c3 : sumC L ≤ 72057594037927935 := hr.2.2.2.2
  have SF := Lib.hid (fun v (hb : Below w.heap.size w v) => rBoSum_any k A n c L false v (h.below hb) hr hn)
  have STt := Lib.hid (fun v (hb : Below w.heap.size w v) => rBoSum_any k A n c L true v (h.below hb) hr hn)
  have WT := Lib.hid (fun v (hb : Below w.heap.size w v) => rDgWeight_any l k A n c L v (h.below hb) hr hn)
  obtain ⟨a1, a2, a3, a4⟩ := me_quot hr hz1 false
  obtain ⟨b1, b2, b3, b4⟩ := me_quot hr hz1 true
  have ML : Hid (meL l L = suF (endN false l) L / sumC L) := rfl
  have MH : Hid (meH l L = if suF (endN true l) L % sumC L = 0 then suF (endN true l) L / sumC L else suF (endN true l) L / sumC L + 1) := rfl
  obtain ⟨rr, hrr⟩ : ∃ rr, rr = quotR (suF (endN true l) L) (sumC L) := ⟨_, rfl⟩
  have b5 := hrr.trans b2
  have b6 := hrr.symm
  obtain ⟨ra, hra⟩ : ∃ rr, rr = quotR (suF (endN false l) L) (sumC L) := ⟨_, rfl⟩
  have a5 := hra.symm
  clear h hr hz hra hrr a2 b2
  go_enter Tryz.func20, Tryz.ntmps20
  go_wp2_with fail
  have hDE : (w.alloc (.cells #[.int .i64 k, .int .i64 l, .slice A n c] 31)).heap.size = w.heap.size + 1 := by simp
  generalize w.alloc (.cells #[.int .i64 k, .int .i64 l, .slice A n c] 31) = D at *
  have hzz : w.heap.size < (D.alloc (.cells #[.int .i64 0, .int .i64 0] 36)).heap.size := by have := HZ.out; simp; omega
  have HB1 : Hid (Below w.heap.size w (D.alloc (.cells #[.int .i64 0, .int .i64 0] 36))) := HB0.out.alloc HB0.out.size _
  have HB2 := Lib.hid ((Below.refl D.heap.size D).alloc (Nat.le_refl _) (.cells #[.int .i64 0, .int .i64 0] 36))
  have R0 := Lib.hid (box2 D 36 (.int .i64 0) (.int .i64 0))
  have DE : Hid (D.heap.size = w.heap.size + 1) := hDE
  replace x0 := (HB2.out.cell (p := ⟨w.heap.size, 0, none⟩) HZ.out).trans x0
  replace x1 := (HB2.out.cell (p := ⟨w.heap.size, 1, none⟩) HZ.out).trans x1
  replace x2 := (HB2.out.cell (p := ⟨w.heap.size, 2, none⟩) HZ.out).trans x2
  rw [DE.out] at R0
  generalize D.alloc (.cells #[.int .i64 0, .int .i64 0] 36) = W at *
  replace HZ := Lib.hid hzz
  clear HB0 HB2 hDE hzz
  go_region_held3 (fun w' => w'.cell? ⟨w.heap.size, 0, none⟩ = some (.int .i64 k) ∧ w'.cell? ⟨w.heap.size, 1, none⟩ = some (.int .i64 l) ∧ w'.cell? ⟨w.heap.size, 2, none⟩ = some (.slice A n c) ∧ Below W.heap.size W w')
    (first | assumption | (exact held3 (by assumption) G3 HZ.out HZ.out HZ.out) | (exact held3 (by assumption) G2 HZ.out HZ.out HZ.out) | (exact held3 (by assumption) G1 HZ.out HZ.out HZ.out) | (exact ⟨x0, x1, x2, below_drew _⟩))
    (first
      | ((with_reducible refine (SF.out _ (HB1.out.trans ((held3B (by assumption)).mono HB1.out.size))).mono ?_); rintro e Gv1 ⟨t1, l1, rfl, S1, D1, V1, L1, G1⟩)
      | ((with_reducible refine (WT.out _ (HB1.out.trans ((held3B (by assumption)).mono HB1.out.size))).mono ?_); rintro e Gv2 ⟨rfl, G2⟩)
      | ((with_reducible refine (quot_any _ l1 _ _ (seg_below S1 G2) D1 (by omega) hz1 (by omega)).mono ?_); rintro e Gv3 ⟨he, G3⟩; rw [V1, a1, a5] at he; subst he))
  rename_i hH
  obtain ⟨y0, y1, y2, BY⟩ := hH
  have BYH := Lib.hid BY
  clear S1 D1 V1 L1 BY x0 x1 x2
  go_wp2_with fail
  go_region_held3 (fun w' => w'.cell? ⟨w.heap.size, 0, none⟩ = some (.int .i64 k) ∧ w'.cell? ⟨w.heap.size, 1, none⟩ = some (.int .i64 l) ∧ w'.cell? ⟨w.heap.size, 2, none⟩ = some (.slice A n c) ∧ Below W.heap.size W w')
    (first | assumption | (exact held3 (by assumption) H3 HZ.out HZ.out HZ.out) | (exact held3 (by assumption) H2 HZ.out HZ.out HZ.out) | (exact held3 (by assumption) H1 HZ.out HZ.out HZ.out) | (exact ⟨y0, y1, y2, drewN_below BYH.out 1⟩))
    (first
      | ((with_reducible refine (STt.out _ (HB1.out.trans ((held3B (by assumption)).mono HB1.out.size))).mono ?_); rintro e Hv1 ⟨t1, l1, rfl, S1, D1, V1, L1, H1⟩)
      | ((with_reducible refine (WT.out _ (HB1.out.trans ((held3B (by assumption)).mono HB1.out.size))).mono ?_); rintro e Hv2 ⟨rfl, H2⟩)
      | ((with_reducible refine (quot_any _ l1 _ _ (seg_below S1 H2) D1 (by omega) hz1 (by omega)).mono ?_); rintro e Hv3 ⟨he, H3⟩; rw [V1, b1, b6] at he; subst he))
  rename_i hH
  have BZ := hH.2.2.2
  have RW := Lib.hid (own_below R0.out BZ)
  have BV := Lib.hid (HB1.out.trans (BZ.mono HB1.out.size))
  clear S1 D1 V1 L1 BZ hH y0 y1 y2 BYH HZ HB1 R0 SF STt WT a1 b1 b6 b5 a5
  generalize suF (endN false l) L / sumC L = lo at *
  generalize suF (endN true l) L / sumC L = hi at *
  generalize suF (endN true l) L % sumC L = md at *
  generalize quotB (suF (endN false l) L) (sumC L) = qb1 at *
  generalize quotB (suF (endN true l) L) (sumC L) = qb2 at *
  obtain ⟨r0, r1, g0, g1, rz⟩ := box_cells RW.out
  by_cases hq : md = 0
  · have ME : Hid (meH l L = hi) := by have := MH.out; rw [if_pos hq] at this; exact this
    have hq' : (!decide (md = 0)) = false := by simp [hq]
    rw [hq']
    clear hq hq' MH
    obtain ⟨t0, t1, tb⟩ : ((Hv3.setCell ⟨w.heap.size + 1, 0, none⟩ (.int .i64 lo)).setCell ⟨w.heap.size + 1, 1, none⟩ (.int .i64 (hi))).cell? ⟨w.heap.size + 1, 0, none⟩ = some (.int .i64 lo) ∧ ((Hv3.setCell ⟨w.heap.size + 1, 0, none⟩ (.int .i64 lo)).setCell ⟨w.heap.size + 1, 1, none⟩ (.int .i64 (hi))).cell? ⟨w.heap.size + 1, 1, none⟩ = some (.int .i64 (hi)) ∧ Below w.heap.size Hv3 ((Hv3.setCell ⟨w.heap.size + 1, 0, none⟩ (.int .i64 lo)).setCell ⟨w.heap.size + 1, 1, none⟩ (.int .i64 (hi))) := by
      have q := box_set RW.out (.int .i64 lo) (.int .i64 (hi))
      have q2 := box_cells q.1
      exact ⟨q2.1, q2.2.1, ((Below.refl _ _).setCell (p := ⟨w.heap.size + 1, 0, none⟩) (show w.heap.size ≤ w.heap.size + 1 by omega) _).setCell (p := ⟨w.heap.size + 1, 1, none⟩) (show w.heap.size ≤ w.heap.size + 1 by omega) _⟩
    have TB := Lib.hid (BV.out.trans tb)
    go_wp2_with fail
    exact bodyPost_ret (v := .agg #[.int .i64 lo, .int .i64 (hi)]) (by simp [results, Tryz.results20, go_sem, t0, t1]) rfl ⟨by rw [ML.out, ME.out], TB.out⟩
  · have ME : Hid (meH l L = hi + 1) := by have := MH.out; rw [if_neg hq] at this; exact this
    have hq' : (!decide (md = 0)) = true := by simp [hq]
    have hw : IntKind.i64.wrap (hi + 1) = hi + 1 := wrap_lit rfl (by omega) (by omega)
    rw [hq']
    clear hq hq' MH
    obtain ⟨t0, t1, tb⟩ : ((Hv3.setCell ⟨w.heap.size + 1, 0, none⟩ (.int .i64 lo)).setCell ⟨w.heap.size + 1, 1, none⟩ (.int .i64 (hi + 1))).cell? ⟨w.heap.size + 1, 0, none⟩ = some (.int .i64 lo) ∧ ((Hv3.setCell ⟨w.heap.size + 1, 0, none⟩ (.int .i64 lo)).setCell ⟨w.heap.size + 1, 1, none⟩ (.int .i64 (hi + 1))).cell? ⟨w.heap.size + 1, 1, none⟩ = some (.int .i64 (hi + 1)) ∧ Below w.heap.size Hv3 ((Hv3.setCell ⟨w.heap.size + 1, 0, none⟩ (.int .i64 lo)).setCell ⟨w.heap.size + 1, 1, none⟩ (.int .i64 (hi + 1))) := by
      have q := box_set RW.out (.int .i64 lo) (.int .i64 (hi + 1))
      have q2 := box_cells q.1
      exact ⟨q2.1, q2.2.1, ((Below.refl _ _).setCell (p := ⟨w.heap.size + 1, 0, none⟩) (show w.heap.size ≤ w.heap.size + 1 by omega) _).setCell (p := ⟨w.heap.size + 1, 1, none⟩) (show w.heap.size ≤ w.heap.size + 1 by omega) _⟩
    have TB := Lib.hid (BV.out.trans tb)
    go_wp2_with fail
    exact bodyPost_ret (v := .agg #[.int .i64 lo, .int .i64 (hi + 1)]) (by simp [results, Tryz.results20, go_sem, t0, t1]) rfl ⟨by rw [ML.out, ME.out], TB.out⟩

end Go.Proofs.YtkoefclkpdpdpaaGreat
