/- The document's answer of package dewpondref13: Insert. -/
import Derived.Test.YtfilmblpikcpnaaGreatDgRef2
namespace Go.Proofs.YtfilmblpikcpnaaGreat
set_option linter.unusedVariables false
set_option maxRecDepth 100000
open Go.RowKit

/-- an answer that leaves the digest as it was -/
theorem rdg_end {k l : Int} {A : Option Addr} {n c : Nat} {L : List Nd} {x : Int} {w w1 : World} {y0 y1 y2 : Value} (I : DgI w w1 k l (.slice A n c) y0 y1 y2) (o : OwnNd 74 w1 0 (.slice A n c) L) :
    RDgPost k l L x (.slice A n c) w (.returned (.tuple #[.agg #[.int .i64 k, .int .i64 l, .slice A n c], .int .i64 x])) (((w1.setCell ⟨w.heap.size + 1, 0, none⟩ (.int .i64 k)).setCell ⟨w.heap.size + 1, 1, none⟩ (.int .i64 l)).setCell ⟨w.heap.size + 1, 2, none⟩ (.slice A n c)) := by
  have T := tri_set I.r (.int .i64 k) (.int .i64 l) (.slice A n c)
  exact ⟨A, n, c, rfl, T.2.1 _ _ _ _ _ _ (by decide) o, I.b.trans T.2.2.1, .inl rfl⟩
set_option maxHeartbeats 3200000 in
theorem rDgInsert_no (l k x cc : Int) (A : Option Addr) (n c : Nat) (L : List Nd) (w : World) (h : OwnNd 74 w 0 (.slice A n c) L) (hr : RollC l L) (hn : n ≤ 1000) (he : ¬ dgE l L x cc = 0) (L0 : -9223372036854775808 ≤ l) (L1 : l ≤ 9223372036854775807)
    (A0 : -9223372036854775808 ≤ x) (A1 : x ≤ 9223372036854775807) (B0 : -9223372036854775808 ≤ cc) (B1 : cc ≤ 9223372036854775807) :
    Calls Tryz.prog 42 #[.agg #[.int .i64 k, .int .i64 l, .slice A n c], .int .i64 x, .int .i64 cc] w (RDgPost k l L (dgE l L x cc) (.slice A n c) w) := by
  have I0 := Lib.hid (dgI_new w k l (.slice A n c))
  have HN := Lib.hid (own_below h I0.out.b)
  have LF := Lib.hid (fun w => rleaf_any l x w L0 L1 A0 A1)
  obtain ⟨x0, x1, x2, g0, g1, g2, hz⟩ := tri_all I0.out.s
  by_cases hv : ValC l x
  · obtain ⟨v1, v2⟩ := leaf_yes hv
    rw [v2] at LF
    by_cases h1 : cc < 1
    · rw [dgE_zero hv h1]
      have c1 : decide (cc < 1) = true := decide_eq_true h1
      obtain ⟨y0, y1, y2, f0, f1, f2, hz2⟩ := tri_all I0.out.r
      obtain ⟨q0, q1, q2⟩ := set_three I0.out.r (.int .i64 k) (.int .i64 l) (.slice A n c)
      have E := Lib.hid (rdg_end (x := 4) I0.out HN.out)
      clear h hr hv h1 v1 v2 he
      go_enter Tryz.func42, Tryz.ntmps42
      go_wp2_with fail
      generalize (w.alloc (.cells #[.int .i64 k, .int .i64 l, .slice A n c] 36)).alloc (.cells #[.int .i64 0, .int .i64 0, .slice none 0 0] 36) = W0 at *
      refine (LF.out _).mono ?_
      rintro e w1 ⟨rfl, rfl⟩
      go_wp2_with fail
      exact bodyPost_ret (v := .tuple #[.agg #[.int .i64 k, .int .i64 l, .slice A n c], .int .i64 4]) (by simp [results, Tryz.results42, go_sem, q0, q1, q2]) rfl E.out
    · by_cases h2 : 72057594037927935 - sumC L < cc
      · rw [dgE_full hv h1 h2]
        have c1 : decide (cc < 1) = false := decide_eq_false h1
        have c2 : decide (72057594037927935 - sumC L < cc) = true := decide_eq_true h2
        have nn := good_nonneg (roll_good hr)
        have s0 : 0 ≤ sumC L := Int.le_trans (sum_le nn 0).1 (sum_le nn 0).2
        have s1 := hr.2.2.2.2
        have hw : IntKind.i64.wrap (72057594037927935 - sumC L) = 72057594037927935 - sumC L := wrap_lit rfl (by omega) (by omega)
        have WT := Lib.hid (rDgWeight_any l k A n c L _ (ownNd_nodes HN.out) hr hn)
        clear h hr hv h1 h2 v1 v2 he nn
        generalize sumC L = s at *
        go_enter Tryz.func42, Tryz.ntmps42
        go_wp2_with fail
        generalize (w.alloc (.cells #[.int .i64 k, .int .i64 l, .slice A n c] 36)).alloc (.cells #[.int .i64 0, .int .i64 0, .slice none 0 0] 36) = W0 at *
        refine (LF.out _).mono ?_
        rintro e w1 ⟨rfl, rfl⟩
        go_wp2_with fail
        refine WT.out.mono ?_
        rintro e w2 ⟨rfl, hb2⟩
        have I2 := Lib.hid (I0.out.below hb2)
        obtain ⟨t0, t1, t2, _, _, _, hz3⟩ := tri_all I2.out.s
        obtain ⟨y0, y1, y2, f0, f1, f2, hz2⟩ := tri_all I2.out.r
        obtain ⟨q0, q1, q2⟩ := set_three I2.out.r (.int .i64 k) (.int .i64 l) (.slice A n c)
        have E := Lib.hid (rdg_end (x := 5) I2.out (own_below HN.out hb2))
        clear hb2 x0 x1 x2 g0 g1 g2
        go_wp2_with fail
        exact bodyPost_ret (v := .tuple #[.agg #[.int .i64 k, .int .i64 l, .slice A n c], .int .i64 5]) (by simp [results, Tryz.results42, go_sem, q0, q1, q2]) rfl E.out
      · exact absurd (dgE_ok hv h1 h2) he
  · rw [dgE_val hv]
    obtain ⟨v1, v2⟩ := leaf_no hv
    rw [v2] at LF
    obtain ⟨y0, y1, y2, f0, f1, f2, hz2⟩ := tri_all I0.out.r
    obtain ⟨q0, q1, q2⟩ := set_three I0.out.r (.int .i64 k) (.int .i64 l) (.slice A n c)
    have E := Lib.hid (rdg_end (x := 3) I0.out HN.out)
    clear h hr hv v1 v2 he
    go_enter Tryz.func42, Tryz.ntmps42
    go_wp2_with fail
    generalize (w.alloc (.cells #[.int .i64 k, .int .i64 l, .slice A n c] 36)).alloc (.cells #[.int .i64 0, .int .i64 0, .slice none 0 0] 36) = W0 at *
    refine (LF.out _).mono ?_
    rintro e w1 ⟨rfl, rfl⟩
    go_wp2_with fail
    exact bodyPost_ret (v := .tuple #[.agg #[.int .i64 k, .int .i64 l, .slice A n c], .int .i64 3]) (by simp [results, Tryz.results42, go_sem, q0, q1, q2]) rfl E.out

end Go.Proofs.YtfilmblpikcpnaaGreat
