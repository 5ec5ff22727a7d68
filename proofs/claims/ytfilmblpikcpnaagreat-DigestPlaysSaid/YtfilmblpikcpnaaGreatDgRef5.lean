/- The document's answers of package dewpondref13: Do, Above. -/
import Derived.Test.YtfilmblpikcpnaaGreatDgRef4
namespace Go.Proofs.YtfilmblpikcpnaaGreat
set_option linter.unusedVariables false
set_option maxRecDepth 100000
open Go.RowKit

/-- the three boxes of a call of Do -/
structure DgT (w W : World) (k l kd x cc : Int) (v y0 y1 y2 : Value) : Prop where
  s : W.ownsRow w.heap.size 36 3 (.slice (some ⟨w.heap.size, 0, none⟩) 1 1) 1 [.int .i64 k, .int .i64 l, v]
  o : W.ownsRow w.heap.size 39 3 (.slice (some ⟨w.heap.size + 1, 0, none⟩) 1 1) 1 [.int .i64 kd, .int .i64 x, .int .i64 cc]
  r : W.ownsRow w.heap.size 36 3 (.slice (some ⟨w.heap.size + 2, 0, none⟩) 1 1) 1 [y0, y1, y2]
  b : Below w.heap.size w W
theorem dgT_new (w : World) (k l kd x cc : Int) (v : Value) : DgT w (((w.alloc (.cells #[.int .i64 k, .int .i64 l, v] 36)).alloc (.cells #[.int .i64 kd, .int .i64 x, .int .i64 cc] 39)).alloc (.cells #[.int .i64 0, .int .i64 0, .slice none 0 0] 36)) k l kd x cc v (.int .i64 0) (.int .i64 0) (.slice none 0 0) := by
  have e1 : (w.alloc (.cells #[.int .i64 k, .int .i64 l, v] 36)).heap.size = w.heap.size + 1 := by simp
  have e2 : ((w.alloc (.cells #[.int .i64 k, .int .i64 l, v] 36)).alloc (.cells #[.int .i64 kd, .int .i64 x, .int .i64 cc] 39)).heap.size = w.heap.size + 2 := by simp
  have q1 := tri_new (w.alloc (.cells #[.int .i64 k, .int .i64 l, v] 36)) 39 (.int .i64 kd) (.int .i64 x) (.int .i64 cc)
  have q2 := tri_new ((w.alloc (.cells #[.int .i64 k, .int .i64 l, v] 36)).alloc (.cells #[.int .i64 kd, .int .i64 x, .int .i64 cc] 39)) 36 (.int .i64 0) (.int .i64 0) (.slice none 0 0)
  rw [e1] at q1
  rw [e2] at q2
  exact ⟨((tri_new w _ _ _ _).alloc _).alloc _, own_low (q1.alloc _) (by omega), own_low q2 (by omega), (((Below.refl _ _).alloc (Nat.le_refl _) _).alloc (by simp) _).alloc (by simp; omega) _⟩
theorem DgT.below {w W W' : World} {k l kd x cc : Int} {v y0 y1 y2 : Value} (h : DgT w W k l kd x cc v y0 y1 y2) (hb : Below W.heap.size W W') : DgT w W' k l kd x cc v y0 y1 y2 := ⟨own_below h.s hb, own_below h.o hb, own_below h.r hb, h.b.trans (hb.mono h.b.size)⟩
/-- what a callee has handed out, put into the result's box -/
theorem rdg_hand {k l kd x cc t : Int} {A A5 : Option Addr} {n c n5 c5 : Nat} {M : List Nd} {w w1 : World} {v y0 y1 y2 : Value} (I : DgT w w1 k l kd x cc v y0 y1 y2) (o : OwnNd 74 w1 0 (.slice A5 n5 c5) M) (nw : NewB (.slice A n c) (.slice A5 n5 c5) w.heap.size) :
    RDgPost k l M t (.slice A n c) w (.returned (.tuple #[.agg #[.int .i64 k, .int .i64 l, .slice A5 n5 c5], .int .i64 t])) (((w1.setCell ⟨w.heap.size + 2, 0, none⟩ (.int .i64 k)).setCell ⟨w.heap.size + 2, 1, none⟩ (.int .i64 l)).setCell ⟨w.heap.size + 2, 2, none⟩ (.slice A5 n5 c5)) := by
  have T := tri_set I.r (.int .i64 k) (.int .i64 l) (.slice A5 n5 c5)
  exact ⟨A5, n5, c5, rfl, T.2.1 _ _ _ _ _ _ (by decide) o, I.b.trans T.2.2.1, nw⟩
theorem dgDo_one {l k : Int} {L : List Nd} {x c : Int} : dgDo l k L 1 x c = pressW l k L ∧ dgTell l k L 1 x c = (pressN l k L : Int) := ⟨rfl, rfl⟩
theorem dgDo_two {l k : Int} {L : List Nd} {x c : Int} : dgDo l k L 2 x c = [] ∧ dgTell l k L 2 x c = 0 := ⟨rfl, rfl⟩
theorem dgDo_else {l k kd : Int} {L : List Nd} {x c : Int} (h1 : ¬ kd = 1) (h2 : ¬ kd = 2) : dgDo l k L kd x c = dgIns l k L x c ∧ dgTell l k L kd x c = dgE l L x c := by
  unfold dgDo dgTell
  rw [if_neg h1, if_neg h1, if_neg h2, if_neg h2]
  exact ⟨rfl, rfl⟩
set_option maxHeartbeats 6400000 in
theorem rDgDo_any (l k kd x cc : Int) (A : Option Addr) (n c : Nat) (L : List Nd) (w : World) (h : OwnNd 74 w 0 (.slice A n c) L) (v : DgV l k L) (hn : n ≤ 100)
    (A0 : -9223372036854775808 ≤ x) (A1 : x ≤ 9223372036854775807) (B0 : -9223372036854775808 ≤ cc) (B1 : cc ≤ 9223372036854775807) :
    Calls Tryz.prog 14 #[.agg #[.int .i64 k, .int .i64 l, .slice A n c], .agg #[.int .i64 kd, .int .i64 x, .int .i64 cc]] w (RDgPost k l (dgDo l k L kd x cc) (dgTell l k L kd x cc) (.slice A n c) w) := by
  have I0 := Lib.hid (dgT_new w k l kd x cc (.slice A n c))
  have HN := Lib.hid (own_below h I0.out.b)
  obtain ⟨x0, x1, x2, g0, g1, g2, hz⟩ := tri_all I0.out.s
  obtain ⟨z0, z1, z2, _, _, _, _⟩ := tri_all I0.out.o
  by_cases h1 : kd = 1
  · subst h1
    rw [dgDo_one.1, dgDo_one.2]
    have CP := Lib.hid (rDgCompress_any l k A n c L _ HN.out v.roll hn v.k1 v.k2)
    clear h v
    generalize pressW l k L = M at *
    generalize ((pressN l k L : Nat) : Int) = t at *
    go_enter Tryz.func14, Tryz.ntmps14
    go_wp2_with fail
    generalize ((w.alloc (.cells #[.int .i64 k, .int .i64 l, .slice A n c] 36)).alloc (.cells #[.int .i64 1, .int .i64 x, .int .i64 cc] 39)).alloc (.cells #[.int .i64 0, .int .i64 0, .slice none 0 0] 36) = W0 at *
    refine CP.out.mono ?_
    rintro e w1 ⟨A5, n5, c5, rfl, ho, hb, hnw⟩
    have I1 := Lib.hid (I0.out.below hb)
    have E := Lib.hid (rdg_hand (t := t) I1.out ho (hnw.mono I0.out.b.size))
    obtain ⟨y0, y1, y2, f0, f1, f2, hz2⟩ := tri_all I1.out.r
    obtain ⟨q0, q1, q2⟩ := set_three I1.out.r (.int .i64 k) (.int .i64 l) (.slice A5 n5 c5)
    clear ho hb hnw x0 x1 x2 z0 z1 z2
    go_wp2_with fail
    exact bodyPost_ret (v := .tuple #[.agg #[.int .i64 k, .int .i64 l, .slice A5 n5 c5], .int .i64 t]) (by simp [results, Tryz.results14, go_sem, q0, q1, q2]) rfl E.out
  · by_cases h2 : kd = 2
    · subst h2
      rw [dgDo_two.1, dgDo_two.2]
      have BB : Hid (Below w.heap.size w (((w.alloc (.cells #[.int .i64 k, .int .i64 l, .slice none 0 0] 36)).alloc (.cells #[.int .i64 2, .int .i64 x, .int .i64 cc] 39)).alloc (.cells #[.int .i64 k, .int .i64 l, .slice none 0 0] 36))) := (((Below.refl _ _).alloc (Nat.le_refl _) _).alloc (by simp) _).alloc (by simp; omega) _
      clear h v
      go_enter Tryz.func14, Tryz.ntmps14
      go_wp2_with fail
      exact bodyPost_ret (v := .tuple #[.agg #[.int .i64 k, .int .i64 l, .slice none 0 0], .int .i64 0]) (by simp [results, Tryz.results14, go_sem]) rfl ⟨none, 0, 0, rfl, ownNd_nil .., BB.out, .inr fun b e => by simp [Value.ownBlock] at e⟩
    · rw [(dgDo_else h1 h2).1, (dgDo_else h1 h2).2]
      have IN := Lib.hid (rDgInsert_any l k x cc A n c L _ HN.out v hn A0 A1 B0 B1)
      have b1 : (kd == 1) = false := beq_eq_false_iff_ne.2 h1
      have b2 : (kd == 2) = false := beq_eq_false_iff_ne.2 h2
      clear h v h1 h2
      generalize dgIns l k L x cc = M at *
      generalize dgE l L x cc = t at *
      go_enter Tryz.func14, Tryz.ntmps14
      go_wp2_with fail
      generalize ((w.alloc (.cells #[.int .i64 k, .int .i64 l, .slice A n c] 36)).alloc (.cells #[.int .i64 kd, .int .i64 x, .int .i64 cc] 39)).alloc (.cells #[.int .i64 0, .int .i64 0, .slice none 0 0] 36) = W0 at *
      refine IN.out.mono ?_
      rintro e w1 ⟨A5, n5, c5, rfl, ho, hb, hnw⟩
      have I1 := Lib.hid (I0.out.below hb)
      have E := Lib.hid (rdg_hand (t := t) I1.out ho (hnw.mono I0.out.b.size))
      obtain ⟨y0, y1, y2, f0, f1, f2, hz2⟩ := tri_all I1.out.r
      obtain ⟨q0, q1, q2⟩ := set_three I1.out.r (.int .i64 k) (.int .i64 l) (.slice A5 n5 c5)
      clear ho hb hnw x0 x1 x2 z0 z1 z2
      go_wp2_with fail
      exact bodyPost_ret (v := .tuple #[.agg #[.int .i64 k, .int .i64 l, .slice A5 n5 c5], .int .i64 t]) (by simp [results, Tryz.results14, go_sem, q0, q1, q2]) rfl E.out

end Go.Proofs.YtfilmblpikcpnaaGreat
