/- The document's answers of package dewpondref10: Of. -/
import Derived.Test.YtfleaaokbjgljaaBgRef7
import Derived.Deep.AppendLies
namespace Go.Proofs.Ytfleaaokbjgljaa
set_option linter.unusedVariables false
set_option maxRecDepth 100000
open Go.RowKit
attribute [local go_sem ↓] Go.wp_at_zero Go.wp_at_succ

theorem nodes_uniq {w : World} {v : Value} {L M : List Nd} (h : NodesAt w v L) (g : NodesAt w v M) : L = M := by
  obtain ⟨A, c, rfl, _, _, _, a⟩ := h
  obtain ⟨B, d, e, _, _, _, b⟩ := g
  injection e with e1 e2 e3
  subst e1
  refine List.ext_getElem e2 fun i h1 h2 => ?_
  obtain ⟨p, o, q1, hin⟩ := a (by omega)
  obtain ⟨p', o', q2, hin2⟩ := b (by omega)
  rw [q1] at q2
  injection q2 with q2
  injection q2 with q3 q4
  subst q3 q4
  have x := hin.2 i h1
  have y := hin2.2 i h2
  rw [x.1, x.2] at y
  have e1 : (L.getD i nz) = L[i] := by rw [List.getD_eq_getElem?_getD, List.getElem?_eq_getElem h1]; rfl
  have e4 : (M.getD i nz) = M[i] := by rw [List.getD_eq_getElem?_getD, List.getElem?_eq_getElem h2]; rfl
  rw [e1, e4] at y
  obtain ⟨y1, y2⟩ := y
  injection y1 with y1
  injection y2 with y2
  injection y1 with _ y1
  injection y2 with _ y2
  exact Prod.ext_iff.2 ⟨y1, y2⟩
theorem OutI.step2 {TB TR : TypeId} {H O : Nat} {wb wr wd w3 : World} {l : Int} {X Y : Value} {L L2 : List Nd} (hT : TB ≠ TR) (I : OutI TB TR H O wb wr l (.slice none 0 0) X L) (hd : Below wr.heap.size wr wd) (hb : Below wd.heap.size wd w3) (nd : NodesAt w3 Y L2) (own : Y = X ∨ OwnNd TR w3 wd.heap.size Y L2) (hO : wb.heap.size ≤ O) (hH : H ≤ wb.heap.size) :
    w3.cell? ⟨O, 0, none⟩ = some (.int .i64 l) ∧ w3.cell? ⟨O, 1, none⟩ = some X ∧ w3.frozen? ⟨O, 0, none⟩ = false ∧ w3.frozen? ⟨O, 1, none⟩ = false ∧ OutI TB TR H O wb ((w3.setCell ⟨O, 0, none⟩ (.int .i64 l)).setCell ⟨O, 1, none⟩ Y) l (.slice none 0 0) Y L2 := by
  rcases own with q | q
  · subst q
    have hz := hd.size
    have hz1 := I.below.size
    have hbb := hd.trans (hb.mono hz)
    have bx := own_below I.box hbb
    have S1 := bx.stored 0 (.int .i64 l)
    have S2 := S1.1.stored 1 Y
    refine ⟨bx.cellAt 0 (by omega), bx.cellAt 1 (by omega), bx.frozenAt 0, bx.frozenAt 1, S2.1, ?_, ?_, ((I.below.trans (hbb.mono hz1)).setCell (p := ⟨O, 0, none⟩) hO _).setCell (p := ⟨O, 1, none⟩) hO _⟩
    · rcases I.own with r | r
      · subst r
        rw [(nodes_none nd).2.2]
        exact nodes_nil _
      · have r3 : OwnNd TR w3 H Y L := own_below r hbb
        have e := nodes_uniq nd (ownNd_nodes r3)
        subst e
        have hne : Y.ownBlock ≠ some O := fun e => by
          rcases own_apart bx r3 hT with s | s
          · simp [Value.ownBlock] at s
          · exact s e.symm
        exact ownNd_nodes (ownsRow_setCell_other (ownsRow_setCell_other r3 (a := ⟨O, 0, none⟩) hne _) (a := ⟨O, 1, none⟩) hne _)
    · rcases I.own with r | r
      · exact .inl r
      · right
        have r3 : OwnNd TR w3 H Y L := own_below r hbb
        have e := nodes_uniq nd (ownNd_nodes r3)
        subst e
        have hne : Y.ownBlock ≠ some O := fun e => by
          rcases own_apart bx r3 hT with s | s
          · simp [Value.ownBlock] at s
          · exact s e.symm
        exact ownsRow_setCell_other (ownsRow_setCell_other r3 (a := ⟨O, 0, none⟩) hne _) (a := ⟨O, 1, none⟩) hne _
  · exact I.step hd hb q hO hH
theorem of_step {l : Int} {R : List Nd} {k : Nat} (hk : k < R.length) : bagS l (ofS l (R.take k)) (R.getD k nz).1 (R.getD k nz).2 = ofS l (R.take (k + 1)) := by rw [nd_take hk, of_snoc]
set_option maxHeartbeats 6400000 in
theorem rgOf_any (l : Int) (A : Option Addr) (n c : Nat) (R : List Nd) (w : World) (h : NodesAt w (.slice A n c) R) (hB : NBds R) (hu : 1 ≤ l ∧ l ≤ 48) (hn : n ≤ 100000) :
    Calls Try.prog 42 #[.int .i64 l, .slice A n c] w fun e w' => ∃ A5 m5 c5, e = .returned (.agg #[.int .i64 l, .slice A5 m5 c5]) ∧ NodesAt w' (.slice A5 m5 c5) (ofS l R) ∧ Below w.heap.size w w' ∧ ((Value.slice A5 m5 c5) = .slice none 0 0 ∨ OwnNd 31 w' w.heap.size (.slice A5 m5 c5) (ofS l R)) := by
  have HN := Lib.hid h
  have HNB := Lib.hid hB
  have hL := Lib.hid (nodes_cells h).1
  have HU := Lib.hid hu
  have RES : Hid ((w.alloc (.cells #[.int .i64 0, .slice none 0 0] 29)).ownsRow w.heap.size 29 2 (.slice (some ⟨w.heap.size, 0, none⟩) 1 1) 1 [.int .i64 0, .slice none 0 0]) := bx2 ..
  have HB : Hid (Below w.heap.size w (w.alloc (.cells #[.int .i64 0, .slice none 0 0] 29))) := (Below.refl _ _).alloc (Nat.le_refl _) _
  have hzW : Hid ((w.alloc (.cells #[.int .i64 0, .slice none 0 0] 29)).heap.size = w.heap.size + 1) := by show _ = _; simp
  clear h hB
  go_enter Try.func42, Try.ntmps42
  go_wp2_with fail
  generalize w.alloc (.cells #[.int .i64 0, .slice none 0 0] 29) = w1 at *
  have hz := hzW.out
  have START : Hid (OutI 29 31 w.heap.size (w.heap.size + 1) w1 (w1.alloc (.cells #[.int .i64 l, .slice none 0 0] 29)) l (.slice none 0 0) (.slice none 0 0) (ofS l (R.take 0))) :=
    ⟨by have q := own_low (B2 := w.heap.size) (bx2 w1 29 (.int .i64 l) (.slice none 0 0)) (by omega); rw [hz] at q; exact q, nodes_nil _, .inl rfl, (Below.refl _ _).alloc (Nat.le_refl _) _⟩
  go_loopw [6] (fun i wr => ∃ (k : Nat) (A5 : Option Addr) (m5 c5 : Nat), i = .int .i64 (k : Int) ∧ k ≤ n ∧ OutI 29 31 w.heap.size (w.heap.size + 1) w1 wr l (.slice none 0 0) (.slice A5 m5 c5) (ofS l (R.take k))) (fun i _ => n - (intOf i).toNat)
  case atStart => exact ⟨0, none, 0, 0, rfl, Nat.zero_le _, START.out⟩
  case round =>
    obtain ⟨k, A5, m5, c5, rfl, hk, I⟩ := hrel
    have II := Lib.hid I
    obtain ⟨o0, o1, hO⟩ := I.cells
    have zs := I.below.size
    have HBK : Hid (Below w.heap.size w wr) := HB.out.trans (I.below.mono HB.out.size)
    clear I
    by_cases hlt : k < n
    · have hkM : k < R.length := by have := hL.out; omega
      obtain ⟨b1, o, rfl, hin⟩ := (nodes_cells (HN.out.below HBK.out)).2.2.2 (by omega)
      obtain ⟨e0, e1⟩ := hin.2 k hkM
      have PS := of_step (l := l) hkM
      have bd := nbds_at HNB.out hkM
      have ob := of_bag HU.out (R.take k)
      have ol := of_len l (R.take k)
      have EE : ∃ ee, bagE l (ofS l (R.take k)) (R.getD k nz).1 (R.getD k nz).2 = ee := ⟨_, rfl⟩
      obtain ⟨ee, hee⟩ := EE
      have ADD := Lib.hid (fun w4 (hb : Below wr.heap.size wr w4) => rgAdd_any l (R.getD k nz).1 (R.getD k nz).2 A5 m5 c5 (ofS l (R.take k)) w4 (II.out.nodes.below hb) ob
        (by have a := (nodes_cells II.out.nodes).1; rw [List.length_take] at ol; have := hL.out; omega) bd.1.1 bd.1.2 bd.2.1 bd.2.2)
      rw [PS, hee] at ADD
      have k0 : (0 : Int) ≤ (k : Int) := Int.natCast_nonneg _
      have k1 : (k : Int) < (n : Int) := by omega
      clear hin PS bd ob ol hee
      generalize R.getD k nz = r at *
      obtain ⟨r1, r2⟩ := r
      dsimp only at e0 e1 ADD
      have BD := Lib.hid (below_drew wr)
      go_wp2_with fail
      go_region_law (first | (go_simp; go_at_call 11; refine (ADD.out _ BD.out).mono ?_; rintro e w4 ⟨A6, m6, c6, rfl, hnd, hb4, hown⟩; have ST := Lib.hid (II.out.step2 (by decide) BD.out hb4 hnd hown (by omega) HB.out.size); obtain ⟨p0, p1, p2, p3, _⟩ := ST.out))
      all_goals
        go_wp2_with fail
        go_roundw
        case rel => exact ⟨k + 1, A6, m6, c6, by go_num, by omega, ST.out.2.2.2.2⟩
        case measure => simp [intOf]; omega
    · have e : R.take k = R := List.take_of_length_le (by have := hL.out; omega)
      have FIN := Lib.hid II.out
      rw [e] at FIN
      have RES2 := own_below RES.out FIN.out.below
      have r0 := RES2.cellAt 0 (by omega)
      have r1 := RES2.cellAt 1 (by omega)
      have g0 := RES2.frozenAt 0
      have g1 := RES2.frozenAt 1
      simp only [List.getElem?_cons_zero, List.getElem?_cons_succ] at r0 r1
      obtain ⟨q0, q1⟩ := set_two r0 r1
      clear RES2 e
      go_wp2_with fail
      have OF := out_fin (m := l) (x := 0) FIN.out (by decide) (nodes_nil w) (own_below RES.out FIN.out.below) HBK.out
      exact bodyPost_ret (v := .agg #[.int .i64 l, .slice A5 m5 c5]) (by simp [results, Try.results42, go_sem, q0, q1]) rfl (by
        obtain ⟨A7, m7, c7, e7, n7, b7, o7⟩ := OF _ _
        simp only [Ending.returned.injEq, Value.tuple.injEq, Array.mk.injEq, List.cons.injEq, Value.agg.injEq, Value.slice.injEq, and_true, true_and] at e7
        obtain ⟨rfl, rfl, rfl⟩ := e7
        exact ⟨_, _, _, rfl, n7, b7, o7⟩)

end Go.Proofs.Ytfleaaokbjgljaa
