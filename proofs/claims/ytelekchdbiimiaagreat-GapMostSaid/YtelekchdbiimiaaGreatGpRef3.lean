/- The document's answers of package dewpondref21: ends. -/
import Derived.Test.YtelekchdbiimiaaGreatGpRef
import Derived.Test.YtelekchdbiimiaaGreatMmy
import Derived.BigQuiet
namespace Go.Proofs.YtelekchdbiimiaaGreat
set_option linter.unusedVariables false
set_option maxRecDepth 100000
open Go.RowKit
theorem gpI_two {e : TypeId} {w : World} {B : Nat} {v : Value} {T : List Int} {x y : Int} {n : Nat} (hn : n = T.length) (h : w.ownsRow B e 1 v (n + 2) (ints T ++ [.int .i64 x, .int .i64 y])) : OwnI e w B v (T ++ [x, y]) := by
  subst hn
  unfold OwnI
  rw [ints_app, List.length_append]
  exact h
theorem endsN_snoc (l : Int) (n : Nd) : ∀ L : List Nd, endsN l (L ++ [n]) = endsN l L ++ [loN l n.1, hiN l n.1]
  | [] => rfl
  | x :: L => by simp only [List.cons_append, endsN, endsN_snoc l n L]
theorem endsN_len (l : Int) : ∀ L : List Nd, (endsN l L).length = 2 * L.length
  | [] => rfl
  | x :: L => by simp only [endsN, List.length_cons, endsN_len l L]; omega
theorem gpT_take (l : Int) {U : List Nd} {m : Nat} (hm : m < U.length) : (0 :: endsN l (U.take (m + 1)) : List Int) = (0 :: endsN l (U.take m)) ++ [loN l (U.getD m nz).1, hiN l (U.getD m nz).1] := by
  rw [nd_take hm, endsN_snoc]; rfl
theorem GpTw.grown {TD T : TypeId} {W w w' : World} {g1 g2 B s n : Nat} {k1 l1 : Int} {A1 : Option Addr} {n1 c1 : Nat} {k2 l2 : Int} {A2 : Option Addr} {n2 c2 : Nat} {v : Value} {xs : List Value} (h : GpTw TD W w g1 g2 k1 l1 A1 n1 c1 k2 l2 A2 n2 c2) (o : w.ownsRow B T s v n xs) (he : TD ≠ T) (hB : W.heap.size ≤ B) (hg : w.grownBy w' v.ownBlock) :
    GpTw TD W w' g1 g2 k1 l1 A1 n1 c1 k2 l2 A2 n2 c2 := ⟨h.x.kept hg (own_apart h.x o he), h.y.kept hg (own_apart h.y o he), h.hb.grown hg h.hb.size (fun g e => by have := (World.ownsRow.lt o g e).1; omega)⟩
theorem gp_rolls {l : Int} {L M : List Nd} (h : RollC l L) (g : RollC l M) {n : Nd} (hn : n ∈ L ++ M) : (0 ≤ loN l n.1 ∧ loN l n.1 ≤ hiN l n.1 ∧ hiN l n.1 < 2 ^ l.toNat) ∧ -9223372036854775808 ≤ n.1 ∧ n.1 ≤ 9223372036854775807 := by
  rcases List.mem_append.1 hn with hn | hn
  · exact ⟨node_ends h hn, (nbds_roll h n hn).1⟩
  · exact ⟨node_ends g hn, (nbds_roll g n hn).1⟩
set_option maxHeartbeats 6400000 in
theorem rGpEnds_any {l : Int} (k1 : Int) (A1 : Option Addr) (n1 c1 : Nat) (L : List Nd) (k2 : Int) (A2 : Option Addr) (n2 c2 : Nat) (M : List Nd) (w : World) (h1 : NodesAt w (.slice A1 n1 c1) L) (hr1 : RollC l L) (hn1 : n1 ≤ 1000) (h2 : NodesAt w (.slice A2 n2 c2) M) (hr2 : RollC l M) (hn2 : n2 ≤ 1000) (q1 : 0 < n1) (q2 : 0 < n2) :
    Calls Tryz.prog 33 #[.agg #[.int .i64 k1, .int .i64 l, .slice A1 n1 c1], .agg #[.int .i64 k2, .int .i64 l, .slice A2 n2 c2]] w fun e w' => (∃ A m c, e = .returned (.slice A m c) ∧ OwnI 3 w' w.heap.size (.slice A m c) (gpP l L M)) ∧ Below w.heap.size w w' := by
  obtain ⟨i0, hi, hz0, hz1, hz2⟩ := info_parts node_info
  obtain ⟨j0, ji, jz0, jz1, jz2⟩ := info_parts Tryz.info3
  have TW := Lib.hid (GpTw.new 31 w k1 l A1 n1 c1 k2 l A2 n2 c2)
  have H1 := Lib.hid h1
  have H2 := Lib.hid h2
  have HL := Lib.hid (nodes_cells h1).1
  have HM := Lib.hid (nodes_cells h2).1
  have NL := Lib.hid (show (nods L).length = n1 * 2 by rw [nods_len, (nodes_cells h1).1])
  have NM := Lib.hid (show (nods M).length = n2 * 2 by rw [nods_len, (nodes_cells h2).1])
  have RB := Lib.hid (fun (j : Nat) (hj : j < (L ++ M).length) => gp_rolls hr1 hr2 (nd_mem hj))
  have u : 1 ≤ l ∧ l ≤ 48 := of_decide_eq_true hr1.1
  have HN := Lib.hid (show (L ++ M).length = n1 + n2 by rw [List.length_append]; have := (nodes_cells h1).1; have := (nodes_cells h2).1; omega)
  have TT := Lib.hid (fun (j : Nat) (hj : j < (L ++ M).length) => gpT_take l hj)
  clear h1 h2 hr1 hr2
  cases A1 with
  | none => obtain ⟨e, _⟩ := nodes_none H1.out; omega
  | some a1 =>
    cases A2 with
    | none => obtain ⟨e, _⟩ := nodes_none H2.out; omega
    | some a2 =>
      have AT1 := Lib.hid (nodes_cells H1.out).2.2.2
      have AT2 := Lib.hid (nodes_cells H2.out).2.2.2
      clear q1 q2
      go_enter Tryz.func33, Tryz.ntmps33
      go_upto_region 1 with fail
      generalize ((w.alloc (.cells #[.int .i64 k1, .int .i64 l, .slice (some a1) n1 c1] 31)).alloc (.cells #[.int .i64 k2, .int .i64 l, .slice (some a2) n2 c2] 31)) = W at *
      have HW := Lib.hid (below_one W (.cells #[.int .i64 0] 3))
      have T1 := Lib.hid (TW.out.below HW.out)
      have O1 : Hid (OwnI 3 (W.alloc (.cells #[.int .i64 0] 3)) W.heap.size (.slice (some ⟨W.heap.size, 0, none⟩) 1 1) [0]) := box1 W 3 (.int .i64 0)
      have WB : Hid (w.heap.size ≤ W.heap.size) := TW.out.hb.size
      go_upto_region 3 with fail
      generalize hB : W.heap.size = B at *
      generalize W.alloc (.cells #[.int .i64 0] 3) = W1 at *
      have HB : Hid (B ≤ W1.heap.size) := by show _ ≤ _; have := HW.out.size; omega
      clear hB
      obtain ⟨⟨x0, x1, x2⟩, ⟨y0, y1, y2⟩, zx, zy⟩ := T1.out.cells
      have own0 := ownNd_nil 77 W1 W1.heap.size
      go_wp2_with (at_builtin; refine wpList_append_own _ rfl (.tmp 12) (.tmp 15) 24 rfl W1.heap.size 77 i0 (.agg #[.int .i64 0, .int .i64 0]) 2 16 Tryz.underlying24 hi hz0 hz1 hz2 rfl (by decide) _ 0 [] rfl own0 a1 n1 c1 (nods L) rfl NL.out (AT1.out.news T1.out.hb) (nods_one L) (by unfold maxLen; omega) (by omega) (Nat.le_refl _) ?_)
      intro v1 w1 hown1 hgrow1 _
      have hb1 : Below W1.heap.size W1 w1 := (Below.refl _ _).grown hgrow1 (Nat.le_refl _) (fun g hg => by simp [Value.ownBlock] at hg)
      obtain ⟨A3, m3, c3, rfl⟩ := ownNd_slice hown1
      have OW1 : Hid (w1.ownsRow W1.heap.size 77 2 (.slice A3 m3 c3) n1 (nods L)) := by show World.ownsRow _ _ _ _ _ _ _; simpa using hown1
      have T2 := Lib.hid (T1.out.below hb1)
      have B1 := Lib.hid hb1
      clear hown1 hgrow1 own0 x0 x1 x2 y0 y1 y2 zx zy hb1
      obtain ⟨⟨x0, x1, x2⟩, ⟨y0, y1, y2⟩, zx, zy⟩ := T2.out.cells
      go_wp2_with (at_builtin; refine wpList_append_own _ rfl (.tmp 17) (.tmp 20) 24 rfl W1.heap.size 77 i0 (.agg #[.int .i64 0, .int .i64 0]) 2 16 Tryz.underlying24 hi hz0 hz1 hz2 rfl (by decide) (.slice A3 m3 c3) n1 (nods L) rfl OW1.out a2 n2 c2 (nods M) rfl NM.out (AT2.out.news T2.out.hb) (nods_one M) (by unfold maxLen; omega) (by omega) B1.out.size ?_)
      intro v2 w2 hown2 hgrow2 _
      have hb2 : Below W1.heap.size W1 w2 := B1.out.grown hgrow2 B1.out.size (fun g hg => (World.ownsRow.lt OW1.out g hg).1)
      have OW2 : Hid (OwnNd 77 w2 W1.heap.size v2 (L ++ M)) := by show OwnNd _ _ _ _ _; have q := hown2; rw [HL.out, HM.out] at q; exact ownNd_app q
      obtain ⟨A4, m4, c4, rfl⟩ := ownNd_slice OW2.out
      have M4 : Hid (m4 = (L ++ M).length) := (nodes_cells (ownNd_nodes OW2.out)).1
      have m4b : m4 ≤ 2000 := by have := M4.out; have := HN.out; omega
      have T3 := Lib.hid (T1.out.below hb2)
      have O3 : Hid (OwnI 3 w2 B (.slice (some ⟨B, 0, none⟩) 1 1) [0]) := own_below O1.out hb2
      have Z3 : Hid (B ≤ w2.heap.size) := by show _ ≤ _; have := hb2.size; have := HB.out; omega
      clear hown2 hgrow2 hb2 x0 x1 x2 y0 y1 y2 zx zy OW1 T2 T1 O1 H1 H2 AT1 AT2 NL NM HL HM
      have GU : Hid (gpP l L M = 0 :: endsN l (L ++ M)) := rfl
      generalize L ++ M = U at *
      go_wp2_with fail
      go_loopw [5, 7] (fun v i wr => ∃ m : Nat, m ≤ m4 ∧ i = .int .i64 m ∧ OwnI 3 wr B v (0 :: endsN l (U.take m)) ∧ OwnNd 77 wr W1.heap.size (.slice A4 m4 c4) U ∧ GpTw 31 w wr w.heap.size (w.heap.size + 1) k1 l (some a1) n1 c1 k2 l (some a2) n2 c2 ∧ B ≤ wr.heap.size) (fun _ i _ => m4 - (intOf i).toNat)
      case atStart => exact ⟨0, by omega, rfl, O3.out, OW2.out, T3.out, Z3.out⟩
      case round =>
        obtain ⟨m, hm, rfl, ho, hn, ht, hz⟩ := hrel
        have OO := Lib.hid ho
        have ON := Lib.hid hn
        have OT := Lib.hid ht
        have OZ := Lib.hid hz
        clear ho hn ht hz O3 OW2 T3 Z3
        by_cases hlt : m < m4
        · have hjl : m < U.length := by have := M4.out; omega
          rcases ownNd_form ON.out with ⟨_, z⟩ | ⟨g2, cap, hv, _, hgw, _, _, hin⟩
          · rw [z] at hjl; simp at hjl
          · injection hv with hv1 hv2 hv3
            subst hv1
            obtain ⟨e0, e1⟩ := hin.2 m hjl
            simp only [Nat.zero_add] at e0 e1
            have rb := RB.out m hjl
            have st := Lib.hid (TT.out m hjl)
            have PL : Hid ((0 :: endsN l (U.take m) : List Int).length ≤ 5000) := by
              show _ ≤ _
              simp only [List.length_cons, endsN_len, List.length_take]
              omega
            have k0 : (0 : Int) ≤ (m : Int) := Int.natCast_nonneg _
            have k1' : (m : Int) < (m4 : Int) := by omega
            generalize (0 :: endsN l (U.take m) : List Int) = P at *
            generalize (U.getD m nz).1 = id at *
            have EN := Lib.hid (fun v => rends_any l id v (by omega) (by omega) rb.2.1 rb.2.2)
            have p48 : (2 : Int) ^ l.toNat ≤ 281474976710656 := two_le l.toNat 48 (by omega)
            generalize loN l id = lo at *
            generalize hiN l id = hh at *
            obtain ⟨⟨x0, x1, x2⟩, _, zx, _⟩ := OT.out.cells
            clear hv2 hv3 hin e1 rb p48
            go_wp2_with fail
            go_quiet ((go_at_call 69; exact Calls.quiet_of_same ((EN.out _).mono fun _ _ ⟨a, b⟩ => ⟨a, b.symm⟩)))
            generalize hwq : World.drewN wr _ = wq
            have BQ : Hid (Below wr.heap.size wr wq) := by rw [← hwq]; exact drewN_below (Below.refl _ _) _
            have O5 := Lib.hid (own_below OO.out BQ.out)
            have N5 := Lib.hid (own_below ON.out BQ.out)
            have T5 := Lib.hid (OT.out.below BQ.out)
            have Z5 : Hid (B ≤ wq.heap.size) := by show _ ≤ _; have := BQ.out.size; have := OZ.out; omega
            clear hwq BQ OO ON OT OZ x0 x1 x2 zx e0 EN hgw
            have PLo := PL.out
            have z5 := Z5.out
            go_wp2_with (at_builtin; refine wpList_append_own _ rfl (.tmp 41) (.tmp 44) 91 rfl B 3 j0 (.int .i64 0) 1 8 Tryz.underlying91 ji jz0 jz1 jz2 rfl (by decide) _ P.length (ints P) rfl (World.ownsRow.alloc O5.out _) ⟨wq.heap.size, 0, none⟩ 2 2 [.int .i64 lo, .int .i64 hh] rfl rfl (two_new _ _ _ _ _ rfl) (two_cell lo hh) (by unfold maxLen; omega) (by omega) (by simp; omega) ?_)
            intro v' w4 hown hgrow hnil
            have O6 := Lib.hid (gpI_two rfl hown)
            have N6 := Lib.hid (World.ownsRow.kept (World.ownsRow.alloc N5.out (.cells #[.int .i64 lo, .int .i64 hh] 3)) hgrow (own_apart (World.ownsRow.alloc N5.out (.cells #[.int .i64 lo, .int .i64 hh] 3)) (World.ownsRow.alloc O5.out (.cells #[.int .i64 lo, .int .i64 hh] 3)) (by decide)))
            have T6 := Lib.hid ((T5.out.below (below_one wq (.cells #[.int .i64 lo, .int .i64 hh] 3))).grown (World.ownsRow.alloc O5.out (.cells #[.int .i64 lo, .int .i64 hh] 3)) (by decide) WB.out hgrow)
            have Z6 : Hid (B ≤ w4.heap.size) := by show _ ≤ _; have := hgrow.size; simp at this; omega
            clear hown hgrow hnil N5 O5 T5 Z5
            go_wp2_with fail
            go_roundw
            case rel => exact ⟨m + 1, by omega, by go_num, by rw [st.out]; exact O6.out, N6.out, T6.out, Z6.out⟩
            case measure => simp [intOf]; omega
        · obtain rfl : m = m4 := by omega
          have e : U.take m = U := List.take_of_length_le (by have := M4.out; omega)
          rw [e] at OO
          obtain ⟨A9, m9, c9, rfl⟩ := own_slice OO.out
          clear e
          go_wp2_with fail
          go_ret
          exact ⟨⟨_, _, _, rfl, by rw [GU.out]; exact own_low OO.out WB.out⟩, OT.out.hb⟩
end Go.Proofs.YtelekchdbiimiaaGreat
