/- Texts laid together: RcRef, RcRef2. -/
import Derived.Test.YtachfeclgdgbiaaGreatDgR
import Derived.Test.YtachfeclgdgbiaaGreatRcN
import Derived.Test.YtachfeclgdgbiaaGreatDgN
import Derived.Deep.Cut
import Derived.Deep.DeepCutAuto
/- The document's answers of package dewpondref15: Grow. -/
namespace Go.Proofs.YtachfeclgdgbiaaGreat
set_option linter.unusedVariables false
set_option maxRecDepth 100000
open Go.RowKit

theorem rc_set1 {TS : TypeId} {w : World} {B q : Nat} {x y z : Value} (r : w.ownsRow B TS 3 (.slice (some ⟨q, 0, none⟩) 1 1) 1 [x, y, z]) (u : Value) :
    (w.setCell ⟨q, 2, none⟩ u).ownsRow B TS 3 (.slice (some ⟨q, 0, none⟩) 1 1) 1 [x, y, u] ∧ (∀ (base : Nat) (e : TypeId) (size n : Nat) (v : Value) (ys : List Value), e ≠ TS → w.ownsRow base e size v n ys → (w.setCell ⟨q, 2, none⟩ u).ownsRow base e size v n ys) ∧
    Below B w (w.setCell ⟨q, 2, none⟩ u) ∧ (∀ (base : Nat) (e : TypeId) (size n : Nat) (v : Value) (ys : List Value), v.ownBlock ≠ some q → w.ownsRow base e size v n ys → (w.setCell ⟨q, 2, none⟩ u).ownsRow base e size v n ys) := by
  have s := World.ownsRow.stored r 2 u
  exact ⟨s.1, fun base e size n v ys he o => o.kept s.2 (own_apart o r he), (Below.refl _ _).setCell (p := ⟨q, 2, none⟩) (r.lt q rfl).1 u, fun base e size n v ys he o => o.kept s.2 (.inr he)⟩
theorem rcMap_bd {g : Int → Int} {l : Int} {L : List Nd} (h : RollC l L) (hg : ∀ m ∈ L, 1 ≤ g m.1 ∧ g m.1 ≤ 9223372036854775807) : ∀ m ∈ L, 1 ≤ g m.1 ∧ g m.1 ≤ 9223372036854775807 := hg
/-- moved nodes are folded -/
theorem rcMap_fold {g : Int → Int} {l : Int} {L : List Nd} (h : RollC l L) (hg : ∀ m ∈ L, 1 ≤ g m.1 ∧ g m.1 ≤ 9223372036854775807) : foldB (mapN g L) = true ∧ NBds (mapN g L) := by
  have nn := good_nonneg (roll_good h)
  refine ⟨foldC_iff.2 ⟨⟨map_nn nn, by rw [map_tot]; exact h.2.2.2.2⟩, fun n hn => ?_⟩, fun n hn => ?_⟩
  · obtain ⟨m, hm, e⟩ := List.mem_map.1 hn
    rw [← e]; exact (hg m hm).1
  · obtain ⟨m, hm, e⟩ := List.mem_map.1 hn
    have a := hg m hm
    have b := nbds_roll h m hm
    rw [← e]
    exact ⟨by dsimp only; omega, b.2⟩
theorem isP_le {kd l : Int} (h : isP kd l = true) : 1 ≤ l ∧ l ≤ 48 := by rcases of_decide_eq_true h with q | q <;> omega
/-- a digest handed out, and a number -/
def RRcPost (k l : Int) (M : List Nd) (x : Int) (w : World) (e : Ending) (w' : World) : Prop :=
  ∃ A m c, e = .returned (.tuple #[.agg #[.int .i64 k, .int .i64 l, .slice A m c], .int .i64 x]) ∧ NodesAt w' (.slice A m c) M ∧ Below w.heap.size w w'
set_option maxHeartbeats 3200000 in
theorem rRcGrow_no (kd l l0 k0 : Int) (v : Value) (w : World) (hk : ¬ (l0 ≤ l ∧ isP kd l = true)) :
    Calls Tryz.prog 12 #[.agg #[.int .i64 k0, .int .i64 l0, v], .int .i64 kd, .int .i64 l] w fun e w' => e = .returned (.tuple #[.agg #[.int .i64 0, .int .i64 0, .slice none 0 0], .int .i64 2]) ∧ Below w.heap.size w w' := by
  have I0 := Lib.hid (dgI_new w k0 l0 v)
  obtain ⟨x0, x1, x2, _, _, _, _⟩ := tri_all I0.out.s
  obtain ⟨y0, y1, y2, h0, h1, h2, hz2⟩ := tri_all I0.out.r
  have IS := Lib.hid (fun w => poIs_any kd l w)
  by_cases g : l < l0
  · have c1 : decide (l < l0) = true := decide_eq_true g
    clear hk g
    go_enter Tryz.func12, Tryz.ntmps12
    go_wp2_with fail
    generalize (w.alloc (.cells #[.int .i64 k0, .int .i64 l0, v] 37)).alloc (.cells #[.int .i64 0, .int .i64 0, .slice none 0 0] 37) = W0 at *
    exact bodyPost_ret (v := .tuple #[.agg #[.int .i64 0, .int .i64 0, .slice none 0 0], .int .i64 2]) (by simp [results, Tryz.results12, go_sem, y0, y1, y2]) rfl ⟨rfl, I0.out.b⟩
  · have c1 : decide (l < l0) = false := decide_eq_false g
    have c2 : isP kd l = false := Bool.eq_false_iff.2 fun z => hk ⟨by omega, z⟩
    rw [c2] at IS
    clear hk g c2
    go_enter Tryz.func12, Tryz.ntmps12
    go_wp2_with (go_at_call 18; refine (IS.out _).mono ?_; rintro e w1 ⟨rfl, rfl⟩)
    generalize (w.alloc (.cells #[.int .i64 k0, .int .i64 l0, v] 37)).alloc (.cells #[.int .i64 0, .int .i64 0, .slice none 0 0] 37) = W0 at *
    exact bodyPost_ret (v := .tuple #[.agg #[.int .i64 0, .int .i64 0, .slice none 0 0], .int .i64 2]) (by simp [results, Tryz.results12, go_sem, y0, y1, y2]) rfl ⟨rfl, I0.out.b⟩
set_option maxHeartbeats 12800000 in
theorem rRcGrow_any (kd l l0 k0 : Int) (A : Option Addr) (n c : Nat) (L : List Nd) (w : World) (h : NodesAt w (.slice A n c) L) (hv : DgV l0 k0 L) (hn : n ≤ 400) (hl : l0 ≤ l) (hp : isP kd l = true) :
    Calls Tryz.prog 12 #[.agg #[.int .i64 k0, .int .i64 l0, .slice A n c], .int .i64 kd, .int .i64 l] w (RRcPost k0 (l) (growW (l - l0) L) 0 w) := by
  obtain ⟨i0, hi, hz0, hz1, hz2⟩ := info_parts node_info
  have I0 := Lib.hid (dgI_new w k0 l0 (.slice A n c))
  have HN := Lib.hid (h.below I0.out.b)
  have HL := Lib.hid (nodes_cells h).1
  have HA := Lib.hid (nodes_cells (h.below I0.out.b)).2.2.2
  have RR := Lib.hid (roll_right hv.roll)
  have PP := Lib.hid (roll_pos hv.roll)
  have NB := Lib.hid (nbds_roll hv.roll)
  have u : 1 ≤ l0 ∧ l0 ≤ 48 := of_decide_eq_true hv.roll.1
  have GV := Lib.hid (dgV_grow (b := l - l0) hv (by omega) (by have := isP_le hp; omega))
  have MB := Lib.hid (rcMap_bd (g := fun z => graN z (l - l0)) hv.roll (fun m hm => (fun z => ⟨z.1, right_max (right_yes z.2)⟩) (show 1 ≤ graN m.1 (l - l0) ∧ RightC (l0 + (l - l0)) (graN m.1 (l - l0)) from (fun y => ⟨y.2.2.1, y⟩) (rcGra_right (roll_right hv.roll m hm).1 (roll_right hv.roll m hm).2 (by omega) (by have := isP_le hp; omega)))))
  have XR := Lib.hid (rcMap_fold (g := fun z => graN z (l - l0)) hv.roll (fun m hm => (fun z => ⟨z.1, right_max (right_yes z.2)⟩) (show 1 ≤ graN m.1 (l - l0) ∧ RightC (l0 + (l - l0)) (graN m.1 (l - l0)) from (fun y => ⟨y.2.2.1, y⟩) (rcGra_right (roll_right hv.roll m hm).1 (roll_right hv.roll m hm).2 (by omega) (by have := isP_le hp; omega)))))
  have PM := Lib.hid (map_pos (g := fun z => graN z (l - l0)) (roll_pos hv.roll))
  have IS := Lib.hid (fun w => poIs_any kd l w)
  rw [hp] at IS
  have c1 : decide (l < l0) = false := decide_eq_false (by omega)
  have HW := Lib.hid (show IntKind.i64.wrap (l - l0) = l - l0 from wrap_lit rfl (by omega) (by have := isP_le hp; omega))
  have lb := isP_le hp
  have GI := Lib.hid (fun (m : Int) (w : World) (m0 : -9223372036854775808 ≤ m) (m1 : m ≤ 9223372036854775807) => rgra_any m (l - l0) w m0 m1 (by omega) (by omega))
  have hWX : Hid (growW (l - l0) L = gatW (mapN (fun z => graN z (l - l0)) L)) := rfl
  obtain ⟨x0, x1, x2, _, _, _, hzx⟩ := tri_all I0.out.s
  clear h hv hp hl u
  generalize growW (l - l0) L = F0 at *
  generalize hbb : l - l0 = b at *
  have HBB := Lib.hid hbb
  clear hbb
  have hw : IntKind.i64.wrap (l - l0) = b := by rw [HBB.out]; exact HW.out
  go_enter Tryz.func12, Tryz.ntmps12
  go_upto_region 5 with (go_at_call 18; refine (IS.out _).mono ?_; rintro e w1 ⟨rfl, rfl⟩)
  generalize (w.alloc (.cells #[.int .i64 k0, .int .i64 l0, .slice A n c] 37)).alloc (.cells #[.int .i64 0, .int .i64 0, .slice none 0 0] 37) = W0 at *
  go_loopw [8, 9] (fun v i wr => ∃ j : Nat, j ≤ n ∧ i = .int .i64 j ∧ OwnNd 75 wr W0.heap.size v (mapN (fun z => graN z b) (L.take j)) ∧ Below W0.heap.size W0 wr) (fun _ i _ => n - (intOf i).toNat)
  case atStart => exact ⟨0, by omega, rfl, ownNd_nil .., Below.refl _ _⟩
  case round =>
    obtain ⟨j, hj, rfl, ho, hb⟩ := hrel
    have BB := Lib.hid hb
    have OO := Lib.hid ho
    clear ho x0 x1 x2 hzx
    obtain ⟨x0, x1, x2, _, _, _, hzx⟩ := tri_all (own_below I0.out.s BB.out)
    by_cases hlt : j < n
    · have hjl : j < L.length := by have := HL.out; omega
      obtain ⟨bq, o, rfl, hin⟩ := HA.out (by have := HL.out; omega)
      obtain ⟨e0, e1⟩ := (hin.below hb hin.1).2 j hjl
      have hbl := hin.1
      have hzb : bq < wr.heap.size := Nat.lt_of_lt_of_le hin.1 hb.size
      have hg : L.getD j nz = L[j] := by simp [List.getD_eq_getElem?_getD, hjl]
      have rj := RR.out L[j] (List.getElem_mem hjl)
      have nj := NB.out L[j] (List.getElem_mem hjl)
      have gj := MB.out L[j] (List.getElem_mem hjl)
      have TK : Hid (mapN (fun z => graN z b) (L.take (j + 1)) = mapN (fun z => graN z b) (L.take j) ++ [(graN L[j].1 b, L[j].2)]) := by
        show _ = _
        rw [List.take_succ_eq_append_getElem hjl]; unfold mapN; rw [List.map_append]; rfl
      rw [hg] at e0 e1
      have XL : Hid ((mapN (fun z => graN z b) (L.take j)).length ≤ 400) := by
        show _ ≤ _
        unfold mapN
        rw [List.length_map, List.length_take]
        omega
      obtain ⟨m, hm⟩ : ∃ m, m = L[j] := ⟨_, rfl⟩
      rw [← hm] at e0 e1 rj nj gj TK
      obtain ⟨id, ct⟩ := m
      simp only at e0 e1 rj nj gj TK
      clear hm hg hin hb
      have k0' : (0 : Int) ≤ (j : Int) := Int.natCast_nonneg _
      have k1' : (j : Int) < (n : Int) := by omega
      have GC := Lib.hid (fun w => GI.out id w nj.1.1 nj.1.2)
      generalize graN id b = id2 at *
      generalize mapN (fun z => graN z b) (L.take j) = Xj at *
      go_upto_region 8 with fail
      have BX := Lib.hid (box2 wr 75 (.int .i64 id) (.int .i64 ct))
      have BA := Lib.hid ((Below.refl wr.heap.size wr).alloc (Nat.le_refl _) (.cells #[.int .i64 id, .int .i64 ct] 75))
      have OB := Lib.hid (own_below OO.out BA.out)
      have XB := Lib.hid (own_below (own_below I0.out.s BB.out) BA.out)
      have LT := Lib.hid (fun g hg => (World.ownsRow.lt OO.out g hg).2)
      clear x0 x1 x2 hzx e0 e1
      generalize wr.alloc (.cells #[.int .i64 id, .int .i64 ct] 75) = W1 at *
      obtain ⟨x0, x1, x2, _, _, _, hzx⟩ := tri_all XB.out
      obtain ⟨b0, b1, bf0, bf1, hbz⟩ := box_cells BX.out
      go_upto_region 9 with (go_at_call 36; refine (GC.out _).mono ?_; rintro e w2 ⟨rfl, rfl⟩)
      have ST := Lib.hid (World.ownsRow.stored BX.out 0 (.int .i64 id2)).1
      have KS := Lib.hid (Kp.setCell W1 ⟨wr.heap.size, 0, none⟩ (.int .i64 id2))
      have OS := Lib.hid (own_kp OB.out KS.out fun g e f => by have := LT.out g e; simp only at f; omega)
      have BS : Hid (Below W0.heap.size W0 (W1.setCell ⟨wr.heap.size, 0, none⟩ (.int .i64 id2))) := (BB.out.trans (BA.out.mono BB.out.size)).setCell (p := ⟨wr.heap.size, 0, none⟩) BB.out.size _
      clear x0 x1 x2 hzx b0 b1 bf0 bf1 hbz XB
      generalize W1.setCell ⟨wr.heap.size, 0, none⟩ (.int .i64 id2) = W2 at *
      obtain ⟨b0, b1, _, _, hbz⟩ := box_cells ST.out
      go_wp2_with (at_builtin; refine wpList_append_own _ rfl (.tmp 50) (.tmp 52) 33 rfl W0.heap.size 75 i0 (.agg #[.int .i64 0, .int .i64 0]) 2 16 Tryz.underlying33 hi hz0 hz1 hz2 rfl (by decide) u8 Xj.length (nods Xj) rfl (World.ownsRow.alloc OS.out _) ⟨W2.heap.size, 0, none⟩ 1 1 [.int .i64 id2, .int .i64 ct] rfl rfl (two_new _ _ _ _ _ rfl) (two_cell _ _) (by have := XL.out; unfold maxLen; omega) (by have := XL.out; omega) (by have := BS.out.size; simp; omega) ?_)
      intro v' w3 hown2 hgrow _
      have hb3 : Below W0.heap.size W0 w3 := (BS.out.alloc BS.out.size _).grown hgrow (by have := BS.out.size; simp; omega) (fun g hg => (World.ownsRow.lt OS.out g hg).1)
      have HO2 := Lib.hid (ownNd_snoc hown2)
      clear hown2 hgrow
      go_wp2_with fail
      go_roundw
      case rel => exact ⟨j + 1, by omega, by go_num, by rw [TK.out]; exact HO2.out, hb3⟩
      case measure => simp [intOf]; omega
    · obtain rfl : j = n := by omega
      rw [List.take_of_length_le (by have := HL.out; omega)] at OO
      have FD := Lib.hid (ownNd_nodes OO.out)
      obtain ⟨A4, m4, c4, hv4⟩ := own_slice OO.out
      subst hv4
      have M4 := Lib.hid (nodes_cells FD.out).1
      have RB := Lib.hid (own_below I0.out.r BB.out)
      have B5 := Lib.hid (BB.out.alloc BB.out.size (.cells #[.int .i64 k0, .int .i64 0, .slice none 0 0] 37))
      have T5 := Lib.hid (tri_nw wr 37 (.int .i64 k0) (.int .i64 0) (.slice none 0 0))
      have BA := Lib.hid ((Below.refl wr.heap.size wr).alloc (Nat.le_refl _) (.cells #[.int .i64 k0, .int .i64 0, .slice none 0 0] 37))
      have F5 := Lib.hid (FD.out.below BA.out)
      have R5 := Lib.hid (own_below RB.out BA.out)
      have WZ := Lib.hid BB.out.size
      have X5 := Lib.hid (own_below (own_below I0.out.s BB.out) BA.out)
      clear hlt hb
      obtain ⟨t0, t1, t2, tf0, tf1, tf2, ht⟩ := tri_all T5.out
      go_upto_region 11 with fail
      clear x0 x1 x2 hzx
      have LT := Lib.hid (fun g hg => (World.ownsRow.lt OO.out g hg).2)
      have O5 := Lib.hid (own_below OO.out BA.out)
      have W5z := Lib.hid (Nat.le_trans WZ.out BA.out.size)
      generalize wr.alloc (.cells #[.int .i64 k0, .int .i64 0, .slice none 0 0] 37) = W5 at *
      obtain ⟨x0, x1, x2, _, _, _, hzx⟩ := tri_all X5.out
      go_upto_region 12 with fail
      have S6 := Lib.hid (World.ownsRow.stored T5.out 1 (.int .i64 (l))).1
      have K6 := Lib.hid (Kp.setCell W5 ⟨wr.heap.size, 1, none⟩ (.int .i64 (l)))
      have O6 := Lib.hid (own_kp O5.out K6.out fun g e f => by have := LT.out g e; simp only at f; omega)
      have R6 := Lib.hid (own_kp R5.out K6.out fun g e f => by
        simp only [Value.ownBlock, Option.some.injEq] at e
        have a := (I0.out.r.lt (w.heap.size + 1) rfl).2
        have b := WZ.out
        simp only at f
        omega)
      have B6 : Hid (Below W0.heap.size W0 (W5.setCell ⟨wr.heap.size, 1, none⟩ (.int .i64 (l)))) := B5.out.setCell (p := ⟨wr.heap.size, 1, none⟩) WZ.out _
      clear x0 x1 x2 hzx t0 t1 t2 tf0 tf1 tf2 ht T5 R5 O5 X5 F5 K6 B5 BA
      generalize W5.setCell ⟨wr.heap.size, 1, none⟩ (.int .i64 (l)) = W6 at *
      have FO := Lib.hid ((rFold_own A4 m4 c4 _ W6 (ownNd_nodes O6.out) XR.out.2 (by have a := M4.out; have b := HL.out; simp [mapN] at a; omega)).mono (fun _ _ q => foldO_is_yes XR.out.1 q))
      obtain ⟨t0, t1, t2, tf0, tf1, tf2, ht⟩ := tri_all S6.out
      go_wp2_with fail
      refine FO.out.mono ?_
      rintro e w7 ⟨F, A7, c7, rfl, hF, ho7, hb7⟩
      obtain rfl : F = F0 := by rw [hWX.out]; exact fold_gat PM.out hF
      have S7 := Lib.hid (own_below S6.out hb7)
      have R7 := Lib.hid (own_below R6.out hb7)
      have B7 := Lib.hid (B6.out.trans (hb7.mono B6.out.size))
      have T8 := Lib.hid (rc_set1 S7.out (.slice A7 F.length c7))
      have R8 := Lib.hid (T8.out.2.2.2 _ _ _ _ _ _ (by
        simp only [Value.ownBlock, ne_eq, Option.some.injEq]
        have a := (I0.out.r.lt (w.heap.size + 1) rfl).2
        have b := WZ.out
        omega) R7.out)
      have T9 := Lib.hid (tri_set R8.out (.int .i64 k0) (.int .i64 (l)) (.slice A7 F.length c7))
      have O9 := Lib.hid (ownNd_nodes (T9.out.2.1 _ _ _ _ _ _ (by decide) (T8.out.2.1 _ _ _ _ _ _ (by decide) ho7)))
      have B9 := Lib.hid (((I0.out.b.trans (B7.out.mono I0.out.b.size)).trans ((T8.out.2.2.1.mono (Nat.le_trans I0.out.b.size WZ.out)))).trans T9.out.2.2.1)
      clear t0 t1 t2 tf0 tf1 tf2 ht hF ho7 hb7
      obtain ⟨t0, t1, t2, tf0, tf1, tf2, ht⟩ := tri_all S7.out
      obtain ⟨v0, v1, v2, _, _, _, _⟩ := tri_all T8.out.1
      obtain ⟨z0, z1, z2, zf0, zf1, zf2, hzz⟩ := tri_all R8.out
      obtain ⟨q0, q1, q2⟩ := set_three R8.out (.int .i64 k0) (.int .i64 (l)) (.slice A7 F.length c7)
      go_wp2_with fail
      exact bodyPost_ret (v := .tuple #[.agg #[.int .i64 k0, .int .i64 (l), .slice A7 F.length c7], .int .i64 0]) (by simp [results, Tryz.results12, go_sem, q0, q1, q2]) rfl ⟨A7, F.length, c7, rfl, O9.out, B9.out⟩

end Go.Proofs.YtachfeclgdgbiaaGreat

/- The document's answers of package dewpondref15: Coarsen. -/
namespace Go.Proofs.YtachfeclgdgbiaaGreat
set_option linter.unusedVariables false
set_option maxRecDepth 100000
open Go.RowKit

set_option maxHeartbeats 3200000 in
theorem rRcCoarsen_no (bits l0 k0 : Int) (v : Value) (w : World) (hk : ¬ (0 ≤ bits ∧ bits < l0)) :
    Calls Tryz.prog 16 #[.agg #[.int .i64 k0, .int .i64 l0, v], .int .i64 bits] w fun e w' => e = .returned (.tuple #[.agg #[.int .i64 0, .int .i64 0, .slice none 0 0], .int .i64 2]) ∧ Below w.heap.size w w' := by
  have I0 := Lib.hid (dgI_new w k0 l0 v)
  obtain ⟨x0, x1, x2, _, _, _, _⟩ := tri_all I0.out.s
  obtain ⟨y0, y1, y2, h0, h1, h2, hz2⟩ := tri_all I0.out.r
  by_cases g : bits < 0
  · have c1 : decide (bits < 0) = true := decide_eq_true g
    clear hk g
    go_enter Tryz.func16, Tryz.ntmps16
    go_wp2_with fail
    generalize (w.alloc (.cells #[.int .i64 k0, .int .i64 l0, v] 37)).alloc (.cells #[.int .i64 0, .int .i64 0, .slice none 0 0] 37) = W0 at *
    exact bodyPost_ret (v := .tuple #[.agg #[.int .i64 0, .int .i64 0, .slice none 0 0], .int .i64 2]) (by simp [results, Tryz.results16, go_sem, y0, y1, y2]) rfl ⟨rfl, I0.out.b⟩
  · have c1 : decide (bits < 0) = false := decide_eq_false g
    have c2 : decide (l0 ≤ bits) = true := decide_eq_true (by omega)
    clear hk g
    go_enter Tryz.func16, Tryz.ntmps16
    go_wp2_with fail
    generalize (w.alloc (.cells #[.int .i64 k0, .int .i64 l0, v] 37)).alloc (.cells #[.int .i64 0, .int .i64 0, .slice none 0 0] 37) = W0 at *
    exact bodyPost_ret (v := .tuple #[.agg #[.int .i64 0, .int .i64 0, .slice none 0 0], .int .i64 2]) (by simp [results, Tryz.results16, go_sem, y0, y1, y2]) rfl ⟨rfl, I0.out.b⟩
set_option maxHeartbeats 12800000 in
theorem rRcCoarsen_any (bits l0 k0 : Int) (A : Option Addr) (n c : Nat) (L : List Nd) (w : World) (h : NodesAt w (.slice A n c) L) (hv : DgV l0 k0 L) (hn : n ≤ 400) (b0 : 0 ≤ bits) (b1 : bits < l0) :
    Calls Tryz.prog 16 #[.agg #[.int .i64 k0, .int .i64 l0, .slice A n c], .int .i64 bits] w (RRcPost k0 (l0 - bits) (pruW (l0 - bits) L) 0 w) := by
  obtain ⟨i0, hi, hz0, hz1, hz2⟩ := info_parts node_info
  have I0 := Lib.hid (dgI_new w k0 l0 (.slice A n c))
  have HN := Lib.hid (h.below I0.out.b)
  have HL := Lib.hid (nodes_cells h).1
  have HA := Lib.hid (nodes_cells (h.below I0.out.b)).2.2.2
  have RR := Lib.hid (roll_right hv.roll)
  have PP := Lib.hid (roll_pos hv.roll)
  have NB := Lib.hid (nbds_roll hv.roll)
  have u : 1 ≤ l0 ∧ l0 ≤ 48 := of_decide_eq_true hv.roll.1
  have GV := Lib.hid (dgV_prune hv b0 b1)
  have MB := Lib.hid (rcMap_bd (g := fun z => pruN z (l0 - bits)) hv.roll (fun m hm => (fun z => ⟨z.1, right_max (right_yes z.2)⟩) (show 1 ≤ pruN m.1 (l0 - bits) ∧ RightC (l0 - bits) (pruN m.1 (l0 - bits)) from (fun y => ⟨y.2.2.1, y⟩) (rcPru_right (roll_right hv.roll m hm).1 (roll_right hv.roll m hm).2 b0 b1))))
  have XR := Lib.hid (rcMap_fold (g := fun z => pruN z (l0 - bits)) hv.roll (fun m hm => (fun z => ⟨z.1, right_max (right_yes z.2)⟩) (show 1 ≤ pruN m.1 (l0 - bits) ∧ RightC (l0 - bits) (pruN m.1 (l0 - bits)) from (fun y => ⟨y.2.2.1, y⟩) (rcPru_right (roll_right hv.roll m hm).1 (roll_right hv.roll m hm).2 b0 b1))))
  have PM := Lib.hid (map_pos (g := fun z => pruN z (l0 - bits)) (roll_pos hv.roll))
  have c1 : decide (bits < 0) = false := decide_eq_false (by omega)
  have c2 : decide (l0 ≤ bits) = false := decide_eq_false (by omega)
  have HW := Lib.hid (show IntKind.i64.wrap (l0 - bits) = l0 - bits from wrap_lit rfl (by omega) (by omega))
  have GI := Lib.hid (fun (m : Int) (w : World) (m0 : -9223372036854775808 ≤ m) (m1 : m ≤ 9223372036854775807) => rpru_any m (l0 - bits) w m0 m1 (by omega) (by omega))
  have hWX : Hid (pruW (l0 - bits) L = gatW (mapN (fun z => pruN z (l0 - bits)) L)) := rfl
  obtain ⟨x0, x1, x2, _, _, _, hzx⟩ := tri_all I0.out.s
  clear h hv u b0 b1
  generalize pruW (l0 - bits) L = F0 at *
  generalize hbb : l0 - bits = b at *
  have HBB := Lib.hid hbb
  clear hbb
  have hw : IntKind.i64.wrap (l0 - bits) = b := by rw [HBB.out]; exact HW.out
  go_enter Tryz.func16, Tryz.ntmps16
  go_upto_region 5 with fail
  generalize (w.alloc (.cells #[.int .i64 k0, .int .i64 l0, .slice A n c] 37)).alloc (.cells #[.int .i64 0, .int .i64 0, .slice none 0 0] 37) = W0 at *
  go_loopw [6, 7] (fun v i wr => ∃ j : Nat, j ≤ n ∧ i = .int .i64 j ∧ OwnNd 75 wr W0.heap.size v (mapN (fun z => pruN z b) (L.take j)) ∧ Below W0.heap.size W0 wr) (fun _ i _ => n - (intOf i).toNat)
  case atStart => exact ⟨0, by omega, rfl, ownNd_nil .., Below.refl _ _⟩
  case round =>
    obtain ⟨j, hj, rfl, ho, hb⟩ := hrel
    have BB := Lib.hid hb
    have OO := Lib.hid ho
    clear ho x0 x1 x2 hzx
    obtain ⟨x0, x1, x2, _, _, _, hzx⟩ := tri_all (own_below I0.out.s BB.out)
    by_cases hlt : j < n
    · have hjl : j < L.length := by have := HL.out; omega
      obtain ⟨bq, o, rfl, hin⟩ := HA.out (by have := HL.out; omega)
      obtain ⟨e0, e1⟩ := (hin.below hb hin.1).2 j hjl
      have hbl := hin.1
      have hzb : bq < wr.heap.size := Nat.lt_of_lt_of_le hin.1 hb.size
      have hg : L.getD j nz = L[j] := by simp [List.getD_eq_getElem?_getD, hjl]
      have rj := RR.out L[j] (List.getElem_mem hjl)
      have nj := NB.out L[j] (List.getElem_mem hjl)
      have gj := MB.out L[j] (List.getElem_mem hjl)
      have TK : Hid (mapN (fun z => pruN z b) (L.take (j + 1)) = mapN (fun z => pruN z b) (L.take j) ++ [(pruN L[j].1 b, L[j].2)]) := by
        show _ = _
        rw [List.take_succ_eq_append_getElem hjl]; unfold mapN; rw [List.map_append]; rfl
      rw [hg] at e0 e1
      have XL : Hid ((mapN (fun z => pruN z b) (L.take j)).length ≤ 400) := by
        show _ ≤ _
        unfold mapN
        rw [List.length_map, List.length_take]
        omega
      obtain ⟨m, hm⟩ : ∃ m, m = L[j] := ⟨_, rfl⟩
      rw [← hm] at e0 e1 rj nj gj TK
      obtain ⟨id, ct⟩ := m
      simp only at e0 e1 rj nj gj TK
      clear hm hg hin hb
      have k0' : (0 : Int) ≤ (j : Int) := Int.natCast_nonneg _
      have k1' : (j : Int) < (n : Int) := by omega
      have GC := Lib.hid (fun w => GI.out id w nj.1.1 nj.1.2)
      generalize pruN id b = id2 at *
      generalize mapN (fun z => pruN z b) (L.take j) = Xj at *
      go_upto_region 8 with fail
      have BX := Lib.hid (box2 wr 75 (.int .i64 id) (.int .i64 ct))
      have BA := Lib.hid ((Below.refl wr.heap.size wr).alloc (Nat.le_refl _) (.cells #[.int .i64 id, .int .i64 ct] 75))
      have OB := Lib.hid (own_below OO.out BA.out)
      have XB := Lib.hid (own_below (own_below I0.out.s BB.out) BA.out)
      have LT := Lib.hid (fun g hg => (World.ownsRow.lt OO.out g hg).2)
      clear x0 x1 x2 hzx e0 e1
      generalize wr.alloc (.cells #[.int .i64 id, .int .i64 ct] 75) = W1 at *
      obtain ⟨x0, x1, x2, _, _, _, hzx⟩ := tri_all XB.out
      obtain ⟨b0, b1, bf0, bf1, hbz⟩ := box_cells BX.out
      go_upto_region 9 with (go_at_call 42; refine (GC.out _).mono ?_; rintro e w2 ⟨rfl, rfl⟩)
      have ST := Lib.hid (World.ownsRow.stored BX.out 0 (.int .i64 id2)).1
      have KS := Lib.hid (Kp.setCell W1 ⟨wr.heap.size, 0, none⟩ (.int .i64 id2))
      have OS := Lib.hid (own_kp OB.out KS.out fun g e f => by have := LT.out g e; simp only at f; omega)
      have BS : Hid (Below W0.heap.size W0 (W1.setCell ⟨wr.heap.size, 0, none⟩ (.int .i64 id2))) := (BB.out.trans (BA.out.mono BB.out.size)).setCell (p := ⟨wr.heap.size, 0, none⟩) BB.out.size _
      clear x0 x1 x2 hzx b0 b1 bf0 bf1 hbz XB
      generalize W1.setCell ⟨wr.heap.size, 0, none⟩ (.int .i64 id2) = W2 at *
      obtain ⟨b0, b1, _, _, hbz⟩ := box_cells ST.out
      go_wp2_with (at_builtin; refine wpList_append_own _ rfl (.tmp 46) (.tmp 48) 33 rfl W0.heap.size 75 i0 (.agg #[.int .i64 0, .int .i64 0]) 2 16 Tryz.underlying33 hi hz0 hz1 hz2 rfl (by decide) u6 Xj.length (nods Xj) rfl (World.ownsRow.alloc OS.out _) ⟨W2.heap.size, 0, none⟩ 1 1 [.int .i64 id2, .int .i64 ct] rfl rfl (two_new _ _ _ _ _ rfl) (two_cell _ _) (by have := XL.out; unfold maxLen; omega) (by have := XL.out; omega) (by have := BS.out.size; simp; omega) ?_)
      intro v' w3 hown2 hgrow _
      have hb3 : Below W0.heap.size W0 w3 := (BS.out.alloc BS.out.size _).grown hgrow (by have := BS.out.size; simp; omega) (fun g hg => (World.ownsRow.lt OS.out g hg).1)
      have HO2 := Lib.hid (ownNd_snoc hown2)
      clear hown2 hgrow
      go_wp2_with fail
      go_roundw
      case rel => exact ⟨j + 1, by omega, by go_num, by rw [TK.out]; exact HO2.out, hb3⟩
      case measure => simp [intOf]; omega
    · obtain rfl : j = n := by omega
      rw [List.take_of_length_le (by have := HL.out; omega)] at OO
      have FD := Lib.hid (ownNd_nodes OO.out)
      obtain ⟨A4, m4, c4, hv4⟩ := own_slice OO.out
      subst hv4
      have M4 := Lib.hid (nodes_cells FD.out).1
      have RB := Lib.hid (own_below I0.out.r BB.out)
      have B5 := Lib.hid (BB.out.alloc BB.out.size (.cells #[.int .i64 k0, .int .i64 0, .slice none 0 0] 37))
      have T5 := Lib.hid (tri_nw wr 37 (.int .i64 k0) (.int .i64 0) (.slice none 0 0))
      have BA := Lib.hid ((Below.refl wr.heap.size wr).alloc (Nat.le_refl _) (.cells #[.int .i64 k0, .int .i64 0, .slice none 0 0] 37))
      have F5 := Lib.hid (FD.out.below BA.out)
      have R5 := Lib.hid (own_below RB.out BA.out)
      have WZ := Lib.hid BB.out.size
      have X5 := Lib.hid (own_below (own_below I0.out.s BB.out) BA.out)
      clear hlt hb
      obtain ⟨t0, t1, t2, tf0, tf1, tf2, ht⟩ := tri_all T5.out
      go_upto_region 11 with fail
      clear x0 x1 x2 hzx
      have LT := Lib.hid (fun g hg => (World.ownsRow.lt OO.out g hg).2)
      have O5 := Lib.hid (own_below OO.out BA.out)
      have W5z := Lib.hid (Nat.le_trans WZ.out BA.out.size)
      generalize wr.alloc (.cells #[.int .i64 k0, .int .i64 0, .slice none 0 0] 37) = W5 at *
      obtain ⟨x0, x1, x2, _, _, _, hzx⟩ := tri_all X5.out
      go_upto_region 12 with fail
      have S6 := Lib.hid (World.ownsRow.stored T5.out 1 (.int .i64 (b))).1
      have K6 := Lib.hid (Kp.setCell W5 ⟨wr.heap.size, 1, none⟩ (.int .i64 (b)))
      have O6 := Lib.hid (own_kp O5.out K6.out fun g e f => by have := LT.out g e; simp only at f; omega)
      have R6 := Lib.hid (own_kp R5.out K6.out fun g e f => by
        simp only [Value.ownBlock, Option.some.injEq] at e
        have a := (I0.out.r.lt (w.heap.size + 1) rfl).2
        have b := WZ.out
        simp only at f
        omega)
      have B6 : Hid (Below W0.heap.size W0 (W5.setCell ⟨wr.heap.size, 1, none⟩ (.int .i64 (b)))) := B5.out.setCell (p := ⟨wr.heap.size, 1, none⟩) WZ.out _
      clear x0 x1 x2 hzx t0 t1 t2 tf0 tf1 tf2 ht T5 R5 O5 X5 F5 K6 B5 BA
      generalize W5.setCell ⟨wr.heap.size, 1, none⟩ (.int .i64 (b)) = W6 at *
      have FO := Lib.hid ((rFold_own A4 m4 c4 _ W6 (ownNd_nodes O6.out) XR.out.2 (by have a := M4.out; have b := HL.out; simp [mapN] at a; omega)).mono (fun _ _ q => foldO_is_yes XR.out.1 q))
      obtain ⟨t0, t1, t2, tf0, tf1, tf2, ht⟩ := tri_all S6.out
      go_wp2_with fail
      refine FO.out.mono ?_
      rintro e w7 ⟨F, A7, c7, rfl, hF, ho7, hb7⟩
      obtain rfl : F = F0 := by rw [hWX.out]; exact fold_gat PM.out hF
      have S7 := Lib.hid (own_below S6.out hb7)
      have R7 := Lib.hid (own_below R6.out hb7)
      have B7 := Lib.hid (B6.out.trans (hb7.mono B6.out.size))
      have T8 := Lib.hid (rc_set1 S7.out (.slice A7 F.length c7))
      have R8 := Lib.hid (T8.out.2.2.2 _ _ _ _ _ _ (by
        simp only [Value.ownBlock, ne_eq, Option.some.injEq]
        have a := (I0.out.r.lt (w.heap.size + 1) rfl).2
        have b := WZ.out
        omega) R7.out)
      have T9 := Lib.hid (tri_set R8.out (.int .i64 k0) (.int .i64 (b)) (.slice A7 F.length c7))
      have O9 := Lib.hid (ownNd_nodes (T9.out.2.1 _ _ _ _ _ _ (by decide) (T8.out.2.1 _ _ _ _ _ _ (by decide) ho7)))
      have B9 := Lib.hid (((I0.out.b.trans (B7.out.mono I0.out.b.size)).trans ((T8.out.2.2.1.mono (Nat.le_trans I0.out.b.size WZ.out)))).trans T9.out.2.2.1)
      clear t0 t1 t2 tf0 tf1 tf2 ht hF ho7 hb7
      obtain ⟨t0, t1, t2, tf0, tf1, tf2, ht⟩ := tri_all S7.out
      obtain ⟨v0, v1, v2, _, _, _, _⟩ := tri_all T8.out.1
      obtain ⟨z0, z1, z2, zf0, zf1, zf2, hzz⟩ := tri_all R8.out
      obtain ⟨q0, q1, q2⟩ := set_three R8.out (.int .i64 k0) (.int .i64 (b)) (.slice A7 F.length c7)
      go_wp2_with fail
      exact bodyPost_ret (v := .tuple #[.agg #[.int .i64 k0, .int .i64 (b), .slice A7 F.length c7], .int .i64 0]) (by simp [results, Tryz.results16, go_sem, q0, q1, q2]) rfl ⟨A7, F.length, c7, rfl, O9.out, B9.out⟩

end Go.Proofs.YtachfeclgdgbiaaGreat
