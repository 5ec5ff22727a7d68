/- The project's package rank: what weighs up to values, put together and looked up. -/
import Derived.Test.YtfmgcabgbnfjlaaGreatRnkSrt
import Derived.Test.YtfmgcabgbnfjlaaGreatBgQ
import Derived.Test.YtfmgcabgbnfjlaaGreatRk
import Derived.Deep.Cut
import Derived.Deep.DeepCutAuto
namespace Go.Proofs.YtfmgcabgbnfjlaaGreat
set_option linter.unusedVariables false
set_option maxRecDepth 100000
open Go.RowKit

theorem rk_box (w : World) (v u : Value) (t t' : TypeId) (q : Nat) : (((w.alloc (.cells #[v] t)).alloc (.cells #[u] t')).drewN q).cell? ⟨w.heap.size, 0, none⟩ = some v := by
  show ((w.alloc (.cells #[v] t)).alloc (.cells #[u] t')).cell? ⟨w.heap.size, 0, none⟩ = some v
  exact (World.cell?_alloc_lt _ _ _ (by simp)).trans (by simp)
theorem rnkAt1_any (Ns Nx i : Nat) (x : Int) {A : Option Addr} {n c : Nat} {S : List Nd} (w : World) (h : NodesAt w (.slice A n c) S) (hg : Good S) (hi : i < n) (e0 : w.cell? ⟨Ns, 0, none⟩ = some (.slice A n c)) (e1 : w.cell? ⟨Nx, 0, none⟩ = some (.int .i64 x)) :
    Calls Tryz.prog 53 #[.int .i64 (i : Int), .pointer (some ⟨Ns, 0, none⟩), .pointer (some ⟨Nx, 0, none⟩)] w fun e w' => e = .returned (.bool (decide (leN S x ≤ i))) ∧ ∃ q, w' = w.drewN q := by
  have hl := (nodes_cells h).1
  obtain ⟨b, o, rfl, hin⟩ := (nodes_cells h).2.2.2 (by omega)
  have hk : i < S.length := by omega
  obtain ⟨f0, f1⟩ := hin.2 i hk
  rw [← le_at hg x hk]
  have hi0 : (0 : Int) ≤ (i : Int) := Int.natCast_nonneg _
  have hi1 : (i : Int) < (n : Int) := by omega
  clear h hl hin hg hk
  generalize S.getD i nz = r at *
  obtain ⟨r1, r2⟩ := r
  simp only at f0 f1
  go_enter Tryz.func53, Tryz.ntmps53
  go_wp2_with fail
  go_quiet (fail)
  go_wp2_with fail
  go_ret
  exact ⟨rfl, _, rfl⟩
theorem rnkAt_find (x : Int) {A : Option Addr} {n c : Nat} {S : List Nd} (w : World) (hN : NodesAt w (.slice A n c) S) (hG : Good S) (hn : n ≤ 1000000) :
    Calls Tryz.prog 52 #[.int .i64 (n : Int), .func (.func 53) #[] #[.pointer (some ⟨w.heap.size, 0, none⟩), .pointer (some ⟨w.heap.size + 1, 0, none⟩)]] ((w.alloc (.cells #[.slice A n c] 72)).alloc (.cells #[.int .i64 x] 3)) fun e w' => e = .returned (.int .i64 (leN S x : Int)) ∧ ∃ q, w' = ((w.alloc (.cells #[.slice A n c] 72)).alloc (.cells #[.int .i64 x] 3)).drewN q := by
  have hb0 : Below w.heap.size w ((w.alloc (.cells #[.slice A n c] 72)).alloc (.cells #[.int .i64 x] 3)) := ((Below.refl _ _).alloc (Nat.le_refl _) _).alloc (by simp) _
  have hm := (nodes_cells hN).1
  have hlt : leN S x ≤ n := by have := le_le S x; omega
  refine search_any 53 _ n (leN S x) hlt hn _ (fun _ _ => by kernel_rfl) fun m k hk => ?_
  have hw : Below ((w.alloc (.cells #[.slice A n c] 72)).alloc (.cells #[.int .i64 x] 3)).heap.size ((w.alloc (.cells #[.slice A n c] 72)).alloc (.cells #[.int .i64 x] 3)) (((w.alloc (.cells #[.slice A n c] 72)).alloc (.cells #[.int .i64 x] 3)).drewN m) := drewN_below (Below.refl _ _) m
  refine (rnkAt1_any w.heap.size (w.heap.size + 1) k x _ ((hN.below hb0).below hw) hG hk ?_ ?_).mono fun e w' ⟨e1, q, e2⟩ => ⟨e1, m + q, ?_⟩
  · exact (hw.cell (p := ⟨w.heap.size, 0, none⟩) (by simp; omega)).trans (by simp)
  · exact (hw.cell (p := ⟨w.heap.size + 1, 0, none⟩) (by simp)).trans (by simp)
  · rw [e2]; exact World.drewN_drewN _ _ _
set_option maxHeartbeats 800000 in
theorem rnkAt_any (x : Int) {A : Option Addr} {n c : Nat} {S : List Nd} (w : World) (hN : NodesAt w (.slice A n c) S) (hG : Good S) (hn : n ≤ 1000000) :
    Calls Tryz.prog 27 #[.slice A n c, .int .i64 x] w fun e w' => e = .returned (.int .i64 (rkAt S x)) ∧ Below w.heap.size w w' := by
  have hb0 : Below w.heap.size w ((w.alloc (.cells #[.slice A n c] 72)).alloc (.cells #[.int .i64 x] 3)) := ((Below.refl _ _).alloc (Nat.le_refl _) _).alloc (by simp) _
  have SE := Lib.hid (rnkAt_find x w hN hG hn)
  have HB := Lib.hid hb0
  have hm := (nodes_cells hN).1
  have hlt : leN S x ≤ n := by have := le_le S x; omega
  have X0 : Hid (∀ q, (((w.alloc (.cells #[.slice A n c] 72)).alloc (.cells #[.int .i64 x] 3)).drewN q).cell? ⟨w.heap.size, 0, none⟩ = some (.slice A n c)) := fun q => rk_box w _ _ _ _ q
  have NN : Hid (∀ q, NodesAt (((w.alloc (.cells #[.slice A n c] 72)).alloc (.cells #[.int .i64 x] 3)).drewN q) (.slice A n c) S) := fun q => (hN.below hb0).below (drewN_below (Below.refl _ _) q)
  have RK : Hid (rkAt S x = if leN S x = 0 then 0 else (S.getD (leN S x - 1) nz).2) := rfl
  generalize rkAt S x = R at *
  generalize leN S x = t at *
  have HM := Lib.hid hm
  clear hb0 hG hm hN
  rcases t with _ | k
  · have hR : R = 0 := by rw [RK.out, if_pos rfl]
    subst hR
    go_enter Tryz.func27, Tryz.ntmps27
    go_wp2_with fail
    refine SE.out.mono ?_
    rintro e w1 ⟨rfl, q, rfl⟩
    go_wp2_with fail
    go_ret
    exact ⟨rfl, drewN_below HB.out q⟩
  · have hR : R = (S.getD k nz).2 := by rw [RK.out, if_neg (by omega)]; rfl
    have SE2 : Hid _ := SE
    rw [show ((k + 1 : Nat) : Int) = (k : Int) + 1 by omega] at SE2
    have HR := Lib.hid hR
    clear hR
    have hk : k < S.length := by have := HM.out; omega
    have hkn : k < n := by omega
    have k0 : (0 : Int) ≤ (k : Int) := Int.natCast_nonneg _
    have k1 : (k : Int) < (n : Int) := by omega
    have z1 : ((k : Int) + 1 == 0) = false := by rw [beq_eq_false_iff_ne]; omega
    clear SE RK hlt
    go_enter Tryz.func27, Tryz.ntmps27
    go_wp2_with (go_at_call 52; refine SE2.out.mono ?_; rintro e w1 ⟨rfl, q, rfl⟩; have c0 := X0.out q; obtain ⟨b, o, rfl, hin⟩ := (nodes_cells (NN.out q)).2.2.2 (by have := HM.out; omega); obtain ⟨_, f1⟩ := hin.2 k hk; rw [← HR.out] at f1)
    go_ret
    exact ⟨rfl, drewN_below HB.out q⟩
theorem upto_info : (Tryz.prog.info? 75).map (fun i => (i.zero, i.size, i.bytes)) = some (some (.agg #[.int .i64 0, .int .i64 0]), 2, 16) := by kernel_rfl
/-- sums of what the values weigh -/
def RnkSums (v : Value) (T : List Nd) (w : World) (e : Ending) (w' : World) : Prop :=
  ∃ A m c S, e = .returned (.slice A m c) ∧ OwnNd 75 w' w.heap.size (.slice A m c) S ∧ SumI T S ∧ S.length ≤ T.length ∧ Kp (fun k => v.ownBlock = some k) w w'
set_option maxHeartbeats 6400000 in
theorem rnkAdded_any {B : Nat} {v : Value} {T : List Nd} (w : World) (o : OwnNd 75 w B v T) (hp : ∀ n ∈ T, 1 ≤ n.2) (hb : NBds T) (ht : sumC T ≤ 72057594037927935) (hl : T.length ≤ 400) :
    Calls Tryz.prog 26 #[v] w (RnkSums v T w) := by
  obtain ⟨A, n, c, rfl⟩ := ownNd_slice o
  obtain ⟨i0, hi, hz0, hz1, hz2⟩ := info_parts upto_info
  have SO := Lib.hid (rnkSort_any w o (by omega))
  have HN := Lib.hid (nodes_cells (ownNd_nodes o)).1
  have n4 : n ≤ 400 := by have := HN.out; omega
  have HP := Lib.hid (And.intro hp (And.intro hb ht))
  clear o hp hb ht
  go_enter Tryz.func26, Tryz.ntmps26
  go_wp2_with (go_at_call 49; refine SO.out.mono ?_; rintro e w1 ⟨rfl, T', pm, asc, hN, kp⟩)
  have HL : Hid (T'.length = n) := by show _ = _; have := pm.length_eq; have := HN.out; omega
  have NA := Lib.hid (nodes_cells hN).2.2.2
  have P1 : Hid (∀ m ∈ T', 1 ≤ m.2) := fun m hm => HP.out.1 m (pm.mem_iff.1 hm)
  have NB := Lib.hid (nbds_perm pm HP.out.2.1)
  have NN : NonNeg T' := fun m hm => by have := P1.out m hm; omega
  have BD : Hid (∀ j, 0 ≤ sumC (T'.take j) ∧ sumC (T'.take j) ≤ 72057594037927935) := fun j => by
    have a := sum_take_le NN j
    have b := sumC_perm pm
    have c := HP.out.2.2
    exact ⟨sumC_nonneg fun m hm => NN m (List.mem_of_mem_take hm), by omega⟩
  have AS := Lib.hid asc
  have KP := Lib.hid kp
  have PM := Lib.hid pm
  clear pm asc hN kp NN SO
  go_loopw [3, 4, 12] (fun s x i wr => ∃ (j : Nat) (S : List Nd), j ≤ n ∧ i = .int .i64 j ∧ x = .int .i64 (sumC (T'.take j)) ∧ OwnNd 75 wr w1.heap.size s S ∧ SumI (T'.take j) S ∧ S.length ≤ j ∧ Below w1.heap.size w1 wr) (fun _ _ i _ => n - (intOf i).toNat)
  case atStart => exact ⟨0, [], by omega, rfl, rfl, ownNd_nil .., SumI.nil, by simp, Below.refl _ _⟩
  case round =>
    obtain ⟨j, S, hj, rfl, rfl, ho, hS, hlen, hbw⟩ := hrel
    obtain ⟨A2, m, c2, rfl⟩ := ownNd_slice ho
    have MS := Lib.hid (nodes_cells (ownNd_nodes ho)).1
    have OO := Lib.hid ho
    have SS := Lib.hid hS
    have BW := Lib.hid hbw
    have SL := Lib.hid hlen
    by_cases hlt : j < n
    · have hjl : j < T'.length := by have := HL.out; omega
      obtain ⟨b, o, rfl, hin⟩ := NA.out (by omega)
      obtain ⟨e0, e1⟩ := (hin.below BW.out hin.1).2 j hjl
      have hbz : b < wr.heap.size := Nat.lt_of_lt_of_le hin.1 BW.out.size
      have ASJ := Lib.hid (asc_take AS.out hjl)
      have TK := Lib.hid (nd_take hjl)
      have st := sum_take_step hjl
      have b1 := BD.out j
      have b2 := BD.out (j + 1)
      have nb := nbds_at NB.out hjl
      have TS : Hid (sumC (T'.take j ++ [T'.getD j nz]) = sumC (T'.take (j + 1))) := by show _ = _; rw [nd_take hjl]
      clear ho hS hbw hlen hin
      obtain ⟨p, hpe⟩ : ∃ p, p = T'.getD j nz := ⟨_, rfl⟩
      rw [← hpe] at e0 e1 ASJ TK st nb TS
      obtain ⟨x, y⟩ := p
      simp only at e0 e1 ASJ st nb
      clear hpe
      generalize sumC (T'.take j) = s1 at *
      generalize hs2 : sumC (T'.take (j + 1)) = s2 at *
      have HS2 := Lib.hid hs2
      clear hs2
      have hw : IntKind.i64.wrap (s1 + y) = s2 := by rw [st]; exact wrap_lit rfl (by omega) (by omega)
      have j0 : (0 : Int) ≤ (j : Int) := Int.natCast_nonneg _
      have j1 : (j : Int) < (n : Int) := by omega
      have HB1 : Hid (Below w1.heap.size w1 (wr.alloc (.cells #[.int .i64 x, .int .i64 y] 75))) := BW.out.alloc BW.out.size _
      have OB := Lib.hid (World.ownsRow.alloc OO.out (.cells #[.int .i64 x, .int .i64 y] 75))
      have c0 : (wr.alloc (.cells #[.int .i64 x, .int .i64 y] 75)).cell? ⟨wr.heap.size, 0, none⟩ = some (.int .i64 x) := by simp
      have sl := SL.out
      have hz1' : w1.heap.size ≤ (wr.alloc (.cells #[.int .i64 x, .int .i64 y] 75)).heap.size := HB1.out.size
      have SUM : Hid (∀ S2, SumI (T'.take j ++ [(x, y)]) S2 → SumI (T'.take (j + 1)) S2) := fun S2 h => by rw [TK.out]; exact h
      have MORE : Hid ((∀ k, S.length = k + 1 → (S.getD k nz).1 ≠ x) → SumI (T'.take (j + 1)) (S ++ [(x, s2)])) := fun h => SUM.out _ (by
        have q := SS.out.more (v := (x, y)) (SS.out.lt ASJ.out h)
        rw [TS.out] at q; exact q)
      have PUT : Hid (∀ k, S.length = k + 1 → (S.getD k nz).1 = x → SumI (T'.take (j + 1)) (S.set k (x, s2))) := fun k hk e => SUM.out _ (by
        have q := SS.out.put (v := (x, y)) hk e ASJ.out
        rw [TS.out] at q; exact q)
      clear st
      rcases Nat.eq_zero_or_pos m with rfl | hmp
      · have MO := Lib.hid (MORE.out fun k h => by have := MS.out; omega)
        go_wp2_with fail
        have C0 := Lib.hid c0
        clear c0
        generalize wr.alloc (.cells #[.int .i64 x, .int .i64 y] 75) = W1 at *
        have c0 : W1.cell? ⟨wr.heap.size, 0, none⟩ = some (.int .i64 x) := C0.out
        go_quiet (fail)
        have D1 : Below W1.heap.size W1 (W1.drewN nq) := drewN_below (Below.refl _ _) nq
        have O2 := Lib.hid (own_below OB.out D1)
        have DD := Lib.hid D1
        clear D1
        go_wp2_with (at_builtin; refine wpList_append_own _ rfl _ _ 72 rfl w1.heap.size 75 i0 (.agg #[.int .i64 0, .int .i64 0]) 2 16 Tryz.underlying72 hi hz0 hz1 hz2 rfl (by decide) _ S.length (nods S) rfl (World.ownsRow.alloc O2.out _) ⟨W1.heap.size, 0, none⟩ 1 1 [.int .i64 x, .int .i64 s2] rfl rfl (two_new _ _ _ _ _ rfl) (two_cell _ _) (by unfold maxLen; omega) (by omega) (by simp; omega) ?_)
        intro v' w4 hown hgrow hnil
        have hb4 : Below w1.heap.size w1 w4 := (((HB1.out.trans (DD.out.mono HB1.out.size)).alloc (by simpa using hz1') _).grown hgrow (by simp; omega) (fun g hg => (World.ownsRow.lt OB.out g hg).1))
        have B4 := Lib.hid hb4
        have O4 := Lib.hid (ownNd_snoc hown)
        clear hown hgrow hnil hb4
        go_wp2_with fail
        go_roundw
        case rel => exact ⟨j + 1, S ++ [(x, s2)], by omega, by go_num, by rw [HS2.out], O4.out, MO.out, by simp; omega, B4.out⟩
        case measure => simp [intOf]; omega
      · obtain ⟨k, hk⟩ : ∃ k, m = k + 1 := ⟨m - 1, by omega⟩
        have hkS : Hid (S.length = k + 1) := by show _ = _; have := MS.out; omega
        have HK := Lib.hid hk
        clear hk hmp
        rcases ownNd_form OO.out with ⟨_, z⟩ | ⟨g, cap, hv, hBg, hgw, hgn, hgc, hin⟩
        · exfalso; have := hkS.out; rw [z] at this; simp at this
        · injection hv with hv1 hv2 hv3
          subst hv1 hv3
          obtain ⟨f0, f1⟩ := hin.2 k (by have := hkS.out; omega)
          simp only [Nat.zero_add] at f0 f1
          have PUTK := Lib.hid (PUT.out k hkS.out)
          have MOREK : Hid ((S.getD k nz).1 ≠ x → SumI (T'.take (j + 1)) (S ++ [(x, s2)])) := fun h => MORE.out fun k2 h2 => by
            have := hkS.out
            obtain rfl : k2 = k := by omega
            exact h
          have NPUT := Lib.hid (fun (e : (S.getD k nz).1 = x) => nods_put1 S k s2 x e)
          obtain ⟨p, hpe⟩ : ∃ p, p = S.getD k nz := ⟨_, rfl⟩
          rw [← hpe] at f0 f1 PUTK MOREK NPUT
          obtain ⟨a1, a2⟩ := p
          simp only at f0 f1 PUTK MOREK
          clear hin hv2 hpe hgn
          have k0 : (0 : Int) ≤ (k : Int) := Int.natCast_nonneg _
          have k4 : k ≤ 400 := by have := hkS.out; omega
          have k5 : (k : Int) ≤ 400 := by omega
          have k6 : (k : Int) < (m : Int) := by have := HK.out; omega
          have k7 : k < m := by have := HK.out; omega
          have m4 : m ≤ 400 := by have := HK.out; have := hkS.out; omega
          have hwk : wrap64 ((m : Int) - 1) = (k : Int) := by have := HK.out; rw [IntWalk.wrap64_in _ (by omega)]; omega
          have hwk2 : IntKind.i64.wrap ((m : Int) - 1) = (k : Int) := by have := HK.out; rw [wrap_lit rfl (by omega) (by omega)]; omega
          have f0' : (wr.alloc (.cells #[.int .i64 x, .int .i64 y] 75)).cell? ⟨g, k * 2, none⟩ = some (.int .i64 a1) := (World.cell?_alloc_lt _ _ _ hgw).trans f0
          have f1' : (wr.alloc (.cells #[.int .i64 x, .int .i64 y] 75)).cell? ⟨g, k * 2 + 1, none⟩ = some (.int .i64 a2) := (World.cell?_alloc_lt _ _ _ hgw).trans f1
          have hgw' : g < (wr.alloc (.cells #[.int .i64 x, .int .i64 y] 75)).heap.size := by simp; omega
          have C0 := Lib.hid c0
          have F1 := Lib.hid f1'
          by_cases hax : a1 = x
          · have PU := Lib.hid (PUTK.out hax)
            have NP := Lib.hid (NPUT.out hax)
            have hq : (a1 == x) = true := by rw [hax]; exact beq_self_eq_true x
            clear PUTK MOREK NPUT f0 f1 f1' c0 hax
            go_wp2_with fail
            generalize wr.alloc (.cells #[.int .i64 x, .int .i64 y] 75) = W1 at *
            have c0 : W1.cell? ⟨wr.heap.size, 0, none⟩ = some (.int .i64 x) := C0.out
            go_quiet (fail)
            have D1 : Below W1.heap.size W1 (W1.drewN nq) := drewN_below (Below.refl _ _) nq
            have DD := Lib.hid D1
            have O2 := Lib.hid (own_below OB.out D1)
            have Q2 : Hid ((W1.drewN nq).ownsRow w1.heap.size 75 2 (.slice (some ⟨g, 0, none⟩) m c2) m (nods S)) := by
              have q := O2.out
              rw [← MS.out] at q
              exact q
            have g1 : (W1.drewN nq).cell? ⟨g, k * 2 + 1, none⟩ = some (.int .i64 a2) := F1.out
            have g2 : (W1.drewN nq).frozen? ⟨g, k * 2 + 1, none⟩ = false := World.ownsRow.frozenAt Q2.out (k * 2 + 1)
            have g3 : g < (W1.drewN nq).heap.size := hgw'
            have OS : Hid (OwnNd 75 ((W1.drewN nq).setCell ⟨g, k * 2 + 1, none⟩ (.int .i64 s2)) w1.heap.size (.slice (some ⟨g, 0, none⟩) m c2) (S.set k (x, s2))) := by
              show World.ownsRow _ _ _ _ _ _ _
              rw [NP.out, List.length_set, ← MS.out]
              exact (World.ownsRow.stored Q2.out (k * 2 + 1) (.int .i64 s2)).1
            have B4 : Hid (Below w1.heap.size w1 ((W1.drewN nq).setCell ⟨g, k * 2 + 1, none⟩ (.int .i64 s2))) := (HB1.out.trans (D1.mono HB1.out.size)).setCell (p := ⟨g, k * 2 + 1, none⟩) hBg _
            have LS : Hid ((S.set k (x, s2)).length ≤ j + 1) := by show _ ≤ _; rw [List.length_set]; omega
            clear D1
            go_wp2_with fail
            go_roundw
            case rel => exact ⟨j + 1, S.set k (x, s2), by omega, by go_num, by rw [HS2.out], OS.out, PU.out, LS.out, B4.out⟩
            case measure => simp [intOf]; omega
          · have MO := Lib.hid (MOREK.out hax)
            have hq : (a1 == x) = false := beq_eq_false_iff_ne.2 hax
            clear PUTK MOREK NPUT f0 f1 f1' c0 hax
            go_wp2_with fail
            generalize wr.alloc (.cells #[.int .i64 x, .int .i64 y] 75) = W1 at *
            have c0 : W1.cell? ⟨wr.heap.size, 0, none⟩ = some (.int .i64 x) := C0.out
            go_quiet (fail)
            have D1 : Below W1.heap.size W1 (W1.drewN nq) := drewN_below (Below.refl _ _) nq
            have O2 := Lib.hid (own_below OB.out D1)
            have DD := Lib.hid D1
            clear D1
            go_wp2_with (at_builtin; refine wpList_append_own _ rfl _ _ 72 rfl w1.heap.size 75 i0 (.agg #[.int .i64 0, .int .i64 0]) 2 16 Tryz.underlying72 hi hz0 hz1 hz2 rfl (by decide) _ S.length (nods S) rfl (World.ownsRow.alloc O2.out _) ⟨W1.heap.size, 0, none⟩ 1 1 [.int .i64 x, .int .i64 s2] rfl rfl (two_new _ _ _ _ _ rfl) (two_cell _ _) (by unfold maxLen; omega) (by omega) (by simp; omega) ?_)
            intro v' w4 hown hgrow hnil
            have hb4 : Below w1.heap.size w1 w4 := (((HB1.out.trans (DD.out.mono HB1.out.size)).alloc (by simpa using hz1') _).grown hgrow (by simp; omega) (fun g hg => (World.ownsRow.lt OB.out g hg).1))
            have B4 := Lib.hid hb4
            have O4 := Lib.hid (ownNd_snoc hown)
            clear hown hgrow hnil hb4
            go_wp2_with fail
            go_roundw
            case rel => exact ⟨j + 1, S ++ [(x, s2)], by omega, by go_num, by rw [HS2.out], O4.out, MO.out, by simp; omega, B4.out⟩
            case measure => simp [intOf]; omega
    · obtain rfl : j = n := by omega
      have e : T'.take j = T' := List.take_of_length_le (by have := HL.out; omega)
      rw [e] at SS
      have R : Hid (RnkSums (.slice A j c) T w (.returned (.slice A2 m c2)) wr) := by
        refine ⟨A2, m, c2, S, rfl, own_low OO.out KP.out.size, SS.out.perm PM.out, by have := SL.out; have := HN.out; omega, ?_⟩
        exact KP.out.trans (Kp.of (F := fun k => (Value.slice A j c).ownBlock = some k) BW.out) fun k _ h => h
      clear ho hS hbw hlen e
      go_wp2_with fail
      go_ret
      exact R.out

end Go.Proofs.YtfmgcabgbnfjlaaGreat
