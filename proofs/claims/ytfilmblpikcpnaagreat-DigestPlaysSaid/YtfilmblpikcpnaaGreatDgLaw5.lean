/- The walk of the statement DigestPlays of layer digest: for every input it returns true, and nothing that was there before is changed. -/
import Derived.Test.YtfilmblpikcpnaaGreatDgLaw2
import Derived.Test.YtfilmblpikcpnaaGreatDgRef5
import Derived.Test.YtfilmblpikcpnaaGreatDrQ
namespace Go.Proofs.YtfilmblpikcpnaaGreat
set_option linter.unusedVariables false
set_option maxRecDepth 100000
open Go.RowKit

/-- what Few tells: if it is so, there are not many calls -/
def FewPost (n : Nat) (w : World) (e : Ending) (w' : World) : Prop := ∃ b, e = .returned (.bool b) ∧ (b = true → n ≤ 60) ∧ Below w.heap.size w w'
theorem few_post {n : Nat} {w w' : World} (b : Bool) (h : b = true → n ≤ 60) (hb : Below w.heap.size w w') : FewPost n w (.returned (.bool b)) w' := ⟨b, rfl, h, hb⟩
set_option maxHeartbeats 3200000 in
theorem dgFew_any (l k kd : Int) (n : Nat) (w : World) (hc : kIs k = true ∧ isP kd l = true) :
    Calls Tryz.prog 12 #[.agg #[.int .i64 l, .int .i64 k, .int .i64 kd], .int .i64 (n : Int)] w (FewPost n w) := by
  have HB0 : Hid (Below w.heap.size w (w.alloc (.cells #[.int .i64 l, .int .i64 k, .int .i64 kd] 23))) := (Below.refl _ _).alloc (Nat.le_refl _) _
  have X0 := Lib.hid (tri_nw w 23 (.int .i64 l) (.int .i64 k) (.int .i64 kd))
  obtain ⟨x0, x1, x2, _, _, _, hz⟩ := tri_all X0.out
  have IS := Lib.hid (fun w => rDgIs_any l k kd w)
  rw [hc.1, hc.2] at IS
  clear hc
  by_cases hn : n ≤ 60
  · have g0 : decide ((n : Int) ≤ 60) = true := decide_eq_true (by omega)
    have HN : Hid (n ≤ 60) := hn
    clear hn
    cases g1 : decide (k ≤ 50) <;> cases g2 : decide (wrap64 (l * k) ≤ 50) <;> cases g3 : (kd == 2) <;> cases g4 : decide (l ≤ 10)
    all_goals
      go_enter Tryz.func12, Tryz.ntmps12
      go_wp2_with fail
      generalize w.alloc (.cells #[.int .i64 l, .int .i64 k, .int .i64 kd] 23) = W at *
      refine (IS.out _).mono ?_
      rintro e w1 ⟨rfl, hb1⟩
      obtain ⟨x0, x1, x2, _, _, _, hz⟩ := tri_all (own_below X0.out hb1)
      have B1 := Lib.hid (HB0.out.trans (hb1.mono HB0.out.size))
      clear hb1
      go_wp2_with fail
      go_ret
      exact few_post _ (fun _ => HN.out) B1.out
  · have g0 : decide ((n : Int) ≤ 60) = false := decide_eq_false (by omega)
    clear hn
    go_enter Tryz.func12, Tryz.ntmps12
    go_wp2_with fail
    go_ret
    exact few_post false (by simp) HB0.out
set_option maxHeartbeats 6400000 in
theorem walk_digestPlays (l k kd : Int) (A : Option Addr) (n c : Nat) (O : List Pl) (L0 : -9223372036854775808 ≤ l) (L1 : l ≤ 9223372036854775807) (K0 : -9223372036854775808 ≤ k) (K1 : k ≤ 9223372036854775807) (D0 : -9223372036854775808 ≤ kd) (D1 : kd ≤ 9223372036854775807) (OB : OBds O) (m1 : n ≤ 9223372036854775807)
    (w : World) (H1 : PlacedAt w (.slice A n c) O) :
    Calls Tryz.prog 3 #[.agg #[.int .i64 l, .int .i64 k, .int .i64 kd], .slice A n c] w fun e w' => e = .returned (.bool true) ∧ Below w.heap.size w w' := by
  have HB0 : Hid (Below w.heap.size w (w.alloc (.cells #[.int .i64 l, .int .i64 k, .int .i64 kd] 23))) := (Below.refl _ _).alloc (Nat.le_refl _) _
  have X0 := Lib.hid (tri_nw w 23 (.int .i64 l) (.int .i64 k) (.int .i64 kd))
  obtain ⟨x0, x1, x2, _, _, _, hz⟩ := tri_all X0.out
  have HL := Lib.hid (placed_cells H1).1
  have HA := Lib.hid (placed_cells H1).2.2.2
  have HB := Lib.hid OB
  have Z0 : Hid ((w.alloc (.cells #[.int .i64 l, .int .i64 k, .int .i64 kd] 23)).heap.size = w.heap.size + 1) := by show _ = _; simp
  have IS := Lib.hid (fun w => rDgIs_any l k kd w)
  clear H1 OB K0 K1 D0 D1
  by_cases hc : kIs k = true ∧ isP kd l = true
  · have NW := Lib.hid (fun w => dgNew_ok kd l k w hc.1 hc.2)
    have FW := Lib.hid (fun w => dgFew_any l k kd n w hc)
    have RN := Lib.hid (fun w => rDgNew_any l k kd w)
    rw [hc.1, hc.2] at IS
    clear hc L0 L1
    go_enter Tryz.func3, Tryz.ntmps3
    go_wp2_with fail
    generalize w.alloc (.cells #[.int .i64 l, .int .i64 k, .int .i64 kd] 23) = W at *
    refine (NW.out _).mono ?_
    rintro e w1 ⟨hb1, q, p, g, h, rfl, hd⟩
    have X1 := Lib.hid (own_below X0.out hb1)
    have D1 : Hid (DgA w1 (w.heap.size + 1) q p g h kd l k 0 []) := hd.low (by have := Z0.out; omega)
    have B1 := Lib.hid (HB0.out.trans (hb1.mono HB0.out.size))
    obtain ⟨x0, x1, x2, _, _, _, hz⟩ := tri_all X1.out
    clear hb1 hd NW
    go_wp2_with fail
    refine (IS.out _).mono ?_
    rintro e w2 ⟨rfl, hb2⟩
    have X2 := Lib.hid (own_below X1.out hb2)
    have D2 := Lib.hid (D1.out.below hb2)
    have B2 := Lib.hid (B1.out.trans (hb2.mono B1.out.size))
    obtain ⟨x0, x1, x2, _, _, _, hz⟩ := tri_all X2.out
    clear hb2 IS
    go_wp2_with fail
    refine (FW.out _).mono ?_
    rintro e w3 ⟨b, rfl, hbn, hb3⟩
    have X3 := Lib.hid (own_below X2.out hb3)
    have D3 := Lib.hid (D2.out.below hb3)
    have B3 := Lib.hid (B2.out.trans (hb3.mono B2.out.size))
    obtain ⟨x0, x1, x2, _, _, _, hz⟩ := tri_all X3.out
    clear hb3 FW
    cases b
    · clear hbn
      go_wp2_with (go_at_call 11; refine (dgAlive_any _).mono ?_; rintro e v7 ⟨rfl, hbv7⟩)
      go_ret
      exact ⟨rfl, B3.out.trans (hbv7.mono B3.out.size)⟩
    · have hn : n ≤ 60 := hbn rfl
      clear hbn
      go_wp2_with fail
      refine (RN.out _).mono ?_
      rintro e w4 ⟨rfl, hb4⟩
      have hba : Below w4.heap.size w4 (w4.alloc (.cells #[.int .i64 k, .int .i64 l, .slice none 0 0] 36)) := (Below.refl _ _).alloc (Nat.le_refl _) _
      have X4 := Lib.hid (own_below X3.out hb4)
      have D4 := Lib.hid (D3.out.below hb4)
      have B4 := Lib.hid (B3.out.trans (hb4.mono B3.out.size))
      have hz4 := B4.out.size
      have NQ : Hid (∀ i, dgF q p g h i → i ≠ w4.heap.size) := fun i f => by have := (D4.out.lt i f).2; omega
      clear hb4
      go_wp2_with fail
      go_loopw [45] (fun i wr => ∃ (j : Nat) (L : List Nd) (p g h : Nat) (A2 : Option Addr) (m2 c2 : Nat), j ≤ n ∧ i = .int .i64 j ∧ DgA wr (w.heap.size + 1) q p g h kd l k j L ∧
        wr.ownsRow w.heap.size 23 3 (.slice (some ⟨w.heap.size, 0, none⟩) 1 1) 1 [.int .i64 l, .int .i64 k, .int .i64 kd] ∧
        wr.ownsRow w.heap.size 36 3 (.slice (some ⟨w4.heap.size, 0, none⟩) 1 1) 1 [.int .i64 k, .int .i64 l, .slice A2 m2 c2] ∧
        OwnNd 74 wr 0 (.slice A2 m2 c2) L ∧ (∀ i, dgF q p g h i → i ≠ w4.heap.size) ∧ (∀ i, dgF q p g h i → (Value.slice A2 m2 c2).ownBlock ≠ some i) ∧ Below w.heap.size w wr) (fun i _ => n - (intOf i).toNat)
      case atStart => exact ⟨0, [], p, g, h, none, 0, 0, by omega, rfl, D4.out.below hba, own_below X4.out hba, own_low (tri_nw ..) hz4, ownNd_nil .., NQ.out, fun i _ => by simp [Value.ownBlock], B4.out.trans (hba.mono hz4)⟩
      case round =>
        rename_i wr
        obtain ⟨j, L, p, g, h, A2, m2, c2, hj, rfl, hd, hcb, hwb, hown, hnq, hne, hb⟩ := hrel
        have DD := Lib.hid hd
        have CB := Lib.hid hcb
        have WB := Lib.hid hwb
        have OWN := Lib.hid hown
        have BB := Lib.hid hb
        have NQ2 := Lib.hid hnq
        have NE := Lib.hid hne
        have ML := Lib.hid (nodes_cells (ownNd_nodes hown)).1
        have hlk := hd.po.len
        have hzr := hb.size
        obtain ⟨q0, q1, q2, _, _, _, hq⟩ := tri_all hwb
        clear hd hcb hwb hown hnq hne
        by_cases hlt : j < n
        · have hk2 : j < O.length := by have := HL.out; omega
          obtain ⟨bq, o, rfl, hin⟩ := HA.out (by have := HL.out; omega)
          obtain ⟨e0, e1, e2⟩ := (hin.below hb hin.1).2 j hk2
          have hbd := obds_at HB.out hk2
          obtain ⟨_, ⟨b2, b3⟩, b4, b5⟩ := hbd
          have hbl := hin.1
          clear hin hb
          generalize O.getD j plz = r at *
          obtain ⟨⟨kq, id⟩, cc⟩ := r
          simp only at e0 e1 e2 b2 b3 b4 b5
          have hba : Below wr.heap.size wr (wr.alloc (.cells #[.int .i64 kq, .int .i64 id, .int .i64 cc] 39)) := (Below.refl _ _).alloc (Nat.le_refl _) _
          have RD := Lib.hid (rDgDo_any l k kq id cc A2 m2 c2 L _ (own_below OWN.out hba) DD.out.v (by have := ML.out; omega) b2 b3 b4 b5)
          have TR := Lib.hid (tri_nw wr 39 (.int .i64 kq) (.int .i64 id) (.int .i64 cc))
          have DD1 := Lib.hid (DD.out.below hba)
          have CB1 := Lib.hid (own_below CB.out hba)
          have WB1 := Lib.hid (own_below WB.out hba)
          have BB1 := Lib.hid (BB.out.trans (hba.mono hzr))
          have hzq : Hid ((wr.alloc (.cells #[.int .i64 kq, .int .i64 id, .int .i64 cc] 39)).heap.size = wr.heap.size + 1) := by show _ = _; simp
          clear hba
          go_wp2_with fail
          generalize wr.alloc (.cells #[.int .i64 kq, .int .i64 id, .int .i64 cc] 39) = W1 at *
          refine RD.out.mono ?_
          rintro e w5 ⟨A3, m3, c3, rfl, ho3, hb5, hnb⟩
          have NE3 : Hid (∀ i, dgF q p g h i → (Value.slice A3 m3 c3).ownBlock ≠ some i) := fun i f e => by
            rcases hnb with z | z
            · exact NE.out i f (by rw [← z]; exact e)
            · have := z i e
              have := (DD1.out.lt i f).2
              omega
          have TR5 := Lib.hid (own_below TR.out hb5)
          have WB5 := Lib.hid (own_below WB1.out hb5)
          have BB5 := Lib.hid (BB1.out.trans (hb5.mono BB1.out.size))
          have T := Lib.hid (tri_set WB5.out (.int .i64 k) (.int .i64 l) (.slice A3 m3 c3))
          have DD5 := Lib.hid (DD1.out.below hb5)
          have KS : Hid (Kp (fun i => i = w4.heap.size) w5 (((w5.setCell ⟨w4.heap.size, 0, none⟩ (.int .i64 k)).setCell ⟨w4.heap.size, 1, none⟩ (.int .i64 l)).setCell ⟨w4.heap.size, 2, none⟩ (.slice A3 m3 c3))) :=
            ((Kp.setCell w5 ⟨w4.heap.size, 0, none⟩ (.int .i64 k)).trans (Kp.setCell _ ⟨w4.heap.size, 1, none⟩ (.int .i64 l)) (fun _ _ z => z)).trans (Kp.setCell _ ⟨w4.heap.size, 2, none⟩ (.slice A3 m3 c3)) (fun _ _ z => z)
          have DD6 := Lib.hid (DD5.out.kp KS.out fun i e f => NQ2.out i f e)
          have CB6 := Lib.hid (T.out.2.1 _ _ _ _ _ _ (by decide) (own_below CB1.out hb5))
          have TR6 := Lib.hid (T.out.2.1 _ _ _ _ _ _ (by decide) TR5.out)
          have OW6 := Lib.hid (T.out.2.1 _ _ _ _ _ _ (by decide) ho3)
          have WB6 := Lib.hid T.out.1
          have BB6 := Lib.hid (BB5.out.trans T.out.2.2.1)
          obtain ⟨y0, y1, y2, f0, f1, f2, hy⟩ := tri_all WB5.out
          obtain ⟨t0, t1, t2, _, _, _, ht⟩ := tri_all TR6.out
          have hwz : wr.heap.size < w5.heap.size := (TR5.out.lt _ rfl).2
          clear ho3 hb5 hnb q0 q1 q2 e0 e1 e2 RD TR5 WB5 T KS DD5
          go_wp2_with fail
          generalize hV : ((w5.setCell ⟨w4.heap.size, 0, none⟩ (.int .i64 k)).setCell ⟨w4.heap.size, 1, none⟩ (.int .i64 l)).setCell ⟨w4.heap.size, 2, none⟩ (.slice A3 m3 c3) = V at *
          clear hV
          have hba : Below V.heap.size V (V.alloc (.cells #[.int .i64 k, .int .i64 l, .slice A3 m3 c3] 36)) := (Below.refl _ _).alloc (Nat.le_refl _) _
          have DD7 := Lib.hid (DD6.out.below hba)
          have CB7 := Lib.hid (own_below CB6.out hba)
          have WB7 := Lib.hid (own_below WB6.out hba)
          have OW7 := Lib.hid (own_below OW6.out hba)
          have BB7 := Lib.hid (BB6.out.trans (hba.mono BB6.out.size))
          clear hba
          generalize V.alloc (.cells #[.int .i64 k, .int .i64 l, .slice A3 m3 c3] 36) = V2 at *
          refine (dgLdo_any kq id cc V2 DD7.out (by omega) b2 b3 b4 b5).mono ?_
          rintro e w8 ⟨rfl, p', g', h', hd8, hk8, hn8⟩
          have DD8 := Lib.hid hd8
          have CB8 := Lib.hid (own_kp CB7.out hk8 fun i e f => by
            simp only [Value.ownBlock, Option.some.injEq] at e
            have := (DD7.out.lt i f).1
            omega)
          have WB8 := Lib.hid (own_kp WB7.out hk8 fun i e f => by
            simp only [Value.ownBlock, Option.some.injEq] at e
            exact NQ2.out i f e.symm)
          have OW8 := Lib.hid (own_kp OW7.out hk8 fun i e f => NE3.out i f e)
          have BB8 : Hid (Below w.heap.size w w8) := BB7.out.trans (hk8.below (fun i _ f => by have := (DD7.out.lt i f).1; omega) BB7.out.size)
          have NQ8 : Hid (∀ i, dgF q p' g' h' i → i ≠ w4.heap.size) := fun i f => by
            rcases hn8 i f with z | z
            · exact NQ2.out i z
            · have := (WB7.out.lt w4.heap.size rfl).2
              omega
          have NE8 : Hid (∀ i, dgF q p' g' h' i → (Value.slice A3 m3 c3).ownBlock ≠ some i) := fun i f e => by
            rcases hn8 i f with z | z
            · exact NE3.out i z e
            · have := (World.ownsRow.lt OW7.out i e).2
              omega
          have LK := Lib.hid (dgLike_any A3 m3 c3 w8 DD8.out (by omega) (ownNd_nodes OW8.out))
          obtain ⟨x0, x1, x2, _, _, _, hx⟩ := tri_all CB8.out
          obtain ⟨y0, y1, y2, _, _, _, hy⟩ := tri_all WB8.out
          obtain ⟨L', hL'⟩ : ∃ x, x = dgDo l k L kq id cc := ⟨_, rfl⟩
          rw [← hL'] at DD8 OW8
          clear hL' hd8 hk8 hn8 f0 f1 f2 t0 t1 t2 ht
          generalize dgTell l k L kq id cc = tt at *
          go_wp2_with fail
          refine LK.out.mono ?_
          rintro e w9 ⟨rfl, hb9⟩
          have P1 := Lib.hid (DD8.out.below hb9)
          have P2 := Lib.hid (own_below CB8.out hb9)
          have P3 := Lib.hid (own_below WB8.out hb9)
          have P4 := Lib.hid (own_below OW8.out hb9)
          have P5 := Lib.hid (BB8.out.trans (hb9.mono BB8.out.size))
          clear hb9 x0 x1 x2 y0 y1 y2
          go_wp2_with fail
          go_roundw
          case rel => exact ⟨j + 1, L', p', g', h', A3, m3, c3, by omega, by go_num, P1.out, P2.out, P3.out, P4.out, NQ8.out, NE8.out, P5.out⟩
          case measure => simp [intOf]; omega
        · go_wp2_with (go_at_call 11; refine (dgAlive_any _).mono ?_; rintro e w9 ⟨rfl, hb9⟩)
          go_ret
          exact ⟨rfl, BB.out.trans (hb9.mono BB.out.size)⟩
  · have NW := Lib.hid (fun w => dgNew_no kd l k w hc L0 L1)
    have hf : (kIs k && isP kd l) = false := by
      rw [Bool.and_eq_false_iff]
      rcases Classical.em (kIs k = true) with q | q
      · exact .inr (Bool.eq_false_iff.2 fun z => hc ⟨q, z⟩)
      · exact .inl (Bool.eq_false_iff.2 q)
    rw [hf] at IS
    clear hc hf
    go_enter Tryz.func3, Tryz.ntmps3
    go_wp2_with fail
    generalize w.alloc (.cells #[.int .i64 l, .int .i64 k, .int .i64 kd] 23) = W at *
    refine (NW.out _).mono ?_
    rintro e w1 ⟨rfl, hb1⟩
    have B1 := Lib.hid (HB0.out.trans (hb1.mono HB0.out.size))
    obtain ⟨x0, x1, x2, _, _, _, hz⟩ := tri_all (own_below X0.out hb1)
    clear hb1 NW
    go_wp2_with (first
      | (go_at_call 10; refine (IS.out _).mono ?_; rintro e w2 ⟨rfl, hb2⟩)
      | (go_at_call 11; refine (dgAlive_any _).mono ?_; rintro e v7 ⟨rfl, hbv7⟩))
    go_ret
    have c2 := B1.out.trans (hb2.mono B1.out.size)
    exact ⟨rfl, c2.trans (hbv7.mono c2.size)⟩

end Go.Proofs.YtfilmblpikcpnaaGreat
