/- The walk of the statement BoundHolds of layer bound, over the project's contracts: for every input it returns true, and nothing that was there before is changed. -/
import Derived.Test.YtkoefclkpdpdpaaGreatBoLaw
import Derived.Test.YtkoefclkpdpdpaaGreatBoNum2
import Derived.Test.YtkoefclkpdpdpaaGreatBoRk
import Derived.Test.YtkoefclkpdpdpaaGreatDgS
import Derived.Test.YtkoefclkpdpdpaaGreatBlL
import Derived.Test.YtkoefclkpdpdpaaGreatBgR
import Derived.Test.YtkoefclkpdpdpaaGreatMmy
import Derived.Test.YtkoefclkpdpdpaaGreatOpQ
import Derived.BigQuiet
import Derived.Deep.Cut
import Derived.Deep.RegionHeld3
namespace Go.Proofs.YtkoefclkpdpdpaaGreat
set_option linter.unusedVariables false
set_option maxRecDepth 100000
open Go.RowKit

theorem bo_getD_of {T : List Nd} {n : Nd} (h : n ∈ T) : ∃ j, j < T.length ∧ T.getD j nz = n := by
  obtain ⟨k, hk, e⟩ := List.getElem_of_mem h
  exact ⟨k, hk, by rw [List.getD_eq_getElem?_getD, List.getElem?_eq_getElem hk]; exact e⟩
/-- what is told of a digest is around what it stands for -/
theorem bo_around {l k : Int} {L T : List Nd} (v : DgV l k L) (s : DgS l L T) (hT : 0 < T.length) :
    (¬ sumC L = 0 ∧ 1 ≤ sumC T) ∧ (boMn (loN l) L ≤ (T.getD 0 nz).1 ∧ (T.getD 0 nz).1 ≤ boMn (hiN l) L ∧ boMx (loN l) L ≤ (T.getD (T.length - 1) nz).1 ∧ (T.getD (T.length - 1) nz).1 ≤ boMx (hiN l) L)
    ∧ (spL l L ≤ (T.getD (T.length - 1) nz).1 - (T.getD 0 nz).1 ∧ (T.getD (T.length - 1) nz).1 - (T.getD 0 nz).1 ≤ spH l L) ∧ (woF l L L).2 ≤ slackN l k L ∧ (∀ y, highR l L y - lowR l L y ≤ (woF l L L).2)
    ∧ (meL l L ≤ suF (fun v => v) T / sumC T ∧ suF (fun v => v) T / sumC T ≤ meH l L) := by
  have g := s.bag.good
  have gT : ∀ n ∈ T, 1 ≤ n.2 := fun n hn => by have := g.pos n hn; omega
  have gL : ∀ n ∈ L, 1 ≤ n.2 := fun n hn => by have := (roll_good v.roll).pos n hn; omega
  have m0 : T.getD 0 nz ∈ T := nd_mem hT
  have ml : T.getD (T.length - 1) nz ∈ T := nd_mem (by omega)
  have sT : 1 ≤ sumC T := by have a := gT _ m0; have b := sumC_mem (good_nonneg g) m0; omega
  have st := s.std.tot
  have hne : L ≠ [] := fun e => by rw [e] at st; simp only [sumC] at st; omega
  have a1 : ∀ n ∈ T, (T.getD 0 nz).1 ≤ n.1 := fun n hn => by
    obtain ⟨j, hj, e⟩ := bo_getD_of hn
    rcases Nat.eq_zero_or_pos j with q | q
    · rw [← e, q]; exact Int.le_refl _
    · have := good_get g q hj; rw [e] at this; omega
  have b1 : ∀ n ∈ T, n.1 ≤ (T.getD (T.length - 1) nz).1 := fun n hn => by
    obtain ⟨j, hj, e⟩ := bo_getD_of hn
    rcases Nat.lt_or_ge j (T.length - 1) with q | q
    · have := good_get g q (by omega); rw [e] at this; omega
    · rw [← e, show j = T.length - 1 by omega]; exact Int.le_refl _
  have bs := bo_stand s.std v.roll s.bag gL gT hne a1 ⟨_, m0, rfl⟩ b1 ⟨_, ml, rfl⟩
  have w := wo_is v.roll
  have me := bo_mean s.std v.roll s.bag sT
  have ab := a1 _ ml
  refine ⟨⟨by omega, sT⟩, bs, ⟨?_, by unfold spH; omega⟩, ?_, fun y => w.most y, me.1, ?_⟩
  · unfold spL; split <;> omega
  · have sb := slack_bd v
    rw [← w.at']
    exact (rank_gap (y := (woF l L L).1) v.roll sb.1 v.light).2
  · refine Int.le_trans me.2 ?_
    unfold meH; split <;> omega
theorem bo_sums {l : Int} {T : List Nd} (h : BagC l T) : 0 ≤ suF (fun v => v) T ∧ suF (fun v => v) T < 9223372036854775808 * sumC T ∨ sumC T = 0 := by
  have e : ∀ n ∈ T, 0 ≤ n.1 ∧ n.1 ≤ 281474976710656 := fun n hn => by
    have v := h.val n hn
    have p48 : (2 : Int) ^ l.toNat ≤ 281474976710656 := two_le l.toNat 48 (by have := h.uni; omega)
    unfold ValC at v; omega
  have s := suF_bd (fun v => v) (good_nonneg h.good) e
  have n := sumC_nonneg (good_nonneg h.good)
  omega
set_option maxHeartbeats 12800000 in
theorem walk_boundHoldsK (KE : BoE) (KM : BoM) (KW : BoW) (KH : RnkLH) (KS : RnkS) (s : SideX) (y : Int) (A0 : -9223372036854775808 ≤ y) (A1 : y ≤ 9223372036854775807) (w : World) (hs : SideG w s) :
    Calls Tryz.prog 6 #[.agg #[.int .i64 s.l, .int .i64 s.k, .int .i64 s.kd, .slice s.A s.n s.c], .int .i64 y] w fun e w' => e = .returned (.bool true) ∧ Below w.heap.size w w' := by
  obtain ⟨l, k, kd, A, n, c, O⟩ := s
  obtain ⟨⟨L0, L1⟩, ⟨K0, K1⟩, _, hp, hob, _⟩ := hs
  simp only at hp hob L0 L1 K0 K1 ⊢
  have HB0 : Hid (Below w.heap.size w (w.alloc (.cells #[.int .i64 l, .int .i64 k, .int .i64 kd, .slice A n c] 65))) := (Below.refl _ _).alloc (Nat.le_refl _) _
  have X0 := Lib.hid (quad_new w 65 (.int .i64 l) (.int .i64 k) (.int .i64 kd) (.slice A n c))
  have P0 := Lib.hid (hp.below HB0.out)
  have OB := Lib.hid hob
  have PE := Lib.hid KE
  have PM := Lib.hid KM
  have PW := Lib.hid KW
  have PH := Lib.hid KH
  have PS := Lib.hid KS
  have AL := Lib.hid (fun v => boAlive_any KE KM KW v)
  have RB := Lib.hid (And.intro A0 A1)
  obtain ⟨x0, x1, x2, x3, _, _, _, _, hz⟩ := quad_all X0.out
  clear hp hob KE KM KW KH KS A0 A1
  rcases (show 120 < n ∨ (¬ 120 < n ∧ kd = 1 ∧ 10 < l) ∨ ((¬ 120 < n ∧ kd = 1 ∧ ¬ 10 < l) ∨ (¬ 120 < n ∧ ¬ kd = 1)) by omega) with hn | ⟨hn, h1, h2⟩ | hh
  · have g0 : decide (120 < (n : Int)) = true := decide_eq_true (by omega)
    clear hn
    go_enter Tryz.func6, Tryz.ntmps6
    go_wp2_with (go_at_call 9; refine (AL.out _).mono ?_; rintro e v7 ⟨rfl, hbv7⟩)
    go_ret
    exact ⟨rfl, HB0.out.trans (hbv7.mono HB0.out.size)⟩
  · have g0 : decide (120 < (n : Int)) = false := decide_eq_false (by omega)
    have g1 : (kd == 1) = true := beq_iff_eq.2 h1
    have g2 : decide (10 < l) = true := decide_eq_true h2
    clear hn h1 h2
    go_enter Tryz.func6, Tryz.ntmps6
    go_wp2_with (go_at_call 9; refine (AL.out _).mono ?_; rintro e v7 ⟨rfl, hbv7⟩)
    go_ret
    exact ⟨rfl, HB0.out.trans (hbv7.mono HB0.out.size)⟩
  · have g0 : decide (120 < (n : Int)) = false := decide_eq_false (by omega)
    have gg : (kd == 1) = true ∧ decide (10 < l) = false ∨ (kd == 1) = false := by
      rcases hh with ⟨_, h1, h2⟩ | ⟨_, h1⟩
      · exact .inl ⟨beq_iff_eq.2 h1, decide_eq_false h2⟩
      · exact .inr (beq_eq_false_iff_ne.2 h1)
    have hn : ¬ 120 < n := by omega
    clear hh
    go_enter Tryz.func6, Tryz.ntmps6
    go_upto_region 1 with fail
    generalize w.alloc (.cells #[.int .i64 l, .int .i64 k, .int .i64 kd, .slice A n c] 65) = W at *
    go_cut [41] (fun s41 wx => s41 = .bool false ∧ wx = W)
    case first =>
      rcases gg with ⟨g1, g2⟩ | g1
      · go_wp2_with fail
        go_meet
        exact ⟨rfl, rfl⟩
      · go_wp2_with fail
        go_meet
        exact ⟨rfl, rfl⟩
    case rest =>
      obtain ⟨rfl, rfl⟩ := hcut
      obtain ⟨W, hW⟩ : ∃ W : World, W = wc := ⟨_, rfl⟩
      subst hW
      clear gg g0
      by_cases hc : kIs k = true ∧ isP kd l = true
      · have MD := Lib.hid (dgMade_any l k kd A n c O _ P0.out OB.out (by omega) hc)
        have HN := Lib.hid (show n ≤ 120 by omega)
        clear hc hn
        go_wp2_with fail
        refine MD.out.mono ?_
        rintro e w1 ⟨q, p, g, h, T, A2, m2, c2, rfl, hd, hv, hlen, hds, hb1⟩
        generalize dgOf l k O = L at *
        have hba : Below w1.heap.size w1 (w1.alloc (.cells #[.int .i64 l, .slice A2 m2 c2] 68)) := (Below.refl _ _).alloc (Nat.le_refl _) _
        have B2 := Lib.hid (HB0.out.trans ((hb1.trans (hba.mono hb1.size)).mono HB0.out.size))
        have D2 := Lib.hid (hd.below hba)
        have V2 := Lib.hid (hv.below hba)
        have Y2 := Lib.hid (box2 w1 68 (.int .i64 l) (.slice A2 m2 c2))
        have ML : Hid (m2 = T.length ∧ m2 ≤ 120) := by have := (nodes_cells hv).1; have := HN.out; exact ⟨by omega, by omega⟩
        have DS := Lib.hid hds
        have PN : ∀ w, (binOp .eql 27 (.pointer (some ⟨q, 0, none⟩)) (.pointer none)).run Tryz.prog w = .ok (.bool false) w := fun _ => by kernel_rfl
        clear hd hv hlen hds hb1 hba MD x0 x1 x2 x3 hz X0 P0
        go_upto_region 4 with fail
        generalize hg2 : w1.heap.size = g2 at *
        generalize w1.alloc (.cells #[.int .i64 l, .slice A2 m2 c2] 68) = W2 at *
        clear hg2
        obtain ⟨y0, y1, _, _, hy⟩ := box_cells Y2.out
        by_cases hm : m2 = 0
        · have g5 : ((m2 : Int) == 0) = true := beq_iff_eq.2 (by omega)
          clear hm
          go_wp2_with (go_at_call 9; refine (AL.out _).mono ?_; rintro e v7 ⟨rfl, hbv7⟩)
          go_ret
          exact ⟨rfl, B2.out.trans (hbv7.mono B2.out.size)⟩
        · have g5 : ((m2 : Int) == 0) = false := beq_eq_false_iff_ne.2 (by omega)
          have ml := ML.out
          have ht : 0 < T.length := by omega
          have rl := D2.out.v.roll
          obtain ⟨⟨z0, z3⟩, ⟨o1, o2, o3, o4⟩, ⟨o5, o6⟩, o7, o8, o9, o10⟩ := bo_around D2.out.v DS.out ht
          obtain ⟨zE, zV⟩ := bo_yes z0
          have o8y := o8 y
          have ab : (T.getD 0 nz).1 ≤ (T.getD (m2 - 1) nz).1 ∧ 0 ≤ (T.getD 0 nz).1 ∧ (T.getD (m2 - 1) nz).1 ≤ 281474976710656 := by
            have v0 := DS.out.bag.val _ (nd_mem (L := T) (k := 0) ht)
            have v1 := DS.out.bag.val _ (nd_mem (L := T) (k := m2 - 1) (by omega))
            have p48 : (2 : Int) ^ l.toNat ≤ 281474976710656 := two_le l.toNat 48 (by have := DS.out.bag.uni; omega)
            unfold ValC at v0 v1
            refine ⟨?_, v0.2.2.1, by omega⟩
            rcases Nat.eq_zero_or_pos (m2 - 1) with q | q
            · rw [q]; exact Int.le_refl _
            · have := good_get DS.out.bag.good q (by omega); omega
          have lb := low_bd rl y
          have hb := high_bd rl y
          have P1 := Lib.hid (fun v (hv : Below W2.heap.size W2 v) => PE.out.least v (D2.out.below hv) (by have := HN.out; omega))
          have P2 := Lib.hid (fun v (hv : Below W2.heap.size W2 v) => PE.out.greatest v (D2.out.below hv) (by have := HN.out; omega))
          have P3 := Lib.hid (fun v (hv : Below W2.heap.size W2 v) => PE.out.spread v (D2.out.below hv) (by have := HN.out; omega))
          have P4 := Lib.hid (fun v (hv : Below W2.heap.size W2 v) => PM.out.mean v (D2.out.below hv) (by have := HN.out; omega))
          have P5 := Lib.hid (fun v (hv : Below W2.heap.size W2 v) => PW.out.worst v (D2.out.below hv) (by have := HN.out; omega))
          rw [zE, zV, zV] at P1 P2 P3 P4 P5
          have P6 := Lib.hid (fun v (hv : Below W2.heap.size W2 v) => PS.out.slack v (D2.out.below hv) (by have := HN.out; omega))
          have P7 := Lib.hid (fun v (hv : Below W2.heap.size W2 v) => PH.out.high y v (D2.out.below hv) (by have := HN.out; omega) RB.out.1 RB.out.2)
          have P8 := Lib.hid (fun v (hv : Below W2.heap.size W2 v) => PH.out.low y v (D2.out.below hv) (by have := HN.out; omega) RB.out.1 RB.out.2)
          have TT := Lib.hid (fun v (hb : Below W2.heap.size W2 v) => rgTotal_any l A2 m2 c2 T v (V2.out.below hb) (good_nonneg DS.out.bag.good) DS.out.bag.tot (by omega))
          have sb := bo_sums DS.out.bag
          have q1 : quotN (suF (fun v => v) T) (sumC T) = suF (fun v => v) T / sumC T := if_pos (by omega)
          have q3 : quotB (suF (fun v => v) T) (sumC T) = true := decide_eq_true (by omega)
          have st := DS.out.bag.tot
          have NC := Lib.hid (nodes_cells V2.out).2.2.2
          have BD := Lib.hid (fun (j : Nat) (hj : j < T.length) => (⟨DS.out.bag.val _ (nd_mem hj), DS.out.bag.good.pos _ (nd_mem hj), sumC_mem (good_nonneg DS.out.bag.good) (nd_mem hj)⟩ : ValC l (T.getD j nz).1 ∧ 0 < (T.getD j nz).2 ∧ (T.getD j nz).2 ≤ sumC T))
          have TK := Lib.hid (fun (k : Nat) hk => suF_take (fun v => v) (L := T) (k := k) hk)
          have UNI := Lib.hid DS.out.bag.uni
          rw [← ml.1] at o3 o4 o5 o6
          clear z0 o8 zE zV rl V2 DS D2 PE PM PW PH PS HB0
          have lo0 : T.getD 0 nz ∈ T := nd_mem ht
          generalize boMn (loN l) L = a0 at *
          generalize boMn (hiN l) L = a1 at *
          generalize boMx (loN l) L = b0 at *
          generalize boMx (hiN l) L = b1 at *
          generalize spL l L = c0 at *
          generalize spH l L = c1 at *
          generalize meL l L = m0 at *
          generalize meH l L = m1 at *
          generalize (woF l L L).1 = wx at *
          generalize (woF l L L).2 = wg at *
          generalize slackN l k L = sk at *
          generalize highR l L y = hr at *
          generalize lowR l L y = lr at *
          obtain ⟨b9, o9', rfl, hin⟩ := NC.out ht
          obtain ⟨kk, hkk⟩ : ∃ kk, kk = m2 - 1 := ⟨_, rfl⟩
          have HK : Hid (kk = m2 - 1) := hkk
          rw [← hkk] at o3 o4 o5 o6 ab
          obtain ⟨e0, _⟩ := hin.2 0 ht
          obtain ⟨e1, _⟩ := hin.2 kk (by omega)
          have E0 := Lib.hid e0
          have E1 := Lib.hid e1
          have HB9 : Hid (b9 < W2.heap.size) := hin.1
          have HIN := Lib.hid hin
          clear hkk hin e0 e1 lo0 NC
          generalize hlo : (T.getD 0 nz).1 = lo at *
          generalize hhi : (T.getD kk nz).1 = hi at *
          clear hlo hhi
          have d1 : decide (lo < a0) = false := decide_eq_false (by omega)
          have d2 : decide (a1 < lo) = false := decide_eq_false (by omega)
          have d3 : decide (hi < b0) = false := decide_eq_false (by omega)
          have d4 : decide (b1 < hi) = false := decide_eq_false (by omega)
          have d5 : decide (hi - lo < c0) = false := decide_eq_false (by omega)
          have d6 : decide (c1 < hi - lo) = false := decide_eq_false (by omega)
          have d7 : decide (sk < wg) = false := decide_eq_false (by omega)
          have d8 : decide (wg < hr - lr) = false := decide_eq_false (by omega)
          have wr1 : IntKind.i64.wrap (hi - lo) = hi - lo := wrap_lit rfl (by omega) (by omega)
          have wr2 : IntKind.i64.wrap (hr - lr) = hr - lr := wrap_lit rfl (by omega) (by omega)
          have DD := Lib.hid (And.intro (And.intro (And.intro d1 d2) (And.intro d3 d4)) (And.intro (And.intro d5 d6) (And.intro (And.intro d7 d8) (And.intro wr1 wr2))))
          have QQ := Lib.hid (And.intro q1 (And.intro q3 (And.intro o9 o10)))
          have SS := Lib.hid (And.intro z3 (And.intro st sb))
          have MM := Lib.hid ml
          have HT : Hid (0 < T.length) := ht
          clear d1 d2 d3 d4 d5 d6 d7 d8 wr1 wr2 q1 q3 o9 o10 z3 st sb ml ht o1 o2 o3 o4 o5 o6 o7 o8y ab lb hb
          go_wp2_with fail
          refine (P1.out _ (Below.refl _ _)).mono ?_
          rintro e u1 ⟨rfl, hu1⟩
          have hv1 := hu1.alloc hu1.size (.cells #[.int .i64 a0, .int .i64 a1] 36)
          have V1 := Lib.hid hv1
          have K1 := Lib.hid (own_below Y2.out hv1)
          have N1 := Lib.hid (box2 u1 36 (.int .i64 a0) (.int .i64 a1))
          clear hu1 hv1 P1 y0 y1 hy Y2
          go_upto_region 7 with fail
          generalize hg3 : u1.heap.size = g3 at *
          generalize u1.alloc (.cells #[.int .i64 a0, .int .i64 a1] 36) = U1 at *
          clear hg3
          go_wp2_with fail
          refine (P2.out _ V1.out).mono ?_
          rintro e u2 ⟨rfl, hu2⟩
          have hv2 := hu2.alloc hu2.size (.cells #[.int .i64 b0, .int .i64 b1] 36)
          have V2 := Lib.hid (re_next V1.out hv2)
          have K2 := Lib.hid (own_below K1.out hv2)
          have N2 := Lib.hid (own_below N1.out hv2)
          have O2 := Lib.hid (box2 u2 36 (.int .i64 b0) (.int .i64 b1))
          clear hu2 hv2 P2 K1 N1 V1
          go_upto_region 8 with fail
          generalize hg4 : u2.heap.size = g4 at *
          generalize u2.alloc (.cells #[.int .i64 b0, .int .i64 b1] 36) = U2 at *
          clear hg4
          go_wp2_with fail
          refine (P3.out _ V2.out).mono ?_
          rintro e u3 ⟨rfl, hu3⟩
          have hv3 := hu3.alloc hu3.size (.cells #[.int .i64 c0, .int .i64 c1] 36)
          have V3 := Lib.hid (re_next V2.out hv3)
          have K3 := Lib.hid (own_below K2.out hv3)
          have N3 := Lib.hid (own_below N2.out hv3)
          have O3 := Lib.hid (own_below O2.out hv3)
          have Q3 := Lib.hid (box2 u3 36 (.int .i64 c0) (.int .i64 c1))
          clear hu3 hv3 P3 K2 N2 O2 V2
          go_upto_region 9 with fail
          generalize hg5 : u3.heap.size = g5' at *
          generalize u3.alloc (.cells #[.int .i64 c0, .int .i64 c1] 36) = U3 at *
          clear hg5
          go_wp2_with fail
          refine (P4.out _ V3.out).mono ?_
          rintro e u4 ⟨rfl, hu4⟩
          have hv4 := hu4.alloc hu4.size (.cells #[.int .i64 m0, .int .i64 m1] 36)
          have V4 := Lib.hid (re_next V3.out hv4)
          have K4 := Lib.hid (own_below K3.out hv4)
          have N4 := Lib.hid (own_below N3.out hv4)
          have O4 := Lib.hid (own_below O3.out hv4)
          have Q4 := Lib.hid (own_below Q3.out hv4)
          have R4 := Lib.hid (box2 u4 36 (.int .i64 m0) (.int .i64 m1))
          clear hu4 hv4 P4 K3 N3 O3 Q3 V3
          go_upto_region 10 with fail
          generalize hg6 : u4.heap.size = g6 at *
          generalize u4.alloc (.cells #[.int .i64 m0, .int .i64 m1] 36) = U4 at *
          clear hg6
          go_wp2_with fail
          refine (P5.out _ V4.out).mono ?_
          rintro e U5 ⟨rfl, hu5⟩
          have V5 := Lib.hid (re_next V4.out hu5)
          have K5 := Lib.hid (own_below K4.out hu5)
          have N5 := Lib.hid (own_below N4.out hu5)
          have O5 := Lib.hid (own_below O4.out hu5)
          have Q5 := Lib.hid (own_below Q4.out hu5)
          have R5 := Lib.hid (own_below R4.out hu5)
          clear hu5 P5 K4 N4 O4 Q4 R4 V4
          go_upto_region 13 with fail
          obtain ⟨y0, y1, _, _, hy⟩ := box_cells K5.out
          have e0 : U5.cell? ⟨b9, o9', none⟩ = some (.int .i64 lo) := (V5.out.cell (p := ⟨b9, o9', none⟩) HB9.out).trans (by have := E0.out; simpa using this)
          have e1 : U5.cell? ⟨b9, o9' + kk * 2, none⟩ = some (.int .i64 hi) := (V5.out.cell (p := ⟨b9, o9' + kk * 2, none⟩) HB9.out).trans E1.out
          have k0 : (0 : Int) ≤ (kk : Int) := Int.natCast_nonneg _
          have k1 : (kk : Int) < (m2 : Int) := by have := HK.out; have := MM.out; have := HT.out; omega
          have k2 : (0 : Int) < (m2 : Int) := by omega
          have k3 : wrap64 ((m2 : Int) - 1) = (kk : Int) := by rw [IntWalk.wrap64_in _ (by have := MM.out; omega)]; have := HK.out; omega
          have k4 : IntKind.i64.wrap ((m2 : Int) - 1) = (kk : Int) := by rw [wrap_lit rfl (by omega) (by have := MM.out; omega)]; have := HK.out; omega
          go_quiet (fail)
          generalize hwq : World.drewN U5 _ = U6
          have BQ : Hid (Below U5.heap.size U5 U6) := by rw [← hwq]; exact drewN_below (Below.refl _ _) _
          have V6 := Lib.hid (re_next V5.out BQ.out)
          have K6 := Lib.hid (own_below K5.out BQ.out)
          have N6 := Lib.hid (own_below N5.out BQ.out)
          have O6 := Lib.hid (own_below O5.out BQ.out)
          have Q6 := Lib.hid (own_below Q5.out BQ.out)
          have R6 := Lib.hid (own_below R5.out BQ.out)
          clear y0 y1 hy e0 e1 k0 k1 k2 k3 k4 hwq BQ K5 N5 O5 Q5 R5 V5 E0 E1
          obtain ⟨⟨⟨d1, d2⟩, d3, d4⟩, ⟨d5, d6⟩, ⟨d7, d8⟩, wr1, wr2⟩ := DD.out
          obtain ⟨n0, n1', _, _, hn⟩ := box_cells N6.out
          obtain ⟨p0, p1, _, _, hp⟩ := box_cells O6.out
          obtain ⟨r0, r1, _, _, hr'⟩ := box_cells Q6.out
          go_upto_region 16 with (first
            | (go_at_call 26; refine (P6.out _ V6.out).mono ?_; rintro e U7 ⟨rfl, h7⟩)
            | (go_at_call 27; refine (P7.out _ (re_next V6.out h7)).mono ?_; rintro e U8 ⟨rfl, h8⟩)
            | (go_at_call 28; refine (P8.out _ (re_next (re_next V6.out h7) h8)).mono ?_; rintro e U9 ⟨rfl, h9⟩))
          have V9 := Lib.hid (re_next (re_next (re_next V6.out h7) h8) h9)
          have K9 := Lib.hid (own_below (own_below (own_below K6.out h7) h8) h9)
          have R9 := Lib.hid (own_below (own_below (own_below R6.out h7) h8) h9)
          clear h7 h8 h9 P6 P7 P8 V6 K6 N6 O6 Q6 R6 d1 d2 d3 d4 d5 d6 d7 d8 wr1 wr2 DD n0 n1' hn p0 p1 hp r0 r1 hr'
          obtain ⟨y0, y1, _, _, hy⟩ := box_cells K9.out
          go_wp2_with fail
          clear y0 y1 hy
          go_loopw [20, 176] (fun v i wr => ∃ (q : List Int) (m : Nat), m ≤ m2 ∧ i = .int .i64 m ∧ Hid (Seg wr v q) ∧ Hid (Dig q) ∧ q.length ≤ 21 + m ∧ Hid (dv q = suF (fun v => v) (T.take m)) ∧ Hid (Below U9.heap.size U9 wr)) (fun _ i _ => m2 - (intOf i).toNat)
          case atStart => exact ⟨[], 0, by omega, rfl, Lib.hid (seg_nil _), Lib.hid dig_nil, by simp, rfl, Lib.hid (Below.refl _ _)⟩
          case round =>
            obtain ⟨q, m, hm, rfl, SO, DO, LO, VO, BW⟩ := hrel
            have m120 : m ≤ 120 := by have := MM.out; omega
            by_cases hlt : m < m2
            · have hk2 : m < T.length := by have := MM.out; omega
              obtain ⟨e0, e1⟩ := HIN.out.2 m hk2
              have BX := V9.out.trans (BW.out.mono V9.out.size)
              replace e0 := (BX.cell (p := ⟨b9, o9' + m * 2, none⟩) HB9.out).trans e0
              replace e1 := (BX.cell (p := ⟨b9, o9' + m * 2 + 1, none⟩) HB9.out).trans e1
              have hbw : b9 < wr.heap.size := Nat.lt_of_lt_of_le HB9.out BX.size
              have ST := Lib.hid (TK.out m hk2)
              obtain ⟨bv, bp, bs⟩ := BD.out m hk2
              have st := SS.out.2.1
              have p48 : (2 : Int) ^ l.toNat ≤ 281474976710656 := two_le l.toNat 48 (by have := UNI.out; omega)
              clear BX
              generalize (T.getD m nz).1 = x at *
              generalize (T.getD m nz).2 = ct at *
              generalize suF (fun v => v) (T.take m) = s1 at *
              generalize hs2 : suF (fun v => v) (T.take (m + 1)) = s2 at *
              have HS := Lib.hid hs2
              unfold ValC at bv
              have xb : 0 ≤ x ∧ x ≤ 9223372036854775807 := by omega
              have cb : 0 ≤ ct ∧ ct ≤ 9223372036854775807 := by omega
              clear hs2 bv bp bs st p48
              have k0 : (0 : Int) ≤ (m : Int) := Int.natCast_nonneg _
              have k1 : (m : Int) < (m2 : Int) := by omega
              have DG1 := Lib.hid (fun v => digits_any x v xb.1 xb.2)
              have DG2 := Lib.hid (fun v => digits_any ct v cb.1 cb.2)
              have FIN : Hid (s2 = s1 + x * ct) := ST.out
              have hva := (Below.refl wr.heap.size wr).alloc (Nat.le_refl _) (.cells #[.int .i64 x, .int .i64 ct] 72)
              have SQ := Lib.hid (seg_below SO.out hva)
              have BWn := Lib.hid (BW.out.trans (hva.mono BW.out.size))
              have NA := Lib.hid (box2 wr 72 (.int .i64 x) (.int .i64 ct))
              clear ST hva SO BW
              go_upto_region 20 with fail
              clear e0 e1 hbw
              generalize wr.heap.size = ga at *
              generalize wr.alloc (.cells #[.int .i64 x, .int .i64 ct] 72) = Wn at *
              obtain ⟨n0, n1', _, _, hn⟩ := box_cells NA.out
              have HP : Hid (ga < Wn.heap.size) := hn
              clear hn
              go_region_held3 (fun w' => w'.cell? ⟨ga, 0, none⟩ = some (.int .i64 x) ∧ w'.cell? ⟨ga, 1, none⟩ = some (.int .i64 ct) ∧ Below Wn.heap.size Wn w')
                (first | assumption | (exact held2 (by assumption) G4 HP.out HP.out) | (exact held2 (by assumption) G3 HP.out HP.out) | (exact held2 (by assumption) G2 HP.out HP.out) | (exact held2 (by assumption) G1 HP.out HP.out) | (exact ⟨n0, n1', below_drew _⟩))
                (first
                  | ((with_reducible refine (DG1.out _).mono ?_); rintro e v1 ⟨t1, l1, rfl, S1, D1, V1, L1, G1⟩)
                  | ((with_reducible refine (DG2.out _).mono ?_); rintro e v2 ⟨t2, l2, rfl, S2, D2, V2, L2, G2⟩)
                  | ((with_reducible refine (times_any _ _ l1 l2 7 _ (seg_below S1 G2) S2 D1 D2 L1 L2 (by omega)).mono ?_); rintro e v3 ⟨t3, l3, rfl, S3, D3, V3, L3, G3⟩)
                  | ((with_reducible refine (sum_any _ _ q l3 (21 + m) _ (seg_below SQ.out (held2B (by assumption))) S3 DO.out D3 LO (by omega) (by omega)).mono ?_); rintro e v4 ⟨t4, l4, rfl, S4, D4, V4, L4, G4⟩))
              rename_i hH
              have BF := Lib.hid (BWn.out.trans (hH.2.2.mono BWn.out.size))
              have VF : Hid (dv l4 = s2) := by
                show _ = _
                rw [V4, V3, V1, V2, VO.out]
                exact FIN.out.symm
              clear V1 V2 V3 V4 hH
              go_wp2_with fail
              go_roundw
              case rel => exact ⟨l4, m + 1, by omega, by go_num, Lib.hid S4, Lib.hid D4, by omega, (by rw [HS.out]; exact VF), BF⟩
              case measure => simp [intOf]; omega
            · obtain rfl : m = m2 := by omega
              have e : T.take m = T := List.take_of_length_le (by have := MM.out; omega)
              rw [e] at VO
              have VW := Lib.hid (re_next V9.out BW.out)
              have KW := Lib.hid (own_below K9.out BW.out)
              have RW := Lib.hid (own_below R9.out BW.out)
              have TTw := Lib.hid (TT.out wr VW.out)
              obtain ⟨q1, q3, o9, o10⟩ := QQ.out
              obtain ⟨z3, st, _⟩ := SS.out
              have QU := Lib.hid (fun (v : World) (hb : Below wr.heap.size wr v) => quot_any _ q (sumC T) v (seg_below SO.out hb) DO.out (by omega) z3 (by omega))
              rw [VO.out] at QU
              unfold IsQuot at QU
              rw [q1, q3] at QU
              have dq1 : decide (m0 ≤ suF (fun v => v) T / sumC T) = true := decide_eq_true o9
              have dq2 : decide (suF (fun v => v) T / sumC T ≤ m1) = true := decide_eq_true o10
              have DQ := Lib.hid (And.intro dq1 dq2)
              clear e q1 q3 o9 o10 z3 st QQ SS TT VO SO BW V9 K9 R9 BD TK
              generalize suF (fun v => v) T / sumC T = qq at *
              generalize quotR (suF (fun v => v) T) (sumC T) = qr at *
              generalize sumC T = sc at *
              obtain ⟨y0, y1, _, _, hy⟩ := box_cells KW.out
              go_wp2_with fail
              refine TTw.out.mono ?_
              rintro e v1 ⟨rfl, hb1⟩
              have RV := Lib.hid (own_below RW.out hb1)
              have B1 := Lib.hid (B2.out.trans ((re_next VW.out hb1).mono B2.out.size))
              have QU1 := Lib.hid (QU.out v1 hb1)
              clear hb1 TTw y0 y1 hy QU LO hlt hm dq1 dq2 KW RW VW
              go_wp2_with fail
              refine QU1.out.mono ?_
              rintro e v2 ⟨rfl, hb2⟩
              have RX := Lib.hid (own_below RV.out hb2)
              have B3 := Lib.hid (re_next B1.out hb2)
              obtain ⟨t0, t1, _, _, ht1⟩ := box_cells RX.out
              clear hb2 QU1
              obtain ⟨dq1, dq2⟩ := DQ.out
              go_wp2_with (go_at_call 9; refine (AL.out _).mono ?_; rintro e v7 ⟨rfl, hbv7⟩)
              go_ret
              exact ⟨rfl, re_next B3.out hbv7⟩
      · have MD := Lib.hid (dgMade_no l k kd A n c W hc L0 L1)
        clear hc hn
        go_wp2_with fail
        refine MD.out.mono ?_
        rintro e w1 ⟨rfl, hb1⟩
        have B1 := Lib.hid (HB0.out.trans (hb1.mono HB0.out.size))
        have B2 := Lib.hid (B1.out.alloc B1.out.size (.cells #[.int .i64 0, .slice none 0 0] 68))
        clear hb1 MD x0 x1 x2 x3 hz
        go_wp2_with (go_at_call 9; refine (AL.out _).mono ?_; rintro e v7 ⟨rfl, hbv7⟩)
        go_ret
        exact ⟨rfl, B2.out.trans (hbv7.mono B2.out.size)⟩

end Go.Proofs.YtkoefclkpdpdpaaGreat
