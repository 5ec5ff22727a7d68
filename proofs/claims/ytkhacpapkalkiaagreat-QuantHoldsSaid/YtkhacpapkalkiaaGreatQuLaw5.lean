/- The walk of the statement QuantHolds of layer quant, over the project's contracts: for every input it returns true, and nothing that was there before is changed. -/
import Derived.Test.YtkhacpapkalkiaaGreatQuLaw
import Derived.Test.YtkhacpapkalkiaaGreatDgLaw9
import Derived.Test.YtkhacpapkalkiaaGreatBlL
import Derived.Test.YtkhacpapkalkiaaGreatBgS
import Derived.Test.YtkhacpapkalkiaaGreatOpQ
import Derived.Test.YtkhacpapkalkiaaGreatSpQ
import Derived.Deep.Cut
namespace Go.Proofs.YtkhacpapkalkiaaGreat
set_option linter.unusedVariables false
set_option maxRecDepth 100000
open Go.RowKit

/-- of a rank that there is, among all that was accepted -/
theorem qu_holds {l k r : Int} {L T : List Nd} (v : DgV l k L) (s : DgS l L T) (h1 : 1 ≤ r) (h2 : r ≤ sumC L) :
    kthE T r = 0 ∧ r ≤ betN T 0 (atN l L r) ∧ betN T 0 (atN l L r - 1) < r + slackN l k L ∧ (0 ≤ fstQ l L r ∧ fstQ l L r ≤ kthV T r ∧ kthV T r ≤ atN l L r ∧ fstQ l L r ≤ atN l L r ∧ atN l L r ≤ 281474976710655) := by
  have tt : sumC L = sumC T := s.std.tot
  have ne : ¬ T = [] := fun e => by rw [tt, e] at h2; simp [sumC] at h2; omega
  have ke : kthE T r = 0 := by unfold kthE; rw [if_neg ne, if_neg (by omega)]
  have kv : kthV T r = kthN T r := by unfold kthV; rw [if_pos ke]
  have nn := good_nonneg s.bag.good
  have kl := kth_law s.bag.good (fun n hn => by have z := s.bag.val n hn; unfold ValC at z; omega) h1 (by omega)
  have q := quant_holds v s h1 h2 kl.1 fun z hz => by
    have := bet_mono (L := T) nn (x := 0) (show z ≤ kthN T r - 1 by omega)
    have := kl.2.1
    omega
  have u : 1 ≤ l ∧ l ≤ 48 := of_decide_eq_true v.roll.1
  have p : (2 : Int) ^ l.toNat ≤ 281474976710656 := two_le l.toNat 48 (by omega)
  have x := at_is v.roll h1 h2
  have f := fst_isQ v.roll h1 h2
  rw [kv]
  exact ⟨ke, q.1, q.2.1, f.2.1, q.2.2.1, q.2.2.2, fst_at v.roll h1 h2, by omega⟩
set_option maxHeartbeats 12800000 in
theorem walk_quantHoldsK (KA : QuA) (KS : QuS) (KR : QuR) (s : SideX) (r : Int) (R0 : -9223372036854775808 ≤ r) (R1 : r ≤ 9223372036854775807) (w : World) (hs : SideG w s) :
    Calls Tryz.prog 6 #[.agg #[.int .i64 s.l, .int .i64 s.k, .int .i64 s.kd, .slice s.A s.n s.c], .int .i64 r] w fun e w' => e = .returned (.bool true) ∧ Below w.heap.size w w' := by
  obtain ⟨l, k, kd, A, n, c, O⟩ := s
  obtain ⟨⟨L0, L1⟩, ⟨K0, K1⟩, _, hp, hob, _⟩ := hs
  simp only at hp hob L0 L1 K0 K1 ⊢
  have HB0 : Hid (Below w.heap.size w (w.alloc (.cells #[.int .i64 l, .int .i64 k, .int .i64 kd, .slice A n c] 56))) := (Below.refl _ _).alloc (Nat.le_refl _) _
  have X0 := Lib.hid (quad_new w 56 (.int .i64 l) (.int .i64 k) (.int .i64 kd) (.slice A n c))
  have P0 := Lib.hid (hp.below HB0.out)
  have OB := Lib.hid hob
  have PA := Lib.hid KA
  have PS := Lib.hid KS
  have AL := Lib.hid (fun v => quAlive_any KA KS KR v)
  have RB := Lib.hid (And.intro R0 R1)
  obtain ⟨x0, x1, x2, x3, _, _, _, _, hz⟩ := quad_all X0.out
  clear hp hob KA KS KR R0 R1
  rcases (show 120 < n ∨ (¬ 120 < n ∧ k < 1) ∨ (¬ 120 < n ∧ ¬ k < 1 ∧ kd = 1 ∧ 10 < l) ∨ ((¬ 120 < n ∧ ¬ k < 1 ∧ kd = 1 ∧ ¬ 10 < l) ∨ (¬ 120 < n ∧ ¬ k < 1 ∧ ¬ kd = 1)) by omega) with hn | ⟨hn, hk⟩ | ⟨hn, hk, h1, h2⟩ | hh
  · have g0 : decide (120 < (n : Int)) = true := decide_eq_true (by omega)
    clear hn
    go_enter Tryz.func6, Tryz.ntmps6
    go_wp2_with (go_at_call 11; refine (AL.out _).mono ?_; rintro e v7 ⟨rfl, hbv7⟩)
    go_ret
    exact ⟨rfl, HB0.out.trans (hbv7.mono HB0.out.size)⟩
  · have g0 : decide (120 < (n : Int)) = false := decide_eq_false (by omega)
    clear hn
    go_enter Tryz.func6, Tryz.ntmps6
    go_wp2_with (go_at_call 11; refine (AL.out _).mono ?_; rintro e v7 ⟨rfl, hbv7⟩)
    go_ret
    exact ⟨rfl, HB0.out.trans (hbv7.mono HB0.out.size)⟩
  · have g0 : decide (120 < (n : Int)) = false := decide_eq_false (by omega)
    have g1 : (kd == 1) = true := beq_iff_eq.2 h1
    have g2 : decide (10 < l) = true := decide_eq_true h2
    have g3 : decide (k < 1) = false := decide_eq_false hk
    clear hn h1 h2 hk
    go_enter Tryz.func6, Tryz.ntmps6
    go_wp2_with (go_at_call 11; refine (AL.out _).mono ?_; rintro e v7 ⟨rfl, hbv7⟩)
    go_ret
    exact ⟨rfl, HB0.out.trans (hbv7.mono HB0.out.size)⟩
  · rcases hh with ⟨hn, hk, h1, h2⟩ | ⟨hn, hk, h1⟩
    case' inl =>
      have g1 : (kd == 1) = true := beq_iff_eq.2 h1
      have g2 : decide (10 < l) = false := decide_eq_false h2
      clear h1 h2
    case' inr =>
      have g1 : (kd == 1) = false := beq_eq_false_iff_ne.2 h1
      clear h1
    all_goals
      have g0 : decide (120 < (n : Int)) = false := decide_eq_false (by omega)
      have g3 : decide (k < 1) = false := decide_eq_false hk
      by_cases hc : kIs k = true ∧ isP kd l = true
      · have MD := Lib.hid (dgMade_any l k kd A n c O _ P0.out OB.out (by omega) hc)
        have HN := Lib.hid (show n ≤ 120 by omega)
        clear hc hn
        go_enter Tryz.func6, Tryz.ntmps6
        go_wp2_with fail
        generalize w.alloc (.cells #[.int .i64 l, .int .i64 k, .int .i64 kd, .slice A n c] 56) = W at *
        refine MD.out.mono ?_
        rintro e w1 ⟨q, p, g, h, T, A2, m2, c2, rfl, hd, hv, hlen, hds, hb1⟩
        generalize dgOf l k O = L at *
        have hba : Below w1.heap.size w1 (w1.alloc (.cells #[.int .i64 l, .slice A2 m2 c2] 59)) := (Below.refl _ _).alloc (Nat.le_refl _) _
        have X2 := Lib.hid (own_below X0.out (hb1.trans (hba.mono hb1.size)))
        have B2 := Lib.hid (HB0.out.trans ((hb1.trans (hba.mono hb1.size)).mono HB0.out.size))
        have D2 := Lib.hid (hd.below hba)
        have V2 := Lib.hid (hv.below hba)
        have Y2 := Lib.hid (box2 w1 59 (.int .i64 l) (.slice A2 m2 c2))
        have ML : Hid (m2 ≤ 400000) := by have := (nodes_cells hv).1; have := HN.out; show _ ≤ _; omega
        have DS := Lib.hid hds
        have PN : ∀ w, (binOp .eql 33 (.pointer (some ⟨q, 0, none⟩)) (.pointer none)).run Tryz.prog w = .ok (.bool false) w := fun _ => by kernel_rfl
        clear hd hv hlen hds hb1 hba MD x0 x1 x2 x3 hz g0 g1
        go_upto_region 4 with fail
        generalize w1.alloc (.cells #[.int .i64 l, .slice A2 m2 c2] 59) = W2 at *
        have dv := D2.out.v
        have TT := Lib.hid (fun v (hb : Below W2.heap.size W2 v) => rgTotal_any l A2 m2 c2 T v (V2.out.below hb) (good_nonneg DS.out.bag.good) DS.out.bag.tot (by have := ML.out; omega))
        rw [← DS.out.std.tot] at TT
        have RK := Lib.hid (fun v y (hb : Below W2.heap.size W2 v) => rgRank_any l y A2 m2 c2 T v (V2.out.below hb) (good_nonneg DS.out.bag.good) DS.out.bag.tot (by have := ML.out; omega))
        have KT := Lib.hid (fun v (hb : Below W2.heap.size W2 v) => rgKth_any l r A2 m2 c2 T v (V2.out.below hb) DS.out.bag ML.out RB.out.1 RB.out.2)
        have QA := Lib.hid (fun v (hb : Below W2.heap.size W2 v) => PA.out.at_any r v (D2.out.below hb) (by have := HN.out; omega) RB.out.1 RB.out.2)
        have QS := Lib.hid (fun v (hb : Below W2.heap.size W2 v) => PS.out.span_any r v (D2.out.below hb) (by have := HN.out; omega) RB.out.1 RB.out.2)
        have sb := slack_bd dv
        have sf : 0 ≤ sumC L ∧ sumC L ≤ 72057594037927935 := ⟨sumC_nonneg (good_nonneg (roll_good dv.roll)), dv.roll.2.2.2.2⟩
        have HO := Lib.hid (fun (a : 1 ≤ r) (b : r ≤ sumC L) => qu_holds dv DS.out a b)
        have bb := fun y => bet_bd (good_nonneg DS.out.bag.good) 0 y
        have bt := DS.out.bag.tot
        have WE : Hid (wrE L r = if sumC L = 0 then 7 else if r < 1 ∨ sumC L < r then 2 else 0) := rfl
        have SA : Hid (wrE L r = 0 → qsA l L r = floatOfInt .f64 (fstQ l L r) ∧ qsZ l L r = floatOfInt .f64 (atN l L r) ∧ qaA l L r = atN l L r) := fun z => ⟨if_pos z, if_pos z, if_pos z⟩
        have kz : ¬ k = 0 := by omega
        have HWq : IntKind.i64.wrap ((sumC L).tdiv k) = sumC L / k := by
          rw [Int.tdiv_eq_ediv_of_nonneg sf.1]
          exact wrap_lit rfl (by omega) (by omega)
        have HWn : IntKind.i64.wrap (l * (sumC L / k)) = slackN l k L := wrap_lit rfl (by have := sb.2.2; unfold slackN at this; omega) (by have := sb.2.2; unfold slackN at this; omega)
        have HWm : wrap64 (l * (sumC L / k)) = slackN l k L := IntWalk.wrap64_in _ (by have := sb.2.2; unfold slackN at this; omega)
        clear dv
        obtain ⟨y0, y1, _, _, hy⟩ := box_cells Y2.out
        go_wp2_with fail
        refine (TT.out _ (Below.refl _ _)).mono ?_
        rintro e u1 ⟨rfl, hu1⟩
        have U1 := Lib.hid hu1
        clear y0 y1 hy hu1 TT
        go_wp2_with fail
        refine (QA.out _ U1.out).mono ?_
        rintro e u2 ⟨rfl, hu2⟩
        have U2 := Lib.hid (qu_next U1.out hu2)
        clear hu2 QA
        go_wp2_with fail
        refine (QS.out _ U2.out).mono ?_
        rintro e u3 ⟨rfl, hu3⟩
        have U3 := Lib.hid (qu_next U2.out hu3)
        have R3 := Lib.hid (B2.out.trans (U3.out.mono B2.out.size))
        clear hu3 QS
        generalize qsA l L r = sa at *
        generalize qsZ l L r = sz at *
        generalize qaA l L r = ya at *
        generalize wrE L r = E at *
        generalize slackN l k L = sl at *
        generalize hcp : sumC L / k = cp at *
        clear hcp
        generalize sumC L = su at *
        have HM := Lib.hid (And.intro sb (And.intro sf bt))
        have HBB := Lib.hid bb
        clear sb bb bt
        rcases (show su = 0 ∨ (¬ su = 0 ∧ r < 1) ∨ (¬ su = 0 ∧ ¬ r < 1 ∧ su < r) ∨ (¬ su = 0 ∧ ¬ r < 1 ∧ ¬ su < r) by omega) with z | ⟨z, q1⟩ | ⟨z, q1, q2⟩ | ⟨z, q1, q2⟩
        · have hE : E = 7 := by rw [WE.out, if_pos z]
          have z1 : (su == 0) = true := beq_iff_eq.2 z
          subst hE
          clear z HO SA WE
          go_wp2_with (go_at_call 11; refine (AL.out _).mono ?_; rintro e v7 ⟨rfl, hbv7⟩)
          go_ret
          exact ⟨rfl, R3.out.trans (hbv7.mono R3.out.size)⟩
        · have hE : E = 2 := by rw [WE.out, if_neg z, if_pos (.inl q1)]
          have z1 : (su == 0) = false := beq_eq_false_iff_ne.2 z
          subst hE
          clear z HO SA WE
          go_wp2_with (go_at_call 11; refine (AL.out _).mono ?_; rintro e v7 ⟨rfl, hbv7⟩)
          go_ret
          exact ⟨rfl, R3.out.trans (hbv7.mono R3.out.size)⟩
        · have hE : E = 2 := by rw [WE.out, if_neg z, if_pos (.inr q2)]
          have z1 : (su == 0) = false := beq_eq_false_iff_ne.2 z
          subst hE
          clear z HO SA WE
          go_wp2_with (go_at_call 11; refine (AL.out _).mono ?_; rintro e v7 ⟨rfl, hbv7⟩)
          go_ret
          exact ⟨rfl, R3.out.trans (hbv7.mono R3.out.size)⟩
        · have hE : E = 0 := by rw [WE.out, if_neg z, if_neg (by omega)]
          have z1 : (su == 0) = false := beq_eq_false_iff_ne.2 z
          obtain ⟨rfl, rfl, rfl⟩ := SA.out hE
          obtain ⟨kE, b1, b2, f0, fk, ka, fa, a48⟩ := HO.out (by omega) (by omega)
          have bb2 := HBB.out (atN l L r - 1)
          have mm1 := HM.out.1.2.2.1
          have mm2 := HM.out.1.2.2.2
          rw [kE] at KT
          subst hE
          generalize fstQ l L r = f at *
          generalize atN l L r = ya at *
          generalize kthV T r = kv at *
          have d1 : decide (r ≤ betN T 0 ya) = true := decide_eq_true b1
          have hw : IntKind.i64.wrap (ya - 1) = ya - 1 := wrap_lit rfl (by omega) (by omega)
          have hw2 : IntKind.i64.wrap (r + sl) = r + sl := wrap_lit rfl (by omega) (by omega)
          have d2 : decide (betN T 0 (ya - 1) < r + sl) = true := decide_eq_true b2
          have HF := Lib.hid (fun v x (x0 : f ≤ x) (x1 : x ≤ ya) => (sholds_yes f ya x v f0 fa a48 (by omega) (by omega)).mono (R' := fun e w' => e = .returned (.bool true) ∧ v = w') fun e w' ⟨a, b⟩ => ⟨a.trans (ret_b (decide_eq_true ⟨x0, x1⟩)), b⟩)
          have H1 := Lib.hid (fun v => HF.out v kv fk ka)
          have H2 := Lib.hid (fun v => HF.out v ya fa (Int.le_refl _))
          have RK1 := Lib.hid (fun v hb => RK.out v ya hb)
          have RK2 := Lib.hid (fun v hb => RK.out v (ya - 1) hb)
          clear HO SA WE b1 b2 bb2 HBB HM HF RK f0 fk ka fa kE z
          generalize betN T 0 ya = rk1 at *
          generalize betN T 0 (ya - 1) = rk2 at *
          obtain ⟨y0, y1, _, _, hy⟩ := box_cells (own_below Y2.out U3.out)
          go_wp2_with fail
          refine (KT.out _ U3.out).mono ?_
          rintro e u4 ⟨rfl, hu4⟩
          have U4 := Lib.hid (qu_next U3.out hu4)
          clear y0 y1 hy hu4 KT
          obtain ⟨x0, x1, x2, x3, _, _, _, _, hz⟩ := quad_all (own_below X2.out U4.out)
          go_wp2_with fail
          go_quiet (fail)
          have U5 : Hid (Below W2.heap.size W2 (u4.drewN nq)) := drewN_below U4.out nq
          clear x0 x1 x2 x3 hz
          obtain ⟨y0, y1, _, _, hy⟩ := box_cells (own_below Y2.out U5.out)
          go_wp2_with fail
          refine (RK1.out _ U5.out).mono ?_
          rintro e u6 ⟨rfl, hu6⟩
          have U6 := Lib.hid (qu_next U5.out hu6)
          clear y0 y1 hy hu6 RK1
          obtain ⟨y0, y1, _, _, hy⟩ := box_cells (own_below Y2.out U6.out)
          go_wp2_with fail
          refine (RK2.out _ U6.out).mono ?_
          rintro e u7 ⟨rfl, hu7⟩
          have U7 := Lib.hid (qu_next U6.out hu7)
          clear y0 y1 hy hu7 RK2
          go_wp2_with (first
            | (go_at_call 24; (with_reducible refine (H1.out _).mono ?_); rintro e v5 ⟨rfl, rfl⟩)
            | (go_at_call 24; (with_reducible refine (H2.out _).mono ?_); rintro e v6 ⟨rfl, rfl⟩)
            | (go_at_call 11; refine (AL.out _).mono ?_; rintro e v7 ⟨rfl, hbv7⟩))
          go_ret
          exact ⟨rfl, B2.out.trans ((qu_next U7.out hbv7).mono B2.out.size)⟩
      · have MD := Lib.hid (dgMade_no l k kd A n c (w.alloc (.cells #[.int .i64 l, .int .i64 k, .int .i64 kd, .slice A n c] 56)) hc L0 L1)
        clear hc hn
        go_enter Tryz.func6, Tryz.ntmps6
        go_wp2_with fail
        generalize w.alloc (.cells #[.int .i64 l, .int .i64 k, .int .i64 kd, .slice A n c] 56) = W at *
        refine MD.out.mono ?_
        rintro e w1 ⟨rfl, hb1⟩
        have B1 := Lib.hid (HB0.out.trans (hb1.mono HB0.out.size))
        have B2 := Lib.hid (B1.out.alloc B1.out.size (.cells #[.int .i64 0, .slice none 0 0] 59))
        clear hb1 MD x0 x1 x2 x3 hz g0 g1
        go_wp2_with (go_at_call 11; refine (AL.out _).mono ?_; rintro e v7 ⟨rfl, hbv7⟩)
        go_ret
        exact ⟨rfl, B2.out.trans (hbv7.mono B2.out.size)⟩

end Go.Proofs.YtkhacpapkalkiaaGreat
