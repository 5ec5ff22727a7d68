/- The walk of the statement ProbeReach of layer probe: for every input it returns true, and nothing that was there before is changed. -/
import Derived.Test.YtomhikjohgiloaaPbLaw4
namespace Go.Proofs.Ytomhikjohgiloaa
set_option linter.unusedVariables false
set_option maxRecDepth 100000
open Go.RowKit

/-- a node's home, its way, what is told of it: by numbers that tell nothing of themselves -/
theorem reach_pack {l : Int} {b : Nat} {S L : List Nd} (T : Tb l b S L) {i : Nat} (hi : i < 2 ^ b) (h0 : (tAt S i).2 ≠ 0) :
    ∃ hm D : Nat, homeV (b : Int) (tAt S i).1 = (hm : Int) ∧ hm < 2 ^ b ∧ D < 2 ^ b ∧ tAv (2 ^ b) hm 0 = hm ∧ tAv (2 ^ b) hm D = i ∧ (∀ j, j < D → (tAt S (tAv (2 ^ b) hm j)).2 ≠ 0 ∧ tAv (2 ^ b) hm j ≠ i ∧ tAv (2 ^ b) hm j < 2 ^ b ∧ (((tAv (2 ^ b) hm j : Nat) : Int) + 1) % ((2 ^ b : Nat) : Int) = (tAv (2 ^ b) hm (j + 1) : Nat)) ∧
      sumAt (tAt S i).1 L = (tAt S i).2 ∧ walkN l b S (tAt S i).1 = (D : Int) + 1 ∧ (tAt S i).1 ≠ 0 := by
  have h1 : (tAt S i).1 ≠ 0 := fun q => h0 ((zero_slot T.tab).1 q)
  have bd := tAt_bds T i
  have hr : rightB l (tAt S i).1 = true := by
    rcases bd.1 with q | q
    · rw [q] at h1; exact absurd rfl h1
    · exact (T.roll.2.2.1 _ q).1
  obtain ⟨p0, p1⟩ := right_mx hr
  obtain ⟨k1, k2, k3⟩ := reach_k T hi h1
  have hh := home_lt T.tab.b62 (tAt S i).1
  have d := ds_is hh hi
  have b3 := T.tab.b3
  refine ⟨homeN b (tAt S i).1, tDs (2 ^ b) (homeN b (tAt S i).1) i, ?_, hh, d.1, av_zero hh, av_ds hh hi, fun j hj => ?_, k3, ?_, h1⟩
  · rw [homeV_yes (by omega) (by have := T.tab.b62; omega) p0, Int.toNat_natCast]
  · have f := way_full T hi h1 hj
    have a := av_is hh (show j < 2 ^ b by omega)
    refine ⟨f.1, f.2, a.1, ?_⟩
    rw [← av_next hh (show j + 1 < 2 ^ b by omega)]
    have nx := nx_is a.1
    rcases nx.2 with q | ⟨q, q2⟩
    · rw [q, Int.emod_eq_of_lt (by omega) (by omega)]; omega
    · rw [q, show ((tAv (2 ^ b) (homeN b (tAt S i).1) j : Nat) : Int) + 1 = ((2 ^ b : Nat) : Int) by omega, Int.emod_self]; rfl
  · unfold walkN
    rw [if_pos hr, k1]
theorem pow_int (j : Nat) : (2 : Int) ^ j = ((2 ^ j : Nat) : Int) := by rw [Int.natCast_pow]; rfl
theorem shl_eq {b N : Nat} (hb : b ≤ 40) (h : N = 2 ^ b) : wrap64 ((2 : Int) ^ b) = (N : Int) := by
  have := pow_40 (b := b) hb
  rw [pow_int, ← h]
  unfold wrap64
  omega
theorem shl_lt {b j N : Nat} (hj : j < b) (hb : b ≤ 40) (h : N = 2 ^ b) : wrap64 ((2 : Int) ^ j) < (N : Int) := by
  have q := Nat.pow_lt_pow_right (show 1 < 2 by omega) hj
  rw [shl_eq (b := j) (by omega) rfl, h]
  exact_mod_cast q
theorem walk_bd {l : Int} {b : Nat} {S L : List Nd} (T : Tb l b S L) (id : Int) : walkN l b S id ≤ ((2 ^ b : Nat) : Int) := by
  unfold walkN
  split
  · have q := walk_le T id; exact_mod_cast q
  · exact Int.natCast_nonneg _
theorem node_count (y1 y2 : Int) : ∀ w, (Instr.field 42 (.agg #[.int .i64 y1, .int .i64 y2]) 1).run Try.prog w = .ok (.int .i64 y2) w := fun w => by kernel_rfl
set_option maxHeartbeats 3200000 in
theorem walk_probeReach (l : Int) (A : Option Addr) (n c : Nat) (O : List Pl) (id0 : Int) (L0 : -9223372036854775808 ≤ l) (L1 : l ≤ 9223372036854775807) (OB : OBds O) (m1 : n ≤ 9223372036854775807) (I0 : -9223372036854775808 ≤ id0) (I1 : id0 ≤ 9223372036854775807) (w : World) (H1 : PlacedAt w (.slice A n c) O) :
    Calls Try.prog 6 #[.int .i64 l, .slice A n c, .int .i64 id0] w fun e w' => e = .returned (.bool true) ∧ Below w.heap.size w w' := by
  have HO := Lib.hid H1
  have HL := Lib.hid (placed_cells H1).1
  have HA := Lib.hid (placed_cells H1).2.2.2
  have HB := Lib.hid OB
  clear H1 OB
  by_cases hn : 100 < n
  · go_enter Try.func6, Try.ntmps6
    go_wp2_with (go_at_call 16; refine (pbAlive_any _).mono ?_; rintro e w1 ⟨rfl, hb1⟩)
    all_goals (go_ret; exact ⟨rfl, hb1⟩)
  · by_cases hr : l < 1
    · go_enter Try.func6, Try.ntmps6
      go_wp2_with (go_at_call 16; refine (pbAlive_any _).mono ?_; rintro e w1 ⟨rfl, hb1⟩)
      all_goals (go_ret; exact ⟨rfl, hb1⟩)
    · by_cases hr2 : 48 < l
      · go_enter Try.func6, Try.ntmps6
        go_wp2_with (go_at_call 16; refine (pbAlive_any _).mono ?_; rintro e w1 ⟨rfl, hb1⟩)
        all_goals (go_ret; exact ⟨rfl, hb1⟩)
      · have h1 : 1 ≤ l := by omega
        have h2 : l ≤ 48 := by omega
        have T0 := Lib.hid (tb_new (uni_yes (l := l) ⟨h1, h2⟩))
        clear hr hr2
        go_enter Try.func6, Try.ntmps6
        go_wp2_with fail
        refine (pbNew_any l _ h1 h2).mono ?_
        rintro e w1 ⟨g, h, rfl, d1, b1⟩
        have D1 : Hid (PbA w1 w.heap.size g h l (([] : List Nd).length : Int) (sumC []) 3 (List.replicate 8 nz)) := d1
        have B1 := Lib.hid b1
        clear d1 b1
        go_wp2_with fail
        go_loopw [43] (fun i wr => ∃ (k : Nat) (L : List Nd) (b : Nat) (S : List Nd) (h : Nat), k ≤ n ∧ i = .int .i64 k ∧ SzC k b L ∧ Tb l b S L ∧ PbA wr w.heap.size g h l (L.length : Int) (sumC L) b S ∧ Below w.heap.size w wr) (fun i _ => n - (intOf i).toNat)
        case atStart => exact ⟨0, [], 3, _, h, by omega, rfl, szc_new, T0.out, D1.out, B1.out⟩
        case round =>
          rename_i wr
          obtain ⟨k, L, b, S, h, hk, rfl, hsz, hT, hd, hb⟩ := hrel
          obtain ⟨hbb, hLk⟩ := szc_b hsz (by omega)
          have TT := Lib.hid hT
          have DD := Lib.hid hd
          have BB := Lib.hid hb
          have SZ := Lib.hid hsz
          have hzr := hb.size
          clear hT hd hsz
          by_cases hlt : k < n
          · have hk2 : k < O.length := by have := HL.out; omega
            obtain ⟨bq, o, rfl, hin⟩ := HA.out (by have := HL.out; omega)
            obtain ⟨e0, e1, e2⟩ := (hin.below hb hin.1).2 k hk2
            have hbd := obds_at HB.out hk2
            obtain ⟨_, ⟨b2, b3⟩, b4, b5⟩ := hbd
            have hbl := hin.1
            clear hin hb
            generalize O.getD k plz = r at *
            obtain ⟨⟨kd, id⟩, cc⟩ := r
            simp only at e0 e1 e2 b2 b3 b4 b5
            have HBA := Lib.hid (call_box wr 36 (.int .i64 kd) (.int .i64 id) (.int .i64 cc))
            have PA := Lib.hid (Ps.below DD.out HBA.out)
            have TT4 := Lib.hid (TT.out.doC (show b ≤ 61 by omega) kd id cc)
            have SZ4 := Lib.hid (szc_do TT.out SZ.out kd id cc)
            go_wp2_with fail
            refine (pdo_any _ _ _ _ PA.out TT.out (by omega) b2 b3 b4 b5).mono ?_
            rintro e w4 ⟨rfl, h', hd4, hc4, hh4⟩
            have BW4 : Hid (Below w.heap.size w w4) := (BB.out.trans (HBA.out.mono hzr)).trans (hc4.below (Ps.lt DD.out).1 (Ps.lt DD.out).2.2.1 (by simp; omega))
            have HD4 := Lib.hid hd4
            clear hd4 hc4 hh4 e0 e1 e2
            go_wp2_with fail
            go_roundw
            case rel => exact ⟨k + 1, _, _, _, h', by omega, by go_num, SZ4.out, TT4.out, HD4.out, BW4.out⟩
            case measure => simp [intOf]; omega
          · clear hb
            obtain ⟨wL, hwL⟩ : ∃ x : World, x = wr := ⟨_, rfl⟩
            subst hwL
            have hpN := pow_40 (b := b) (by omega)
            have hhalf := TT.out.half
            have WB := Lib.hid (walk_bd TT.out id0)
            have WK := Lib.hid (pbWalk_any id0 wL DD.out TT.out (by omega) I0 I1)
            have SZE := Lib.hid (pbSize_any wL DD.out)
            obtain ⟨wv, hwv⟩ : ∃ x, x = walkN l b S id0 := ⟨_, rfl⟩
            rw [← hwv] at WK WB
            obtain ⟨N, hN⟩ : ∃ N, N = 2 ^ b := ⟨_, rfl⟩
            rw [← hN] at hpN hhalf WB SZE
            have hwb : wv ≤ (N : Int) := WB.out
            have hh2 : 2 * (L.length : Int) ≤ (N : Int) := by omega
            clear hhalf
            have HN := Lib.hid hN
            clear hN hwv
            go_wp2_with (go_at_call 21; refine SZE.out.mono ?_; rintro e w9 ⟨rfl, rfl⟩)
            go_loopw [12] (fun i wr => ∃ j : Nat, j ≤ b ∧ i = .int .i64 j ∧ wr = wL) (fun i _ => b - (intOf i).toNat)
            case atStart => exact ⟨0, by omega, rfl, rfl⟩
            case round =>
              obtain ⟨j, hj, rfl, hwr⟩ := hrel
              rw [hwr]
              clear hwr
              by_cases hjb : j < b
              · have hw := shl_lt hjb (by omega) HN.out
                have hj20 : j < 20 := by omega
                go_wp2_with fail
                go_roundw
                case rel => exact ⟨j + 1, by omega, by go_num, by trivial⟩
                case measure => simp [intOf]; omega
              · obtain rfl : b = j := by omega
                have hw0 : wrap64 ((2 : Int) ^ b) = (N : Int) := shl_eq (by omega) HN.out
                have hw : (wrap64 ((2 : Int) ^ b) != (N : Int)) = false := by rw [hw0]; simp
                have hw2 : decide (wrap64 ((2 : Int) ^ b) < (N : Int)) = false := by rw [hw0]; simp
                clear hw0
                have LEN := Lib.hid (pbLen_any wL DD.out)
                go_wp2_with (first
                  | (go_at_call 27; refine LEN.out.mono ?_; rintro e w9 ⟨rfl, rfl⟩)
                  | (go_at_call 23; refine WK.out.mono ?_; rintro e w9 ⟨rfl, rfl⟩))
                clear hw hw2 hjb
                have hlenS : S.length = N := by rw [HN.out]; exact DD.out.len
                have hcnt := Lib.hid TT.out.cnt
                have SLT : Hid (∀ j : Nat, j < N → ∀ w1, PbA w1 w.heap.size g h l (L.length : Int) (sumC L) b S → Calls Try.prog 22 #[.pointer (some ⟨g, 0, none⟩), .int .i64 (j : Int)] w1 fun e w' => e = .returned (.agg #[.int .i64 (tAt S j).1, .int .i64 (tAt S j).2]) ∧ Below w1.heap.size w1 w') := fun j hj w1 d => pbSlot_at j w1 d (by omega)
                have GET : Hid (∀ a : Int, -9223372036854775808 ≤ a → a ≤ 9223372036854775807 → ∀ w1, PbA w1 w.heap.size g h l (L.length : Int) (sumC L) b S → Calls Try.prog 28 #[.pointer (some ⟨g, 0, none⟩), .int .i64 a] w1 fun e w' => e = .returned (.int .i64 (sumAt a L)) ∧ w1 = w') := fun a h0 h1 w1 d => pbGet_any a w1 d TT.out (by omega) h0 h1
                have WLK : Hid (∀ a : Int, -9223372036854775808 ≤ a → a ≤ 9223372036854775807 → ∀ w1, PbA w1 w.heap.size g h l (L.length : Int) (sumC L) b S → Calls Try.prog 23 #[.pointer (some ⟨g, 0, none⟩), .int .i64 a] w1 fun e w' => e = .returned (.int .i64 (walkN l b S a)) ∧ w1 = w') := fun a h0 h1 w1 d => pbWalk_any a w1 d TT.out (by omega) h0 h1
                have RP : Hid (∀ i, i < N → (tAt S i).2 ≠ 0 → ∃ hm D : Nat, homeV (b : Int) (tAt S i).1 = (hm : Int) ∧ hm < N ∧ D < N ∧ tAv N hm 0 = hm ∧ tAv N hm D = i ∧ (∀ j, j < D → (tAt S (tAv N hm j)).2 ≠ 0 ∧ tAv N hm j ≠ i ∧ tAv N hm j < N ∧ (((tAv N hm j : Nat) : Int) + 1) % (N : Int) = (tAv N hm (j + 1) : Nat)) ∧
                    sumAt (tAt S i).1 L = (tAt S i).2 ∧ walkN l b S (tAt S i).1 = (D : Int) + 1 ∧ (tAt S i).1 ≠ 0) := by
                  rw [HN.out]; exact fun i hi h0 => reach_pack TT.out hi h0
                have BD := Lib.hid (fun i => (tAt_bds TT.out i).2.1)
                have ZS := Lib.hid (fun i => zero_slot TT.out.tab (i := i))
                have hb62 : (b : Int) ≤ 8 := by omega
                have hN0 : (N : Int) ≠ 0 := by have := Nat.two_pow_pos b; have := HN.out; omega
                go_loopw [13, 84] (fun c i wr => ∃ k : Nat, k ≤ N ∧ i = .int .i64 k ∧ c = .int .i64 ((ndsT (S.take k)).length : Nat) ∧ Below wL.heap.size wL wr) (fun _ i _ => N - (intOf i).toNat)
                case atStart => exact ⟨0, by omega, rfl, by simp [ndsT], Below.refl _ _⟩
                case round =>
                  rename_i wr
                  obtain ⟨k, hk, rfl, rfl, hbL⟩ := hrel
                  have hzL := hbL.size
                  by_cases hlt2 : k < N
                  · have PK := Lib.hid (Ps.below DD.out hbL)
                    have SK := SLT.out k hlt2
                    have NS := nds_step (S := S) (k := k) (by omega)
                    have hle := nds_le (S.take k)
                    have hle2 : (ndsT (S.take k)).length ≤ N := by rw [List.length_take] at hle; omega
                    have RK := RP.out k hlt2
                    have BK := BD.out k
                    have ZK := ZS.out k
                    obtain ⟨x, hx⟩ : ∃ x, x = tAt S k := ⟨_, rfl⟩
                    rw [← hx] at SK NS RK BK ZK
                    obtain ⟨x1, x2⟩ := x
                    simp only at SK NS RK BK ZK
                    obtain ⟨bk0, bk1⟩ := BK
                    have SKH := Lib.hid SK
                    have BLH := Lib.hid hbL
                    clear SK hx hle hbL
                    by_cases h0 : x2 = 0
                    · have h01 : x1 = 0 := ZK.2 h0
                      rw [if_pos h01] at NS
                      have NSH := Lib.hid NS
                      clear ZK RK NS
                      subst h0
                      subst h01
                      go_wp2_with fail
                      refine (SKH.out _ PK.out).mono ?_
                      rintro e w5 ⟨rfl, hb5⟩
                      have BE := Lib.hid ((BLH.out.trans (hb5.mono hzL)).alloc (by have := hb5.size; omega) (.cells #[.int .i64 0, .int .i64 0] 42))
                      clear hb5
                      go_wp2_with fail
                      go_roundw
                      case rel => exact ⟨k + 1, by omega, by go_num, by rw [NSH.out], BE.out⟩
                      case measure => simp [intOf]; omega
                    · obtain ⟨hm, D, r1, r2, r3, r4, r5, r6, r7, r8, r9⟩ := RK h0
                      rw [if_neg r9] at NS
                      have NSH := Lib.hid NS
                      have R6 := Lib.hid r6
                      have R5 := Lib.hid r5
                      have R4 := Lib.hid r4
                      have HMC := Lib.hid (fun w1 => pbHome_any (b : Int) x1 w1 (by omega) (by omega) bk0 bk1)
                      rw [r1] at HMC
                      have GC := Lib.hid (fun w1 d => GET.out x1 bk0 bk1 w1 d)
                      have WC := Lib.hid (fun w1 d => WLK.out x1 bk0 bk1 w1 d)
                      rw [r7] at GC
                      rw [r8] at WC
                      have hx2 : (x2 == 0) = false := by simpa using h0
                      clear NS ZK RK r1 r4 r5 r6 r7 r8
                      go_wp2_with fail
                      refine (SKH.out _ PK.out).mono ?_
                      rintro e w5 ⟨rfl, hb5⟩
                      have B5 := Lib.hid (BLH.out.trans (hb5.mono hzL))
                      have hz5 := hb5.size
                      have y0 : (w5.alloc (.cells #[.int .i64 x1, .int .i64 x2] 42)).cell? ⟨w5.heap.size, 0, none⟩ = some (.int .i64 x1) := by simp
                      have y1 : (w5.alloc (.cells #[.int .i64 x1, .int .i64 x2] 42)).cell? ⟨w5.heap.size, 1, none⟩ = some (.int .i64 x2) := by simp
                      have hzx : w5.heap.size < (w5.alloc (.cells #[.int .i64 x1, .int .i64 x2] 42)).heap.size := by simp
                      have BE := Lib.hid (B5.out.alloc (by omega) (.cells #[.int .i64 x1, .int .i64 x2] 42))
                      clear hb5
                      go_wp2_with (go_at_call 14; refine (HMC.out _).mono ?_; rintro e w9 ⟨rfl, rfl⟩)
                      generalize w5.alloc (.cells #[.int .i64 x1, .int .i64 x2] 42) = W at *
                      have Y0 := Lib.hid y0
                      have Y1 := Lib.hid y1
                      have HZX := Lib.hid hzx
                      clear y0 y1 hzx
                      go_loopw [16, 17] (fun a t wq => ∃ j : Nat, j ≤ D ∧ a = .int .i64 (tAv N hm j : Nat) ∧ t = .int .i64 ((j : Int) + 1) ∧ Below W.heap.size W wq) (fun _ t _ => D + 1 - (intOf t).toNat)
                      case atStart => exact ⟨0, by omega, by rw [R4.out], rfl, Below.refl _ _⟩
                      case round =>
                        obtain ⟨j, hj, rfl, rfl, hbW⟩ := hrel
                        have BWH := Lib.hid hbW
                        have hzW := hbW.size
                        obtain ⟨wq, hwq⟩ : ∃ wq : World, wq = wr := ⟨_, rfl⟩
                        subst hwq
                        by_cases hjD : j < D
                        · obtain ⟨f1, f2, f3, f4⟩ := R6.out j hjD
                          have F4 := Lib.hid f4
                          obtain ⟨aj, haj⟩ : ∃ x, x = tAv N hm j := ⟨_, rfl⟩
                          rw [← haj] at f1 f2 f3 F4 ⊢
                          have SJ := SLT.out aj f3
                          obtain ⟨y, hy⟩ : ∃ x, x = tAt S aj := ⟨_, rfl⟩
                          rw [← hy] at SJ f1
                          obtain ⟨y1, y2⟩ := y
                          simp only at SJ f1
                          have SJH := Lib.hid SJ
                          have hy2 : (y2 == 0) = false := by simpa using f1
                          have hfl := node_count y1 y2
                          have haK : ((aj : Int) == (k : Int)) = false := by simp; omega
                          have hjN : (j : Int) + 1 ≤ (N : Int) := by omega
                          have PJ := Lib.hid (Ps.below DD.out (BE.out.trans (hbW.mono (by have := BE.out.size; omega))))
                          clear SJ haj hy f4 hbW f1
                          go_wp2_with (go_at_call 22; refine (SJH.out _ PJ.out).mono ?_; rintro e w7 ⟨rfl, hb7⟩)
                          go_roundw
                          case rel => exact ⟨j + 1, by omega, by rw [← F4.out], by go_num, BWH.out.trans (hb7.mono hzW)⟩
                          case measure => simp [intOf]; omega
                        · obtain rfl : D = j := by omega
                          rw [R5.out]
                          have PJ := Lib.hid (Ps.below DD.out (BE.out.trans (hbW.mono (by have := BE.out.size; omega))))
                          have y0 := (hbW.cell (p := ⟨w5.heap.size, 0, none⟩) HZX.out).trans Y0.out
                          have y1 := (hbW.cell (p := ⟨w5.heap.size, 1, none⟩) HZX.out).trans Y1.out
                          clear hbW
                          go_wp2_with fail
                          have PJN : Hid (∀ k, PbA (wq.drewN k) w.heap.size g h l (L.length : Int) (sumC L) b S) := fun k => Ps.below PJ.out (drewN_below (Below.refl _ _) k)
                          go_quiet (first
                            | (go_at_call 28; exact Calls.quiet_of_same ((GC.out _ (PJN.out _)).mono fun _ _ ⟨a, b⟩ => ⟨a, b.symm⟩))
                            | (go_at_call 23; exact Calls.quiet_of_same ((WC.out _ (PJN.out _)).mono fun _ _ ⟨a, b⟩ => ⟨a, b.symm⟩)))
                          go_wp2_with fail
                          go_roundw
                          case rel => exact ⟨k + 1, by omega, by go_num, by rw [NSH.out]; simp, (BE.out.trans (BWH.out.mono (by have := BE.out.size; omega))).trans (drewN_below (Below.refl _ _) _)⟩
                          case measure => simp [intOf]; omega
                  · obtain rfl : N = k := by omega
                    have e1 : ((ndsT (S.take N)).length : Int) = (L.length : Int) := by rw [List.take_of_length_le (by omega), hcnt.out]
                    have LEN2 := Lib.hid (pbLen_any wr (Ps.below DD.out hbL))
                    have BF := Lib.hid (BB.out.trans (hbL.mono hzr))
                    rw [e1]
                    clear hbL e1
                    go_wp2_with (first
                      | (go_at_call 27; refine LEN2.out.mono ?_; rintro e w9 ⟨rfl, rfl⟩)
                      | (go_at_call 16; refine (pbAlive_any _).mono ?_; rintro e w9 ⟨rfl, hb9⟩))
                    go_ret
                    exact ⟨rfl, BF.out.trans (hb9.mono BF.out.size)⟩

end Go.Proofs.Ytomhikjohgiloaa
