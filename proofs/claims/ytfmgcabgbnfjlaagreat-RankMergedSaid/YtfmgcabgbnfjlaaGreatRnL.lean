/- Texts laid together: RnkLaw6, RnkW6. -/
import Derived.Test.YtfmgcabgbnfjlaaGreatRnkLaw2
import Derived.Test.YtfmgcabgbnfjlaaGreatRnM
import Derived.Test.YtfmgcabgbnfjlaaGreatBgS
import Derived.Test.YtfmgcabgbnfjlaaGreatOpQ
import Derived.Deep.RegionLaw
import Derived.Deep.RegionWith
import Derived.Deep.Cut
import Derived.Deep.DeepCutAuto
import Derived.Test.YtfmgcabgbnfjlaaGreatRnQ
/- The walk of the statement RankMerged of layer rank, over the project's contracts: for every input it returns true, and nothing that was there before is changed. -/
namespace Go.Proofs.YtfmgcabgbnfjlaaGreat
set_option linter.unusedVariables false
set_option maxRecDepth 100000
open Go.RowKit

theorem smL_snoc {α : Type} (f : α → Nat) (P : List α) (x : α) : smL f (P ++ [x]) = smL f P + f x := by rw [smL_app]; simp only [smL]; omega
theorem rnkOne_ptr (a : Option Addr) : ∀ u ∈ [Value.pointer a], u.oneCell' = true := fun u hu => by
  simp at hu; subst hu; rfl
theorem rnkOne_bag (l : Int) (A : Option Addr) (m c : Nat) : ∀ u ∈ [Value.int .i64 l, .slice A m c], u.oneCell' = true := fun u hu => by
  simp at hu; rcases hu with rfl | rfl <;> rfl
theorem rnkPtr_info : (Tryz.prog.info? 38).map (fun i => (i.zero, i.size, i.bytes)) = some (some (.pointer none), 1, 8) := by kernel_rfl
theorem rnkBag_info : (Tryz.prog.info? 56).map (fun i => (i.zero, i.size, i.bytes)) = some (some (.agg #[.int .i64 0, .slice none 0 0]), 2, 32) := by kernel_rfl
set_option maxHeartbeats 51200000 in
theorem walk_rankMergedK (K : RnkLH) (S' : RnkS) (A : Option Addr) (n c : Nat) (S : List SideX) (A2 : Option Addr) (n2 c2 : Nat) (T2 : List Int) (y : Int) (hl : S.length = n) (hm : n ≤ 9223372036854775807) (hl2 : T2.length = n2) (hB2 : BdB T2) (hm2 : n2 ≤ 9223372036854775807)
    (Y0 : -9223372036854775808 ≤ y) (Y1 : y ≤ 9223372036854775807) (w : World) (hi : SidesAt w A S) (hg : ∀ s ∈ S, SideG w s) (hb2 : BytesAt w A2 T2) :
    Calls Tryz.prog 5 #[.slice A n c, .slice A2 n2 c2, .int .i64 y] w fun e w' => e = .returned (.bool true) ∧ Below w.heap.size w w' := by
  have KK := Lib.hid K
  have KS := Lib.hid S'
  have YB := Lib.hid (And.intro Y0 Y1)
  have SI := Lib.hid hi
  have SG := Lib.hid hg
  have HL := Lib.hid hl
  have HB2 := Lib.hid hB2
  have HL2 := Lib.hid hl2
  have HC2 := Lib.hid hb2
  clear K S' Y0 Y1 hi hg hl hB2 hl2 hb2 hm
  by_cases h5 : n ≤ 5
  · have g0 : decide (5 < (n : Int)) = false := decide_eq_false (by omega)
    have H5 := Lib.hid h5
    obtain ⟨i0, hi0, hz0, hz1, hz2⟩ := info_parts rnkPtr_info
    obtain ⟨j0, hj0, jz0, jz1, jz2⟩ := info_parts rnkBag_info
    clear h5
    go_enter Tryz.func5, Tryz.ntmps5
    go_upto_region 6 with fail
    go_loopw [7, 8, 25] (fun a b i wr => ∃ (j : Nat) (Ps : List PrX), j ≤ n ∧ i = .int .i64 j ∧ Ps.length = j ∧ MgM w wr a b Ps Ps ∧ FineP (60 * j) Ps) (fun _ _ i _ => n - (intOf i).toNat)
    case atStart => exact ⟨0, [], by omega, rfl, rfl, mg_start w, ⟨fun d h => by simp at h, by simp [smL], by simp [smL]⟩⟩
    case round =>
      obtain ⟨j, Ps, hj, rfl, hd1, hM, hF⟩ := hrel
      have AM := Lib.hid hM
      have FF := Lib.hid hF
      have D1 := Lib.hid hd1
      have BB := Lib.hid hM.bel
      clear hM hF hd1
      have n5 : n ≤ 5 := H5.out
      by_cases hlt : j < n
      · have hjl : j < S.length := by have := HL.out; omega
        obtain ⟨b, o, rfl, hbz, e0, e1, e2, e3⟩ := SI.out j hjl
        have c0 := (BB.out.cell (p := ⟨b, o + j * 4, none⟩) hbz).trans e0
        have c1 := (BB.out.cell (p := ⟨b, o + j * 4 + 1, none⟩) hbz).trans e1
        have c2' := (BB.out.cell (p := ⟨b, o + j * 4 + 2, none⟩) hbz).trans e2
        have c3 := (BB.out.cell (p := ⟨b, o + j * 4 + 3, none⟩) hbz).trans e3
        have GG := Lib.hid ((SG.out S[j] (List.getElem_mem hjl)).below BB.out)
        clear e0 e1 e2 e3
        obtain ⟨s, hs⟩ : ∃ s, s = S[j] := ⟨_, rfl⟩
        rw [← hs] at c0 c1 c2' c3 GG
        clear hs
        obtain ⟨l, k, kd, A3, m3, d3, O⟩ := s
        simp only at c0 c1 c2' c3
        have k0 : (0 : Int) ≤ (j : Int) := Int.natCast_nonneg _
        have k1 : (j : Int) < (n : Int) := by omega
        have X0 := Lib.hid (quad_new wr 53 (.int .i64 l) (.int .i64 k) (.int .i64 kd) (.slice A3 m3 d3))
        have BA := Lib.hid ((Below.refl wr.heap.size wr).alloc (Nat.le_refl _) (.cells #[.int .i64 l, .int .i64 k, .int .i64 kd, .slice A3 m3 d3] 53))
        obtain ⟨x0, x1, x2, x3, _, _, _, _, hz⟩ := quad_all X0.out
        go_upto_region 8 with fail
        generalize wr.alloc (.cells #[.int .i64 l, .int .i64 k, .int .i64 kd, .slice A3 m3 d3] 53) = W at *
        rcases (show 60 < m3 ∨ (¬ 60 < m3 ∧ kd = 1 ∧ 10 < l) ∨ ((¬ 60 < m3 ∧ kd = 1 ∧ ¬ 10 < l) ∨ (¬ 60 < m3 ∧ ¬ kd = 1)) by omega) with hn | ⟨hn, h1, h2⟩ | hh
        · have g1 : decide (60 < (m3 : Int)) = true := decide_eq_true (by omega)
          clear hn
          go_wp2_with (go_at_call 13; refine (rnkAlive_any KK.out _).mono ?_; rintro e v7 ⟨rfl, hbv7⟩)
          go_ret
          have z1 := BA.out.trans (hbv7.mono BA.out.size)
          exact ⟨rfl, BB.out.trans (z1.mono BB.out.size)⟩
        · have g1 : decide (60 < (m3 : Int)) = false := decide_eq_false (by omega)
          have g2 : (kd == 1) = true := beq_iff_eq.2 h1
          have g3 : decide (10 < l) = true := decide_eq_true h2
          clear hn h1 h2
          go_wp2_with (go_at_call 13; refine (rnkAlive_any KK.out _).mono ?_; rintro e v7 ⟨rfl, hbv7⟩)
          go_ret
          have z1 := BA.out.trans (hbv7.mono BA.out.size)
          exact ⟨rfl, BB.out.trans (z1.mono BB.out.size)⟩
        have HN : Hid (m3 ≤ 60) := by show _ ≤ _; rcases hh with h | h <;> omega
        have g1 : decide (60 < (m3 : Int)) = false := decide_eq_false (by have := HN.out; omega)
        go_cut [44] (fun s44 wx => s44 = .bool false ∧ wx = W)
        case first =>
          rcases hh with ⟨hn, h1, h2⟩ | ⟨hn, h1⟩
          · have g2 : (kd == 1) = true := beq_iff_eq.2 h1
            have g3 : decide (10 < l) = false := decide_eq_false h2
            clear hn h1 h2
            go_wp2_with fail
            go_meet
            case rel => exact ⟨rfl, rfl⟩
          · have g2 : (kd == 1) = false := beq_eq_false_iff_ne.2 h1
            clear hn h1
            go_wp2_with fail
            go_meet
            case rel => exact ⟨rfl, rfl⟩
        case rest =>
          obtain ⟨rfl, rfl⟩ := hcut
          clear hh g1
          by_cases hc : kIs k = true ∧ isP kd l = true
          · have MD := Lib.hid (dgMade_own l k kd A3 m3 d3 O wc (GG.out.2.2.2.1.below BA.out) GG.out.2.2.2.2.1 (by have := HN.out; omega) hc)
            clear hc
            go_wp2_with fail
            refine MD.out.mono ?_
            rintro e w3 ⟨q, p, g, h, T, A4, m4, c4, rfl, hd, ho, hlen, hds, hb3⟩
            generalize dgOf l k O = L at *
            have B3 := Lib.hid (BA.out.trans (hb3.mono BA.out.size))
            have HD := Lib.hid (hd.more HN.out |>.low (B2 := 0) (Nat.zero_le _))
            have HO := Lib.hid ho
            have HS := Lib.hid hds
            have HT := Lib.hid hlen
            have T4 := Lib.hid (box2 w3 56 (.int .i64 l) (.slice A4 m4 c4))
            have B4 := Lib.hid ((Below.refl w3.heap.size w3).alloc (Nat.le_refl _) (.cells #[.int .i64 l, .slice A4 m4 c4] 56))
            have PN : ∀ w, (binOp .eql 38 (.pointer (some ⟨q, 0, none⟩)) (.pointer none)).run Tryz.prog w = .ok (.bool false) w := fun _ => by kernel_rfl
            clear hd ho hlen hds hb3 MD x0 x1 x2 x3 hz c0 c1 c2' c3
            go_upto_region 13 with fail
            generalize w3.alloc (.cells #[.int .i64 l, .slice A4 m4 c4] 56) = W4 at *
            have M4 := Lib.hid (AM.out.below (B3.out.trans (B4.out.mono B3.out.size)))
            have B5 := Lib.hid ((Below.refl W4.heap.size W4).alloc (Nat.le_refl _) (.cells #[.pointer (some ⟨q, 0, none⟩)] 38))
            have M5 := Lib.hid (M4.out.below B5.out)
            go_wp2_with (at_builtin; refine wpList_append_own _ rfl (.tmp 57) (.tmp 59) 63 rfl w.heap.size 38 i0 (.pointer none) 1 8 Tryz.underlying63 hi0 hz0 hz1 hz2 rfl (by decide) u7 Ps.length (rowG Ps) rfl M5.out.ra ⟨W4.heap.size, 0, none⟩ 1 1 [.pointer (some ⟨q, 0, none⟩)] rfl rfl (one_new _ _ _ _ rfl) (rnkOne_ptr _) (by have := D1.out; unfold maxLen; omega) (by have := D1.out; omega) M5.out.bel.size ?_)
            intro a6 w6 hown6 hgrow6 _
            have DG5 := Lib.hid ((HD.out.below B4.out).below B5.out)
            have M6 := Lib.hid (M5.out.turnA (Pa' := Ps ++ [⟨q, p, g, h, kd, l, k, 60, L, A4, m4, c4, T⟩]) hgrow6 (by rw [List.length_append, rowG_app]; exact hown6) (fun d hd => by
              rcases List.mem_append.1 hd with z | z
              · exact M5.out.dg d z
              · rw [List.mem_singleton.1 z]; exact DG5.out))
            have T6 := Lib.hid (World.ownsRow.kept (own_below T4.out B5.out) hgrow6 (own_apart (own_below T4.out B5.out) M5.out.ra (by decide)))
            have V5 := own_below (own_below HO.out B4.out) B5.out
            have V6 := Lib.hid (World.ownsRow.kept V5 hgrow6 (own_apart V5 M5.out.ra (by decide)))
            obtain ⟨t0, t1, _, _, ht⟩ := box_cells T6.out
            have B7 := Lib.hid ((Below.refl w6.heap.size w6).alloc (Nat.le_refl _) (.cells #[.int .i64 l, .slice A4 m4 c4] 56))
            have M7 := Lib.hid (M6.out.below B7.out)
            clear hown6 hgrow6 V5
            go_wp2_with (at_builtin; refine wpList_append_own _ rfl (.tmp 61) (.tmp 63) 64 rfl w.heap.size 56 j0 (.agg #[.int .i64 0, .slice none 0 0]) 2 32 Tryz.underlying64 hj0 jz0 jz1 jz2 rfl (by decide) u8 Ps.length (rowB Ps) rfl M7.out.rb ⟨w6.heap.size, 0, none⟩ 1 1 [.int .i64 l, .slice A4 m4 c4] rfl rfl (two_new _ _ _ _ _ rfl) (rnkOne_bag _ _ _ _) (by have := D1.out; unfold maxLen; omega) (by have := D1.out; omega) M7.out.bel.size ?_)
            intro a8 w8 hown8 hgrow8 _
            have M8 := Lib.hid (M7.out.turnB (Pb' := Ps ++ [⟨q, p, g, h, kd, l, k, 60, L, A4, m4, c4, T⟩]) hgrow8 (by rw [List.length_append, rowB_app]; exact hown8) (fun d hd => by
              rcases List.mem_append.1 hd with z | z
              · exact M7.out.nd d z
              · rw [List.mem_singleton.1 z]; exact own_below V6.out B7.out))
            have F8 : Hid (FineP (60 * (j + 1)) (Ps ++ [⟨q, p, g, h, kd, l, k, 60, L, A4, m4, c4, T⟩])) := by
              refine ⟨fun d hd => ?_, ?_, ?_⟩
              · rcases List.mem_append.1 hd with z | z
                · exact FF.out.s d z
                · rw [List.mem_singleton.1 z]; exact HS.out
              · rw [smL_snoc]; have := FF.out.n; simp only; omega
              · rw [smL_snoc]; have a := FF.out.t; have b := HT.out; have c := HN.out; simp only; omega
            clear hown8 hgrow8 t0 t1 ht
            go_wp2_with fail
            go_roundw
            case rel => exact ⟨j + 1, _, by omega, by go_num, by have := D1.out; simp; omega, M8.out, F8.out⟩
            case measure => simp [intOf]; omega
          · have MD := Lib.hid (dgMade_no l k kd A3 m3 d3 wc hc GG.out.1.1 GG.out.1.2)
            clear hc
            go_wp2_with fail
            refine MD.out.mono ?_
            rintro e w3 ⟨rfl, hb3⟩
            have B3 := Lib.hid (BA.out.trans (hb3.mono BA.out.size))
            have B4 := Lib.hid (B3.out.alloc B3.out.size (.cells #[.int .i64 0, .slice none 0 0] 56))
            clear hb3 MD x0 x1 x2 x3 hz c0 c1 c2' c3
            go_wp2_with (go_at_call 13; refine (rnkAlive_any KK.out _).mono ?_; rintro e v7 ⟨rfl, hbv7⟩)
            go_ret
            have z1 := B4.out.trans (hbv7.mono B4.out.size)
            exact ⟨rfl, BB.out.trans (z1.mono BB.out.size)⟩
      · obtain rfl : j = n := by omega
        have F5 : Hid (FineP 300 Ps) := ⟨FF.out.s, by have := FF.out.n; omega, by have := FF.out.t; omega⟩
        go_wp2_with fail
        go_loopw [7, 8, 13] (fun a b i wq => ∃ (j2 : Nat) (Qs : List PrX), j2 ≤ n2 ∧ i = .int .i64 j2 ∧ MgM w wq a b Qs Qs ∧ FineP 300 Qs ∧ Qs.length ≤ 5) (fun _ _ i _ => n2 - (intOf i).toNat)
        case atStart => exact ⟨0, Ps, by omega, rfl, AM.out, F5.out, by have := D1.out; omega⟩
        case round =>
          obtain ⟨wq, hwq⟩ : ∃ wq : World, wq = wr := ⟨_, rfl⟩
          subst hwq
          obtain ⟨j2, Qs, hj2, rfl, hM, hF, hQ5⟩ := hrel
          have QM := Lib.hid hM
          have QF := Lib.hid hF
          have Q5 := Lib.hid hQ5
          obtain ⟨Aa, ca, ha⟩ := row_form hM.ra
          obtain ⟨Ab, cb, hb⟩ := row_form hM.rb
          subst ha hb
          have QB := Lib.hid hM.bel
          obtain ⟨N, hN⟩ : ∃ N, N = Qs.length := ⟨_, rfl⟩
          have HQ := Lib.hid hN
          rw [← hN] at QM hQ5 ⊢
          clear hM hF hN
          have AL := Lib.hid (fun v (hb : Below wq.heap.size wq v) => QB.out.trans (hb.mono QB.out.size))
          by_cases hj : j2 < n2
          · have c1 : decide ((j2 : Int) < (n2 : Int)) = true := decide_eq_true (by omega)
            have c1' : decide (j2 < n2) = true := decide_eq_true hj
            by_cases h2 : 1 < N
            · have c2'' : decide (1 < (N : Int)) = true := decide_eq_true (by omega)
              have c2' : decide (1 < N) = true := decide_eq_true h2
              obtain ⟨ga, ca', ea, hca, hBa, hza⟩ := row_some QM.out.ra (by have := HQ.out; omega)
              obtain ⟨gb, cb', eb, hcb, hBb, hzb⟩ := row_some QM.out.rb (by have := HQ.out; omega)
              injection ea with ea1 ea2 ea3
              injection eb with eb1 eb2 eb3
              subst ea1 eb1 ea3 eb3
              clear ea2 eb2
              have hjl : j2 < T2.length := by have := HL2.out; omega
              obtain ⟨b2, o2, rfl, hbl, hcell⟩ := HC2.out (by omega)
              have e0 : wq.cell? ⟨b2, o2 + j2, none⟩ = some (.int .u8 (T2.getD j2 0)) := (QB.out.cell (p := ⟨b2, o2 + j2, none⟩) hbl).trans (hcell j2 hjl)
              have tb := HB2.out _ (getD_mem hjl)
              clear hcell
              obtain ⟨t, htt⟩ : ∃ t, t = T2.getD j2 0 := ⟨_, rfl⟩
              rw [← htt] at e0 tb
              clear htt
              have k0 : (0 : Int) ≤ (j2 : Int) := Int.natCast_nonneg _
              have k1 : (j2 : Int) < (n2 : Int) := by omega
              have hw1 : IntKind.i64.wrap ((N : Int) - 1) = (N : Int) - 1 := wrap_lit rfl (by omega) (by omega)
              have hw2 : wrap64 ((N : Int) - 1) = (N : Int) - 1 := IntWalk.wrap64_in _ (by omega)
              have hz1' : ¬ ((N : Int) - 1 = 0) := by omega
              obtain ⟨i, hi⟩ : ∃ i : Nat, t % ((N : Int) - 1) = (i : Int) := ⟨(t % ((N : Int) - 1)).toNat, by have := Int.emod_nonneg t hz1'; omega⟩
              have hiN : i + 1 < N := by have := Int.emod_lt_of_pos t (show (0 : Int) < (N : Int) - 1 by omega); omega
              have hiQ : i + 1 < Qs.length := by have := HQ.out; omega
              have HIQ := Lib.hid hiQ
              go_upto_region 20 with fail
              simp only [hi]
              have HI := Lib.hid hi
              clear hi hw1 hw2 hz1' tb e0 k0 k1
              have RA : Hid (wq.ownsRow w.heap.size 38 1 (.slice (some ⟨ga, 0, none⟩) N ca) N (rowG Qs)) := by
                have z := QM.out.ra
                rw [← HQ.out] at z
                exact z
              have RB : Hid (wq.ownsRow w.heap.size 56 2 (.slice (some ⟨gb, 0, none⟩) N cb) N (rowB Qs)) := by
                have z := QM.out.rb
                rw [← HQ.out] at z
                exact z
              have a1 := RA.out.cellAt i (by omega)
              have a2 := RA.out.cellAt (i + 1) (by omega)
              have r1 := RB.out.cellAt (i * 2) (by omega)
              have r2 := RB.out.cellAt (i * 2 + 1) (by omega)
              have r3 := RB.out.cellAt ((i + 1) * 2) (by omega)
              have r4 := RB.out.cellAt ((i + 1) * 2 + 1) (by omega)
              obtain ⟨d1, d2, ⟨hD1, hD2⟩, ⟨hV1, hV2⟩, ⟨hS1, hS2⟩, ⟨hN1, hT1⟩, ⟨hG1, hG2⟩, ⟨hR1, hR2, hR3, hR4⟩, hMG, hMT⟩ := mg_two QM.out QF.out hiQ
              rw [hG1] at a1
              rw [hG2] at a2
              rw [hR1] at r1
              rw [hR2] at r2
              rw [hR3] at r3
              rw [hR4] at r4
              have D1 := Lib.hid hD1
              have D2 := Lib.hid hD2
              have V1 := Lib.hid hV1
              have V2 := Lib.hid hV2
              have S1 := Lib.hid hS1
              have S2 := Lib.hid hS2
              have N12 := Lib.hid hN1
              have T12 := Lib.hid hT1
              have MG := Lib.hid hMG
              have MT := Lib.hid hMT
              clear hD1 hD2 hV1 hV2 hS1 hS2 hN1 hT1 hG1 hG2 hR1 hR2 hR3 hR4 hMG hMT hiQ
              obtain ⟨q1, p1, g1, h1, kd1, l1, kk1, n1, L1, A1, m1, x1, T1⟩ := d1
              obtain ⟨q2, p2, g2, h2', kd2, l2, kk2, n2', L2, A2', m2, x2, T2'⟩ := d2
              simp only at D1 V1 S1 N12 T12 a1 r1 r2 D2 V2 S2 a2 r3 r4 MG MT
              have RC := Lib.hid (And.intro r1 (And.intro r2 (And.intro r3 r4)))
              clear r1 r2 r3 r4
              have z0 : (0 : Int) ≤ (i : Int) := Int.natCast_nonneg _
              have z1 : (i : Int) < (N : Int) := by omega
              have z2 : IntKind.i64.wrap ((i : Int) + 1) = (i : Int) + 1 := wrap_lit rfl (by omega) (by omega)
              have z3 : (0 : Int) ≤ (i : Int) + 1 := by omega
              have z4 : (i : Int) + 1 < (N : Int) := by omega
              have z5 : ((i : Int) + 1).toNat = i + 1 := by omega
              have HZA := Lib.hid hza
              have LLe := Lib.hid (show L1.length + L2.length ≤ 300 by have a := D1.out.po.len; have b := D2.out.po.len; have c := N12.out; omega)
              by_cases hE : bmgE l1 l2 L1 L2 = 0
              · have hl : l1 = l2 := by
                  by_cases z : l1 = l2
                  · exact z
                  · rw [bmgE_shape z] at hE; omega
                subst hl
                have hsum : ¬ 72057594037927935 < sumC L1 + sumC L2 := fun z => by rw [bmgE_full z] at hE; omega
                have VM := Lib.hid (dgV_bmg D1.out.v D2.out.v hsum)
                have SM := Lib.hid (dgS_bmg D1.out.v D2.out.v S1.out S2.out hsum)
                have HSU := Lib.hid hsum
                have MY := Lib.hid (fun v (hb : Below wq.heap.size wq v) => (blMerge_any v (D1.out.below hb) (D2.out.below hb) (by have := N12.out; omega) (by have := N12.out; omega) (by have := LLe.out; omega)).mono (R' := fun e w' => (∃ q p g h, e = .returned (.tuple #[.pointer (some ⟨q, 0, none⟩), .int .i64 0]) ∧ DgA w' v.heap.size q p g h kd1 l1 (bmgK kk1 kk2) (bmgL l1 (bmgK kk1 kk2) L1 L2).length (bmgL l1 (bmgK kk1 kk2) L1 L2)) ∧ Below v.heap.size v w') fun e w' z => by
                  rcases z with ⟨z, _⟩ | ⟨_, _, z⟩
                  · exact absurd hE z
                  · exact ⟨z.2, z.1⟩)
                clear hE hsum
                generalize bmgK kk1 kk2 = k0 at *
                generalize bmgL l1 k0 L1 L2 = F at *
                go_region_held3 (fun w' => w'.cell? ⟨ga, i, none⟩ = some (.pointer (some ⟨q1, 0, none⟩)) ∧ w'.cell? ⟨ga, i + 1, none⟩ = some (.pointer (some ⟨q2, 0, none⟩)) ∧ Below wq.heap.size wq w')
                  (first | assumption | (exact rc_keep2 (by assumption) (by assumption) HZA.out HZA.out) | (exact ⟨a1, a2, below_drew _⟩))
                  (first | (go_at_call 22; (with_reducible refine (MY.out _ (rc_below2 (p := ⟨ga, i, none⟩) (q := ⟨ga, i + 1, none⟩) (x := .pointer (some ⟨q1, 0, none⟩)) (y := .pointer (some ⟨q2, 0, none⟩)) (by assumption))).mono ?_); rintro e v5 ⟨⟨q5, p5, g5, h5', rfl, hd5⟩, hb5⟩))
                rename_i hH
                have B5 := Lib.hid hH.2.2
                have D5 := Lib.hid (hd5.low (B2 := 0) (Nat.zero_le _))
                have M5 := Lib.hid (QM.out.below B5.out)
                have PN5 : ∀ w, (binOp .eql 38 (.pointer (some ⟨q5, 0, none⟩)) (.pointer none)).run Tryz.prog w = .ok (.bool false) w := fun _ => by kernel_rfl
                clear hH hb5 hd5 a1 a2 MY
                go_upto_region 23 with fail
                have HZB5 : Hid (gb < v5.heap.size) := Nat.lt_of_lt_of_le hzb B5.out.size
                have hzb5 := HZB5.out
                obtain ⟨s1, s2, s3, s4⟩ := RC.out
                have s1 := (B5.out.cell (p := ⟨gb, i * 2, none⟩) hzb).trans s1
                have s2 := (B5.out.cell (p := ⟨gb, i * 2 + 1, none⟩) hzb).trans s2
                have s3 := (B5.out.cell (p := ⟨gb, (i + 1) * 2, none⟩) hzb).trans s3
                have s4 := (B5.out.cell (p := ⟨gb, (i + 1) * 2 + 1, none⟩) hzb).trans s4
                have V15 := Lib.hid (own_below V1.out B5.out)
                have V25 := Lib.hid (own_below V2.out B5.out)
                have L12 := Lib.hid (And.intro (nodes_cells (ownNd_nodes V1.out)).1 (nodes_cells (ownNd_nodes V2.out)).1)
                have PO := Lib.hid (fun v (hb : Below v5.heap.size v5 v) => (rgPour_ok l1 A1 A2' m1 x1 m2 x2 T1 T2' v (ownNd_nodes (own_below V15.out hb)) (ownNd_nodes (own_below V25.out hb)) S1.out.bag S2.out.bag (by have a := L12.out; have b := T12.out; omega) (by have a := L12.out; have b := T12.out; omega) (by rw [← S1.out.std.tot, ← S2.out.std.tot]; have := HSU.out; omega)).mono (R' := fun e w' => ∃ A6 m6 c6, e = .returned (.tuple #[.agg #[.int .i64 l1, .slice A6 m6 c6], .int .i64 0]) ∧ OwnNd 105 w' 0 (.slice A6 m6 c6) (poursN T1 T2') ∧ Below v.heap.size v w') fun e w' ⟨A6, m6, c6, he, hn, hb', ho⟩ => ⟨A6, m6, c6, he, (by
                  rcases ho with q | q
                  · injection q with q1 q2 q3
                    subst q1 q2 q3
                    have own := own_below (own_below V15.out hb) hb'
                    rw [rnkNodes_uniq hn (ownNd_nodes own)]
                    exact own
                  · exact own_low q (Nat.zero_le _)), hb'⟩)
                go_cut [17, 18] (fun s17 s18 wx => ∃ o A6 m6 c6, s17 = .pointer (some ⟨o, 0, none⟩) ∧ s18 = .int .i64 0 ∧ wx.ownsRow v5.heap.size 56 2 (.slice (some ⟨o, 0, none⟩) 1 1) 1 [.int .i64 l1, .slice A6 m6 c6] ∧ OwnNd 105 wx 0 (.slice A6 m6 c6) (poursN T1 T2') ∧ Below v5.heap.size v5 wx)
                case first =>
                  go_region_with (go_at_call 23; refine (PO.out _ (by first | (exact below_drew _) | (exact (below_drew _).alloc (Nat.le_refl _) _))).mono ?_; rintro e w9 ⟨A6, m6, c6, rfl, ho9, hb9⟩; have hw9 : Below v5.heap.size v5 w9 := Below.trans (by first | (exact below_drew _) | (exact (below_drew _).alloc (Nat.le_refl _) _)) (Below.mono hb9 (by simp)); first | (have du : Hid (w9.ownsRow v5.heap.size 56 2 (.slice (some ⟨v5.heap.size, 0, none⟩) 1 1) 1 [.int .i64 0, .slice none 0 0]) := own_below (box2 v5.drew _ _ _) hb9; obtain ⟨v0, v1, v2, v3, _⟩ := box_cells du.out) | skip)
                  all_goals go_wp2_with fail
                  all_goals go_meet
                  all_goals first
                    | (exact ⟨v5.heap.size, A6, m6, c6, rfl, rfl, (box_set du.out _ _).1, (box_set du.out _ _).2.1 _ _ _ _ _ _ (by decide) ho9, hw9.trans (box_set du.out _ _).2.2.1⟩)
                    | (exact ⟨w9.heap.size, A6, m6, c6, rfl, rfl, own_low (box2 ..) hw9.size, own_below ho9 ((Below.refl _ _).alloc (Nat.le_refl _) _), hw9.alloc hw9.size _⟩)
                case rest =>
                  obtain ⟨o6, A6, m6, c6, rfl, rfl, hbx, ho6, hbc⟩ := hcut
                  obtain ⟨w6, hw6⟩ : ∃ w6 : World, w6 = wc := ⟨_, rfl⟩
                  subst hw6
                  have BX6 := Lib.hid hbx
                  have O6 := Lib.hid ho6
                  have D6 := Lib.hid (D5.out.below hbc)
                  have M6 := Lib.hid (M5.out.below hbc)
                  have B6 := Lib.hid (B5.out.trans (hbc.mono B5.out.size))
                  have FL := Lib.hid (show F.length ≤ 300 by have a := VM.out.2.2.1; have b := LLe.out; omega)
                  have UL := Lib.hid (show (poursN T1 T2').length ≤ T1.length + T2'.length from pours_len T2' T1)
                  have ML6 := Lib.hid (nodes_cells (ownNd_nodes ho6)).1
                  have HO := Lib.hid (rnkHolds_any KK.out KS.out y A6 m6 c6 w6 D6.out (by have := FL.out; omega) (ownNd_nodes O6.out) (by have a := ML6.out; have b := UL.out; have c := T12.out; omega) SM.out YB.out.1 YB.out.2)
                  clear hbx ho6 hbc s1 s2 s3 s4 PO
                  obtain ⟨t0, t1, _, _, hto⟩ := box_cells BX6.out
                  go_wp2_with fail
                  refine HO.out.mono ?_
                  rintro e w7 ⟨rfl, hb7⟩
                  have BX7 := Lib.hid (own_below BX6.out hb7)
                  have O7 := Lib.hid (own_below O6.out hb7)
                  have D7 := Lib.hid (D6.out.below hb7)
                  have M7 := Lib.hid (M6.out.below hb7)
                  have B7 := Lib.hid (B6.out.trans (hb7.mono B6.out.size))
                  have RA7 := Lib.hid (own_below (own_below RA.out B6.out) hb7)
                  have RB7 := Lib.hid (own_below (own_below RB.out B6.out) hb7)
                  clear hb7 HO t0 t1 hto
                  obtain ⟨t0, t1, _, _, hto⟩ := box_cells BX7.out
                  have f1 := RA7.out.frozenAt i
                  have f2 := RB7.out.frozenAt (i * 2)
                  have f3 := RB7.out.frozenAt (i * 2 + 1)
                  have g1 : ∃ u, w7.cell? ⟨ga, i, none⟩ = some u := by
                    have z := RA7.out.cellAt i (by omega)
                    rw [List.getElem?_eq_getElem (by rw [rowG_len]; have := HIQ.out; omega)] at z
                    exact ⟨_, z⟩
                  have g2 : ∃ u, w7.cell? ⟨gb, i * 2, none⟩ = some u := by
                    have z := RB7.out.cellAt (i * 2) (by omega)
                    rw [List.getElem?_eq_getElem (by rw [rowB_len]; have := HIQ.out; omega)] at z
                    exact ⟨_, z⟩
                  have g3 : ∃ u, w7.cell? ⟨gb, i * 2 + 1, none⟩ = some u := by
                    have z := RB7.out.cellAt (i * 2 + 1) (by omega)
                    rw [List.getElem?_eq_getElem (by rw [rowB_len]; have := HIQ.out; omega)] at z
                    exact ⟨_, z⟩
                  obtain ⟨y1, g1⟩ := g1
                  obtain ⟨y2, g2⟩ := g2
                  obtain ⟨y3, g3⟩ := g3
                  have la := (RA7.out.lt ga rfl).2
                  have lb := (RB7.out.lt gb rfl).2
                  have nab : ga ≠ gb := by
                    rcases own_apart RA7.out RB7.out (by decide) with z | z
                    · simp [Value.ownBlock] at z
                    · intro h; exact z (by simp [Value.ownBlock, h])
                  have lo6 := BX7.out.lt o6 rfl
                  have la5 : ga < v5.heap.size := Nat.lt_of_lt_of_le hza B5.out.size
                  have lb5 := HZB5.out
                  have n1' : ¬ ga = o6 := by omega
                  have n2'' : ¬ o6 = ga := by omega
                  have n3' : ¬ gb = o6 := by omega
                  have n4' : ¬ o6 = gb := by omega
                  have n5' : ¬ ga = gb := nab
                  have n6' : ¬ gb = ga := fun h => nab h.symm
                  clear lo6 la5 lb5
                  go_upto_region 26 with fail
                  go_cut [] (fun wx => MgM w wx (.slice (some ⟨ga, 0, none⟩) N ca) (.slice (some ⟨gb, 0, none⟩) N cb) (Qs.set i ⟨q5, p5, g5, h5', kd1, l1, k0, F.length, F, A6, m6, c6, poursN T1 T2'⟩) (Qs.set i ⟨q5, p5, g5, h5', kd1, l1, k0, F.length, F, A6, m6, c6, poursN T1 T2'⟩))
                  case first =>
                    go_region
                    all_goals go_wp2_with fail
                    all_goals go_meet
                    all_goals exact M7.out.put HQ.out ⟨q5, p5, g5, h5', kd1, l1, k0, F.length, F, A6, m6, c6, poursN T1 T2'⟩ D7.out O7.out
                  case rest =>
                    obtain ⟨w8, hw8⟩ : ∃ w8 : World, w8 = wc := ⟨_, rfl⟩
                    subst hw8
                    have M8 := Lib.hid hcut
                    have MX := Lib.hid (MG.out ⟨q5, p5, g5, h5', kd1, l1, k0, F.length, F, A6, m6, c6, poursN T1 T2'⟩ (by have a := VM.out.2.2.1; have b := D1.out.po.len; have c := D2.out.po.len; simp only; omega))
                    have MX2 := Lib.hid (MT.out ⟨q5, p5, g5, h5', kd1, l1, k0, F.length, F, A6, m6, c6, poursN T1 T2'⟩ (by have a := UL.out; simp only; exact a))
                    have F8 := Lib.hid (QF.out.mg (x := ⟨q5, p5, g5, h5', kd1, l1, k0, F.length, F, A6, m6, c6, poursN T1 T2'⟩) HIQ.out SM.out MX.out MX2.out)
                    clear hcut t0 t1 hto f1 f2 f3 g1 g2 g3 la lb nab n1' n2'' n3' n4' n5' n6' RA7 RB7 BX7 O7 D7 M7 MX MX2 MG MT
                    generalize (⟨q5, p5, g5, h5', kd1, l1, k0, F.length, F, A6, m6, c6, poursN T1 T2'⟩ : PrX) = X at *
                    have z6 : IntKind.i64.wrap ((i : Int) + 2) = (i : Int) + 2 := wrap_lit rfl (by omega) (by omega)
                    have N5 : Hid (N ≤ 5) := by have a := HQ.out; have b := Q5.out; show _ ≤ _; omega
                    have R27 : Hid (w8.ownsRow w.heap.size 38 1 (.slice (some ⟨ga, 0, none⟩) N ca) N (rowG (Qs.set i X))) := by
                      have z := M8.out.ra
                      rw [List.length_set, ← HQ.out] at z
                      exact z
                    have stk : ∀ w, (Instr.slice 63 (.slice (some ⟨ga, 0, none⟩) N ca) none (some (.int .i64 ((i : Int) + 1))) none).run Tryz.prog w = .ok (.slice (some ⟨ga, 0, none⟩) (i + 1) ca) w := fun w => by
                      have z := sl_to Tryz.underlying63 hi0 hz1 (some ⟨ga, 0, none⟩) N ca (i + 1) (by have := HQ.out; omega) w
                      rw [show ((i + 1 : Nat) : Int) = (i : Int) + 1 by omega] at z
                      exact z
                    have sfk : ∀ w, (Instr.slice 63 (.slice (some ⟨ga, 0, none⟩) N ca) (some (.int .i64 ((i : Int) + 2))) none none).run Tryz.prog w = .ok (.slice (some (advA ⟨ga, 0, none⟩ ca (i + 2) 1)) (N - (i + 2)) (ca - (i + 2))) w := fun w => by
                      have z := sl_from Tryz.underlying63 hi0 hz1 ⟨ga, 0, none⟩ N ca (i + 2) (by omega) w
                      rw [show ((i + 2 : Nat) : Int) = (i : Int) + 2 by omega] at z
                      exact z
                    have GL : Hid ((rowG (Qs.set i X)).length = N * 1) := by show _ = _; rw [rowG_len, List.length_set, ← HQ.out]; omega
                    have KA : Hid (∀ W w9, Below w8.heap.size w8 W → World.grownBy W w9 (Value.slice (some ⟨w8.heap.size, 0, none⟩) 0 0).ownBlock → w9.ownsRow w.heap.size 38 1 (.slice (some ⟨ga, 0, none⟩) N ca) N (rowG (Qs.set i X)) ∧ Below w8.heap.size w8 w9) := fun W w9 hW hg =>
                      ⟨World.ownsRow.kept (own_below R27.out hW) hg (.inr (by have := (R27.out.lt ga rfl).2; simp [Value.ownBlock]; omega)), hW.grown hg hW.size fun q hq => by simp [Value.ownBlock] at hq; omega⟩
                    obtain ⟨adA, hadv⟩ : ∃ adA, advA ⟨ga, 0, none⟩ ca (i + 2) 1 = adA := ⟨_, rfl⟩
                    rw [hadv] at sfk
                    have HADV := Lib.hid hadv
                    have HCA := Lib.hid (show N ≤ ca by have := HQ.out; omega)
                    clear hadv
                    go_upto_region 27 with fail
                    go_cut [7] (fun s7 wx => wx.ownsRow w.heap.size 38 1 s7 (N - 1) (rowG (mgP Qs i X)) ∧ Below w8.heap.size w8 wx)
                    case first =>
                      go_region_law (first
                        | (refine step_append_own rfl (.tmp 136) (.tmp 140) 63 rfl w8.heap.size 38 i0 (.pointer none) 1 8 Tryz.underlying63 hi0 hz0 hz1 hz2 rfl (by decide) (.slice (some ⟨w8.heap.size, 0, none⟩) 0 0) 0 [] (by rfl) (by exact World.ownsRow_lit (base := w8.heap.size) (e := 38) (size := 1) w8 #[] 0 (Nat.le_refl _) (by unfold maxLen; omega) rfl) ⟨ga, 0, none⟩ (i + 1) ca ((rowG (Qs.set i X)).take (i + 1)) (by rfl) (by rw [List.length_take, GL.out]; omega) (by exact news_take (own_below R27.out ((Below.refl w8.heap.size w8).alloc (Nat.le_refl _) (.cells #[] 38))) (i + 1) (by omega)) (fun u hu => rowG_one _ u (List.mem_of_mem_take hu)) (by have := N5.out; unfold maxLen; omega) (by have := N5.out; omega) (by simp) ?_; intro v9 w9 r9 g9; have ka := KA.out _ w9 (by first | exact ((Below.refl w8.heap.size w8).alloc (Nat.le_refl _) (.cells #[] 38)).drew | exact (Below.refl w8.heap.size w8).drew.alloc (Nat.le_refl _) _ | exact (Below.refl w8.heap.size w8).alloc (Nat.le_refl _) _) g9)
                        | (refine step_append_own rfl (.tmp 141) (.tmp 145) 63 rfl w8.heap.size 38 i0 (.pointer none) 1 8 Tryz.underlying63 hi0 hz0 hz1 hz2 rfl (by decide) v9 (0 + (i + 1)) ([] ++ (rowG (Qs.set i X)).take (i + 1)) (by rfl) (by exact r9) adA (N - (i + 2)) (ca - (i + 2)) ((rowG (Qs.set i X)).drop (i + 2)) (by rfl) (by rw [List.length_drop, GL.out]; omega) (by have z := news_drop ka.1 GL.out (i + 2) HCA.out (by decide); rw [HADV.out] at z; first | exact z | (rw [Nat.mul_one] at z; exact z)) (fun u hu => rowG_one _ u (List.mem_of_mem_drop hu)) (by have := N5.out; unfold maxLen; omega) (by have := N5.out; omega) (by exact ka.2.size) ?_; intro v10 w10 r10 g10))
                      all_goals go_wp2_with fail
                      all_goals go_meet
                      all_goals refine ⟨own_low (B := w8.heap.size) ?_ (by exact M8.out.bel.size), ka.2.grown g10 ka.2.size fun q hq => (World.ownsRow.lt r9 q hq).1⟩
                      all_goals
                        have e1 : 0 + (i + 1) + (N - (i + 2)) = N - 1 := by omega
                        rw [e1] at r10
                        have e2 : rowG (mgP Qs i X) = [] ++ (rowG (Qs.set i X)).take (i + 1) ++ (rowG (Qs.set i X)).drop (i + 2) := by unfold mgP; rw [rowG_app, rowG_take, rowG_drop, List.nil_append]
                        rw [e2]
                        exact r10
                    case rest =>
                      obtain ⟨hr27, hb27⟩ := hcut
                      obtain ⟨w11, hw11⟩ : ∃ w11 : World, w11 = wc := ⟨_, rfl⟩
                      subst hw11
                      have M11 := Lib.hid (M8.out.cutA hb27 HIQ.out (by rw [← HQ.out]; exact hr27))
                      clear hr27 hb27 stk sfk KA HADV HCA GL R27
                      have R28 : Hid (w11.ownsRow w.heap.size 56 2 (.slice (some ⟨gb, 0, none⟩) N cb) N (rowB (Qs.set i X))) := by
                        have z := M11.out.rb
                        rw [List.length_set, ← HQ.out] at z
                        exact z
                      have stk : ∀ w, (Instr.slice 64 (.slice (some ⟨gb, 0, none⟩) N cb) none (some (.int .i64 ((i : Int) + 1))) none).run Tryz.prog w = .ok (.slice (some ⟨gb, 0, none⟩) (i + 1) cb) w := fun w => by
                        have z := sl_to Tryz.underlying64 hj0 jz1 (some ⟨gb, 0, none⟩) N cb (i + 1) (by have := HQ.out; omega) w
                        rw [show ((i + 1 : Nat) : Int) = (i : Int) + 1 by omega] at z
                        exact z
                      have sfk : ∀ w, (Instr.slice 64 (.slice (some ⟨gb, 0, none⟩) N cb) (some (.int .i64 ((i : Int) + 2))) none none).run Tryz.prog w = .ok (.slice (some (advA ⟨gb, 0, none⟩ cb (i + 2) 2)) (N - (i + 2)) (cb - (i + 2))) w := fun w => by
                        have z := sl_from Tryz.underlying64 hj0 jz1 ⟨gb, 0, none⟩ N cb (i + 2) (by omega) w
                        rw [show ((i + 2 : Nat) : Int) = (i : Int) + 2 by omega] at z
                        exact z
                      have GL : Hid ((rowB (Qs.set i X)).length = N * 2) := by show _ = _; rw [rowB_len, List.length_set, ← HQ.out]
                      have KA : Hid (∀ W w9, Below w11.heap.size w11 W → World.grownBy W w9 (Value.slice (some ⟨w11.heap.size, 0, none⟩) 0 0).ownBlock → w9.ownsRow w.heap.size 56 2 (.slice (some ⟨gb, 0, none⟩) N cb) N (rowB (Qs.set i X)) ∧ Below w11.heap.size w11 w9) := fun W w9 hW hg =>
                        ⟨World.ownsRow.kept (own_below R28.out hW) hg (.inr (by have := (R28.out.lt gb rfl).2; simp [Value.ownBlock]; omega)), hW.grown hg hW.size fun q hq => by simp [Value.ownBlock] at hq; omega⟩
                      obtain ⟨adA, hadv⟩ : ∃ adA, advA ⟨gb, 0, none⟩ cb (i + 2) 2 = adA := ⟨_, rfl⟩
                      rw [hadv] at sfk
                      have HADV := Lib.hid hadv
                      have HCA := Lib.hid (show N ≤ cb by have := HQ.out; omega)
                      clear hadv
                      go_upto_region 28 with fail
                      go_region_law (first
                        | (refine step_append_own rfl (.tmp 147) (.tmp 151) 64 rfl w11.heap.size 56 j0 (.agg #[.int .i64 0, .slice none 0 0]) 2 32 Tryz.underlying64 hj0 jz0 jz1 jz2 rfl (by decide) (.slice (some ⟨w11.heap.size, 0, none⟩) 0 0) 0 [] (by rfl) (by exact World.ownsRow_lit (base := w11.heap.size) (e := 56) (size := 2) w11 #[] 0 (Nat.le_refl _) (by unfold maxLen; omega) rfl) ⟨gb, 0, none⟩ (i + 1) cb ((rowB (Qs.set i X)).take ((i + 1) * 2)) (by rfl) (by rw [List.length_take, GL.out]; omega) (by exact news_take (own_below R28.out ((Below.refl w11.heap.size w11).alloc (Nat.le_refl _) (.cells #[] 56))) ((i + 1) * 2) (by omega)) (fun u hu => rowB_one _ u (List.mem_of_mem_take hu)) (by have := N5.out; unfold maxLen; omega) (by have := N5.out; omega) (by simp) ?_; intro v9 w9 r9 g9; have ka := KA.out _ w9 (by first | exact ((Below.refl w11.heap.size w11).alloc (Nat.le_refl _) (.cells #[] 56)).drew | exact (Below.refl w11.heap.size w11).drew.alloc (Nat.le_refl _) _ | exact (Below.refl w11.heap.size w11).alloc (Nat.le_refl _) _) g9)
                        | (refine step_append_own rfl (.tmp 152) (.tmp 156) 64 rfl w11.heap.size 56 j0 (.agg #[.int .i64 0, .slice none 0 0]) 2 32 Tryz.underlying64 hj0 jz0 jz1 jz2 rfl (by decide) v9 (0 + (i + 1)) ([] ++ (rowB (Qs.set i X)).take ((i + 1) * 2)) (by rfl) (by exact r9) adA (N - (i + 2)) (cb - (i + 2)) ((rowB (Qs.set i X)).drop ((i + 2) * 2)) (by rfl) (by rw [List.length_drop, GL.out]; omega) (by have z := news_drop ka.1 GL.out (i + 2) HCA.out (by decide); rw [HADV.out] at z; first | exact z | (rw [Nat.mul_one] at z; exact z)) (fun u hu => rowB_one _ u (List.mem_of_mem_drop hu)) (by have := N5.out; unfold maxLen; omega) (by have := N5.out; omega) (by exact ka.2.size) ?_; intro v10 w10 r10 g10))
                      have hr28 : w10.ownsRow w.heap.size 56 2 v10 (N - 1) (rowB (mgP Qs i X)) := by
                        refine own_low (B := w11.heap.size) ?_ (by exact M11.out.bel.size)
                        have e1 : 0 + (i + 1) + (N - (i + 2)) = N - 1 := by omega
                        have r := r10
                        rw [e1] at r
                        have e2 : rowB (mgP Qs i X) = [] ++ (rowB (Qs.set i X)).take ((i + 1) * 2) ++ (rowB (Qs.set i X)).drop ((i + 2) * 2) := by unfold mgP; rw [rowB_app, rowB_take, rowB_drop, List.nil_append]
                        rw [e2]
                        exact r
                      have hb28 : Below w11.heap.size w11 w10 := ka.2.grown g10 ka.2.size fun q hq => (World.ownsRow.lt r9 q hq).1
                      have M12 := Lib.hid (M11.out.cutB hb28 HIQ.out (by rw [← HQ.out]; exact hr28))
                      have L12' := Lib.hid (show (mgP Qs i X).length ≤ 5 by rw [mgP_len HIQ.out]; have := Q5.out; omega)
                      clear hr28 hb28 stk sfk KA HADV HCA GL R28 r10 g10 r9 g9 ka
                      go_wp2_with fail
                      go_roundw
                      case rel => exact ⟨j2 + 1, mgP Qs i X, by omega, by go_num, M12.out, F8.out, L12'.out⟩
                      case measure => simp [intOf]; omega
              · have MN := Lib.hid (fun v (hb : Below wq.heap.size wq v) => (blMerge_any v (D1.out.below hb) (D2.out.below hb) (by have := N12.out; omega) (by have := N12.out; omega) (by have := LLe.out; omega)).mono (R' := fun e w' => e = .returned (.tuple #[.pointer none, .int .i64 (bmgE l1 l2 L1 L2)]) ∧ Below v.heap.size v w') fun e w' z => by
                  rcases z with ⟨_, z⟩ | ⟨z, _⟩
                  · exact z
                  · exact absurd z hE)
                have ce : (bmgE l1 l2 L1 L2 != 0) = true := bne_iff_ne.2 hE
                clear hE
                generalize bmgE l1 l2 L1 L2 = ee at *
                go_region_held3 (fun w' => w'.cell? ⟨ga, i, none⟩ = some (.pointer (some ⟨q1, 0, none⟩)) ∧ w'.cell? ⟨ga, i + 1, none⟩ = some (.pointer (some ⟨q2, 0, none⟩)) ∧ Below wq.heap.size wq w')
                  (first | assumption | (exact rc_keep2 (by assumption) (by assumption) HZA.out HZA.out) | (exact ⟨a1, a2, below_drew _⟩))
                  (first | (go_at_call 22; (with_reducible refine (MN.out _ (rc_below2 (p := ⟨ga, i, none⟩) (q := ⟨ga, i + 1, none⟩) (x := .pointer (some ⟨q1, 0, none⟩)) (y := .pointer (some ⟨q2, 0, none⟩)) (by assumption))).mono ?_); rintro e v5 ⟨rfl, hb5⟩))
                rename_i hH
                have B5 := Lib.hid hH.2.2
                clear hH hb5 a1 a2 MN
                go_wp2_with (go_at_call 13; refine (rnkAlive_any KK.out _).mono ?_; rintro e v7 ⟨rfl, hbv7⟩)
                go_ret
                exact ⟨rfl, AL.out _ (B5.out.trans (hbv7.mono B5.out.size))⟩
            · have c2'' : decide (1 < (N : Int)) = false := decide_eq_false (by omega)
              have c2' : decide (1 < N) = false := decide_eq_false h2
              clear hj h2
              go_wp2_with (go_at_call 13; refine (rnkAlive_any KK.out _).mono ?_; rintro e v7 ⟨rfl, hbv7⟩)
              go_ret
              exact ⟨rfl, AL.out _ hbv7⟩
          · have c1 : decide ((j2 : Int) < (n2 : Int)) = false := decide_eq_false (by omega)
            have c1' : decide (j2 < n2) = false := decide_eq_false hj
            clear hj
            go_wp2_with (go_at_call 13; refine (rnkAlive_any KK.out _).mono ?_; rintro e v7 ⟨rfl, hbv7⟩)
            go_ret
            exact ⟨rfl, AL.out _ hbv7⟩
  · have g0 : decide (5 < (n : Int)) = true := decide_eq_true (by omega)
    clear h5
    go_enter Tryz.func5, Tryz.ntmps5
    go_wp2_with (go_at_call 13; refine (rnkAlive_any KK.out _).mono ?_; rintro e v7 ⟨rfl, hbv7⟩)
    go_ret
    exact ⟨rfl, hbv7⟩

end Go.Proofs.YtfmgcabgbnfjlaaGreat

/- A walk of layer rank, over the project's contracts as they are. -/
namespace Go.Proofs.YtfmgcabgbnfjlaaGreat
theorem walk_rankMerged : type_of% (walk_rankMergedK rnkLH rnkS) := walk_rankMergedK rnkLH rnkS

end Go.Proofs.YtfmgcabgbnfjlaaGreat
