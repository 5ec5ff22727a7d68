/- The walk of the statement BlendAll of layer blend: for every input it returns true, and nothing that was there before is changed. -/
import Derived.Test.YtmcbfoimgefaoaaGreatBlAlive
import Derived.Test.YtmcbfoimgefaoaaGreatBlLaw
import Derived.Test.YtmcbfoimgefaoaaGreatBlAllM
import Derived.BigQuiet
namespace Go.Proofs.YtmcbfoimgefaoaaGreat
set_option linter.unusedVariables false
set_option maxRecDepth 100000
open Go.RowKit

theorem tmap_snoc {Ds : List DgP} {Dx : List DgX} {d : DgP} {x : DgX} (h : Ds.map tP = Dx.map tX) (e : tP d = tX x) : (Ds ++ [d]).map tP = (Dx ++ [x]).map tX := by
  rw [List.map_append, List.map_append, h, List.map_cons, List.map_cons, e]; rfl
theorem bl_keep4 {W a b : World} {p q r s : Addr} {x y z u : Value} (h : a.cell? p = some x ∧ a.cell? q = some y ∧ a.cell? r = some z ∧ a.cell? s = some u ∧ Below W.heap.size W a) (hb : Below a.heap.size a b)
    (hp : p.block < W.heap.size) (hq : q.block < W.heap.size) (hr : r.block < W.heap.size) (hs : s.block < W.heap.size) : b.cell? p = some x ∧ b.cell? q = some y ∧ b.cell? r = some z ∧ b.cell? s = some u ∧ Below W.heap.size W b := by
  obtain ⟨h1, h2, h3, h4, h5⟩ := h
  have hz := h5.size
  exact ⟨(hb.cell (by omega)).trans h1, (hb.cell (by omega)).trans h2, (hb.cell (by omega)).trans h3, (hb.cell (by omega)).trans h4, h5.trans (hb.mono hz)⟩
theorem bl_below4 {W a : World} {p q r s : Addr} {x y z u : Value} (h : a.cell? p = some x ∧ a.cell? q = some y ∧ a.cell? r = some z ∧ a.cell? s = some u ∧ Below W.heap.size W a) : Below W.heap.size W a := h.2.2.2.2
theorem dgr_info : (Tryz.prog.info? 37).map (fun i => (i.zero, i.size, i.bytes)) = some (some (.agg #[.int .i64 0, .int .i64 0, .slice none 0 0]), 3, 40) := by kernel_rfl
set_option maxHeartbeats 25600000 in
theorem walk_blendAll (A : Option Addr) (n c : Nat) (S : List SideX) (hl : S.length = n) (hm : n ≤ 9223372036854775807) (w : World) (hi : SidesAt w A S) (hg : ∀ s ∈ S, SideG w s) :
    Calls Tryz.prog 5 #[.slice A n c] w fun e w' => e = .returned (.bool true) ∧ Below w.heap.size w w' := by
  by_cases h6 : n ≤ 6
  · have g0 : decide (6 < (n : Int)) = false := decide_eq_false (by omega)
    have SI := Lib.hid hi
    have SG := Lib.hid hg
    have HL := Lib.hid hl
    have H6 := Lib.hid h6
    obtain ⟨i0, hi0, hz0, hz1, hz2⟩ := info_parts ptr_info
    obtain ⟨j0, hj0, jz0, jz1, jz2⟩ := info_parts dgr_info
    clear hi hg hl h6 hm
    go_enter Tryz.func5, Tryz.ntmps5
    go_upto_region 6 with fail
    go_loopw [3, 4, 21] (fun a ws i wr => ∃ (j : Nat) (Ds : List DgP) (Dx : List DgX), j ≤ n ∧ i = .int .i64 j ∧ Ds.length = j ∧ Dx.length = j ∧ AllM w wr a ws Ds Dx ∧ Ds.map tP = Dx.map tX ∧ (∀ d rest, Ds = d :: rest → ∃ s rest', S = s :: rest' ∧ d.kd = s.kd)) (fun _ _ i _ => n - (intOf i).toNat)
    case atStart => exact ⟨0, [], [], by omega, rfl, rfl, rfl, all_start w, rfl, fun d r h => by simp at h⟩
    case round =>
      obtain ⟨j, Ds, Dx, hj, rfl, hd1, hd2, hM, hE, hK⟩ := hrel
      have AM := Lib.hid hM
      have EE := Lib.hid hE
      have KK := Lib.hid hK
      have D1 := Lib.hid hd1
      have D2 := Lib.hid hd2
      have BB := Lib.hid hM.bel
      clear hM hE hK hd1 hd2
      have n6 : n ≤ 6 := H6.out
      by_cases hlt : j < n
      · have hjl : j < S.length := by have := HL.out; omega
        obtain ⟨b, o, rfl, hbz, e0, e1, e2, e3⟩ := SI.out j hjl
        have c0 := (BB.out.cell (p := ⟨b, o + j * 4, none⟩) hbz).trans e0
        have c1 := (BB.out.cell (p := ⟨b, o + j * 4 + 1, none⟩) hbz).trans e1
        have c2 := (BB.out.cell (p := ⟨b, o + j * 4 + 2, none⟩) hbz).trans e2
        have c3 := (BB.out.cell (p := ⟨b, o + j * 4 + 3, none⟩) hbz).trans e3
        have GG := Lib.hid ((SG.out S[j] (List.getElem_mem hjl)).below BB.out)
        have hj0' : j = 0 → ∃ rest, S = S[j] :: rest := fun z => by
          subst z
          cases S with
          | nil => simp at hjl
          | cons s rest => exact ⟨rest, rfl⟩
        have JZ := Lib.hid hj0'
        clear e0 e1 e2 e3 hj0'
        obtain ⟨s, hs⟩ : ∃ s, s = S[j] := ⟨_, rfl⟩
        rw [← hs] at c0 c1 c2 c3 GG JZ
        clear hs
        obtain ⟨l, k, kd, A2, m2, d2, O⟩ := s
        simp only at c0 c1 c2 c3
        have k0 : (0 : Int) ≤ (j : Int) := Int.natCast_nonneg _
        have k1 : (j : Int) < (n : Int) := by omega
        have X0 := Lib.hid (quad_new wr 26 (.int .i64 l) (.int .i64 k) (.int .i64 kd) (.slice A2 m2 d2))
        have BA := Lib.hid ((Below.refl wr.heap.size wr).alloc (Nat.le_refl _) (.cells #[.int .i64 l, .int .i64 k, .int .i64 kd, .slice A2 m2 d2] 26))
        obtain ⟨x0, x1, x2, x3, _, _, _, _, hz⟩ := quad_all X0.out
        go_upto_region 8 with fail
        generalize wr.alloc (.cells #[.int .i64 l, .int .i64 k, .int .i64 kd, .slice A2 m2 d2] 26) = W at *
        go_wp2_with fail
        refine (blFew_any l k kd A2 m2 d2 _).mono ?_
        rintro e w1 ⟨q, rfl, hbn, hb1⟩
        have B1 := Lib.hid (BA.out.trans (hb1.mono BA.out.size))
        have FW := Lib.hid hbn
        obtain ⟨x0, x1, x2, x3, _, _, _, _, hz⟩ := quad_all (own_below X0.out hb1)
        clear hb1 hbn c0 c1 c2 c3
        cases q
        · go_wp2_with (go_at_call 10; refine (blAlive_any _).mono ?_; rintro e v7 ⟨rfl, hbv7⟩)
          go_ret
          have z1 := B1.out.trans (hbv7.mono B1.out.size)
          exact ⟨rfl, BB.out.trans (z1.mono BB.out.size)⟩
        · have hf := FW.out (by simp)
          have HN := Lib.hid hf.1
          have MD := Lib.hid (blMade_own l k kd A2 m2 d2 O w1 (GG.out.2.2.2.1.below B1.out) GG.out.2.2.2.2.1 (by omega) hf.2)
          clear hf FW
          go_wp2_with fail
          refine MD.out.mono ?_
          rintro e w3 ⟨q, p, g, h, A3, m3, c3, rfl, hd, hv, hb3⟩
          generalize dgOf l k O = L at *
          have B3 := Lib.hid (B1.out.trans (hb3.mono B1.out.size))
          have HD := Lib.hid hd
          have HV := Lib.hid hv
          have T4 := Lib.hid (tri_nw w3 37 (.int .i64 k) (.int .i64 l) (.slice A3 m3 c3))
          have B4 := Lib.hid ((Below.refl w3.heap.size w3).alloc (Nat.le_refl _) (.cells #[.int .i64 k, .int .i64 l, .slice A3 m3 c3] 37))
          have PN : ∀ w, (binOp .eql 27 (.pointer (some ⟨q, 0, none⟩)) (.pointer none)).run Tryz.prog w = .ok (.bool false) w := fun _ => by kernel_rfl
          clear hd hv hb3 MD x0 x1 x2 x3 hz
          go_upto_region 13 with fail
          generalize w3.alloc (.cells #[.int .i64 k, .int .i64 l, .slice A3 m3 c3] 37) = W4 at *
          have M4 := Lib.hid (AM.out.below (B3.out.trans (B4.out.mono B3.out.size)))
          have B5 := Lib.hid ((Below.refl W4.heap.size W4).alloc (Nat.le_refl _) (.cells #[.pointer (some ⟨q, 0, none⟩)] 27))
          have M5 := Lib.hid (M4.out.below B5.out)
          go_wp2_with (at_builtin; refine wpList_append_own _ rfl (.tmp 36) (.tmp 38) 48 rfl w.heap.size 27 i0 (.pointer none) 1 8 Tryz.underlying48 hi0 hz0 hz1 hz2 rfl (by decide) u3 Ds.length (Ds.map fun d => ptrP (some d)) rfl M5.out.ra ⟨W4.heap.size, 0, none⟩ 1 1 [.pointer (some ⟨q, 0, none⟩)] rfl rfl (one_new _ _ _ _ rfl) (one_ptr _) (by have := D1.out; unfold maxLen; omega) (by have := D1.out; omega) M5.out.bel.size ?_)
          intro a6 w6 hown6 hgrow6 _
          have DG5 : Hid (DgA (W4.alloc (.cells #[.pointer (some ⟨q, 0, none⟩)] 27)) 0 q p g h kd l k 60 L) := (((HD.out.below B4.out).below B5.out).low (Nat.zero_le _)).more HN.out
          have M6 := Lib.hid (AllM.pushA (d := ⟨q, p, g, h, kd, l, k, 60, L⟩) M5.out hgrow6 hown6 DG5.out (Nat.le_refl _))
          have T6 := Lib.hid (World.ownsRow.kept (own_below T4.out B5.out) hgrow6 (own_apart (own_below T4.out B5.out) M5.out.ra (by decide)))
          have V5 := own_below (own_below HV.out B4.out) B5.out
          have V6 := Lib.hid (World.ownsRow.kept V5 hgrow6 (own_apart V5 M5.out.ra (by decide)))
          have VV := Lib.hid (show DgV l k L ∧ L.length ≤ 60 from ⟨HD.out.v, Nat.le_trans HD.out.po.len HN.out⟩)
          obtain ⟨t0, t1, t2, _, _, _, ht⟩ := tri_all T6.out
          have B7 := Lib.hid ((Below.refl w6.heap.size w6).alloc (Nat.le_refl _) (.cells #[.int .i64 k, .int .i64 l, .slice A3 m3 c3] 37))
          have M7 := Lib.hid (M6.out.below B7.out)
          clear hown6 hgrow6 V5
          go_wp2_with (at_builtin; refine wpList_append_own _ rfl (.tmp 40) (.tmp 42) 49 rfl w.heap.size 37 j0 (.agg #[.int .i64 0, .int .i64 0, .slice none 0 0]) 3 40 Tryz.underlying49 hj0 jz0 jz1 jz2 rfl (by decide) u4 Dx.length (rowX Dx) rfl M7.out.rx ⟨w6.heap.size, 0, none⟩ 1 1 [.int .i64 k, .int .i64 l, .slice A3 m3 c3] rfl rfl (tri_new4 _ _ _ _ _ _ rfl) (cells_dg _ _ _ _ _) (by have := D2.out; unfold maxLen; omega) (by have := D2.out; omega) M7.out.bel.size ?_)
          intro a8 w8 hown8 hgrow8 _
          have M8 := Lib.hid (AllM.pushX (d := ⟨k, l, A3, m3, c3, L⟩) M7.out hgrow8 hown8 (own_below V6.out B7.out) VV.out)
          have KN : Hid (∀ (d : DgP) (rest : List DgP), Ds ++ [⟨q, p, g, h, kd, l, k, 60, L⟩] = d :: rest → ∃ s rest', S = s :: rest' ∧ d.kd = s.kd) := by
            intro d rest hz
            cases Ds with
            | nil =>
              obtain ⟨r', hr⟩ := JZ.out (by have := D1.out; simp at this; omega)
              simp at hz
              rw [← hz.1]
              exact ⟨_, r', hr, rfl⟩
            | cons d' Ds' =>
              simp at hz
              rw [← hz.1]
              exact KK.out d' Ds' rfl
          clear hown8 hgrow8 t0 t1 t2 ht
          go_wp2_with fail
          go_roundw
          case rel => exact ⟨j + 1, _, _, by omega, by go_num, by have := D1.out; simp; omega, by have := D2.out; simp; omega, M8.out, tmap_snoc EE.out rfl, KN.out⟩
          case measure => simp [intOf]; omega
      · obtain rfl : j = n := by omega
        have UA := blAll_u AM.out (by have := D1.out; omega)
        have RA := fun v (hb : Below wr.heap.size wr v) => rBlAll_u (AM.out.below hb) (by have := D2.out; omega)
        unfold AllUPost at UA
        unfold RAllUPost at RA
        rw [← EE.out] at RA
        generalize allT (Ds.map tP) = tt at *
        obtain ⟨x, l0, k0, M⟩ := tt
        simp only at UA RA
        by_cases hx : x = 0
        · have U := Lib.hid (UA.mono (R' := fun e w' => (∃ d rest, Ds = d :: rest ∧ ∃ q p g h n, e = .returned (.tuple #[.pointer (some ⟨q, 0, none⟩), .int .i64 0]) ∧ DgA w' 0 q p g h d.kd l0 k0 n M ∧ n ≤ 420) ∧ Below wr.heap.size wr w') fun e w' z => by
            rcases z with ⟨hb, ⟨z, _⟩ | ⟨_, z⟩⟩
            · exact absurd hx z
            · exact ⟨z, hb⟩)
          have R := Lib.hid (fun v hb => (RA v hb).mono (R' := fun e w' => (∃ A m c, e = .returned (.tuple #[.agg #[.int .i64 k0, .int .i64 l0, .slice A m c], .int .i64 0]) ∧ NodesAt w' (.slice A m c) M) ∧ Below v.heap.size v w') fun e w' z => by
            rcases z with ⟨hb, ⟨z, _⟩ | ⟨_, z⟩⟩
            · exact absurd hx z
            · exact ⟨z, hb⟩)
          clear UA RA hx hlt
          go_wp2_with fail
          refine U.out.mono ?_
          rintro e w1 ⟨⟨d, rest, hDs, q, p, g, h, n', rfl, hd1, hn1⟩, hb1⟩
          have B1 := Lib.hid hb1
          have HD1 := Lib.hid hd1
          have N1 := Lib.hid hn1
          have PM : ∀ w, (binOp .neq 27 (.pointer (some ⟨q, 0, none⟩)) (.pointer none)).run Tryz.prog w = .ok (.bool true) w := fun _ => by kernel_rfl
          have PE : ∀ w, (binOp .eql 27 (.pointer (some ⟨q, 0, none⟩)) (.pointer none)).run Tryz.prog w = .ok (.bool false) w := fun _ => by kernel_rfl
          obtain ⟨s, rest', hS, hkd⟩ := KK.out d rest hDs
          have hS0 : 0 < S.length := by rw [hS]; simp
          have HN0 : Hid ((0 : Int) < (j : Int)) := by have := HL.out; show _ < _; omega
          obtain ⟨b, o, rfl, hbz, _, _, e2, _⟩ := SI.out 0 hS0
          have e3 : w.cell? ⟨b, o + 2, none⟩ = some (.int .i64 d.kd) := by
            rw [hkd]
            have z : S[0] = s := by simp [hS]
            rw [z, Nat.zero_mul, Nat.add_zero] at e2
            exact e2
          have E3 := Lib.hid e3
          have HBZ := Lib.hid hbz
          generalize d.kd = kd at *
          clear hb1 hd1 hn1 hkd e2 e3 hbz hDs
          go_wp2_with fail
          refine (R.out _ B1.out).mono ?_
          rintro e w2 ⟨⟨A2, m2, c2, rfl, hv2⟩, hb2⟩
          have B2 := Lib.hid (B1.out.trans (hb2.mono B1.out.size))
          have hba := (Below.refl w2.heap.size w2).alloc (Nat.le_refl _) (.cells #[.int .i64 k0, .int .i64 l0, .slice A2 m2 c2] 37)
          have B3 := Lib.hid (B2.out.trans (hba.mono B2.out.size))
          have D3 := Lib.hid ((HD1.out.below hb2).below hba)
          have V3 := Lib.hid (hv2.below hba)
          have T3 := Lib.hid (tri_nw w2 37 (.int .i64 k0) (.int .i64 l0) (.slice A2 m2 c2))
          clear hb2 hv2 hba
          go_upto_region 18 with fail
          generalize w2.alloc (.cells #[.int .i64 k0, .int .i64 l0, .slice A2 m2 c2] 37) = W3 at *
          obtain ⟨t0, t1, t2, _, _, _, ht⟩ := tri_all T3.out
          have hn0 := HN0.out
          have hn1 : (0 : Int) ≤ (j : Int) := by omega
          have hn2 : (1 : Int) ≤ (j : Int) := by omega
          have hn3 : 0 < j := by omega
          have hn4 : ¬ j = 0 := by omega
          have hn5 : 1 ≤ j := by omega
          have HT := Lib.hid ht
          have BW := Lib.hid (BB.out.trans (B3.out.mono BB.out.size))
          have e3 := (BW.out.cell (p := ⟨b, o + 2, none⟩) HBZ.out).trans E3.out
          have hbW : Hid (b < W3.heap.size) := Nat.lt_of_lt_of_le HBZ.out BW.out.size
          have LK := Lib.hid (fun v (hb : Below W3.heap.size W3 v) => blLike_any A2 m2 c2 v (D3.out.below hb) (by have := N1.out; omega) (V3.out.below hb))
          go_region_held3 (fun w' => w'.cell? ⟨b, o + 2, none⟩ = some (.int .i64 kd) ∧ w'.cell? ⟨w2.heap.size, 0, none⟩ = some (.int .i64 k0) ∧ w'.cell? ⟨w2.heap.size, 1, none⟩ = some (.int .i64 l0) ∧ w'.cell? ⟨w2.heap.size, 2, none⟩ = some (.slice A2 m2 c2) ∧ Below W3.heap.size W3 w')
            (first | assumption | (exact bl_keep4 (by assumption) (by assumption) hbW.out HT.out HT.out HT.out) | (exact ⟨e3, t0, t1, t2, below_drew _⟩))
            (first
              | (go_at_call 13; refine (LK.out _ (bl_below4 (p := ⟨b, o + 2, none⟩) (q := ⟨w2.heap.size, 0, none⟩) (r := ⟨w2.heap.size, 1, none⟩) (s := ⟨w2.heap.size, 2, none⟩) (x := .int .i64 kd) (y := .int .i64 k0) (z := .int .i64 l0) (u := .slice A2 m2 c2) (by assumption))).mono ?_; rintro e v8 ⟨rfl, hb8⟩))
          rename_i hH
          have B4 := Lib.hid (B3.out.trans (Below.mono hH.2.2.2.2 B3.out.size))
          clear hH t0 t1 t2 e3
          have M5 := Lib.hid (AM.out.below (B4.out.alloc B4.out.size (.cells #[.pointer none] 27)))
          go_wp2_with (at_builtin; refine wpList_append_own _ rfl (.tmp 81) (.tmp 82) 48 rfl w.heap.size 27 i0 (.pointer none) 1 8 Tryz.underlying48 hi0 hz0 hz1 hz2 rfl (by decide) u3 Ds.length (Ds.map fun d => ptrP (some d)) rfl M5.out.ra ⟨_, 0, none⟩ 1 1 [.pointer none] rfl rfl (one_new _ _ _ _ rfl) (one_ptr _) (by have := D1.out; unfold maxLen; omega) (by have := D1.out; omega) M5.out.bel.size ?_)
          intro a6 w6 hown6 hgrow6 _
          have NU := Lib.hid (blAll_nilU hown6 (M5.out.grownA hgrow6) (by have := D1.out; omega))
          have B6 := Lib.hid (M5.out.bel.grown hgrow6 M5.out.bel.size fun g hq => (World.ownsRow.lt M5.out.ra g hq).1)
          clear hown6 hgrow6
          go_wp2_with fail
          refine NU.out.mono ?_
          rintro e w7 ⟨y, hy, rfl, hb7⟩
          have c9 : (y != 0) = true := bne_iff_ne.2 hy
          have B7 := Lib.hid (B6.out.trans (hb7.mono B6.out.size))
          clear hy hb7
          go_wp2_with (go_at_call 10; refine (blAlive_any _).mono ?_; rintro e v7 ⟨rfl, hbv7⟩)
          go_ret
          exact ⟨rfl, B7.out.trans (hbv7.mono B7.out.size)⟩
        · have U := Lib.hid (UA.mono (R' := fun e w' => e = .returned (.tuple #[.pointer none, .int .i64 x]) ∧ Below wr.heap.size wr w') fun e w' z => by
            rcases z with ⟨hb, ⟨_, z⟩ | ⟨z, _⟩⟩
            · exact ⟨z, hb⟩
            · exact absurd z hx)
          have R := Lib.hid (fun v hb => (RA v hb).mono (R' := fun e w' => e = .returned (.tuple #[.agg #[.int .i64 0, .int .i64 0, .slice none 0 0], .int .i64 x]) ∧ Below v.heap.size v w') fun e w' z => by
            rcases z with ⟨hb, ⟨_, z⟩ | ⟨z, _⟩⟩
            · exact ⟨z, hb⟩
            · exact absurd z hx)
          have c1 : (x != x) = false := by simp
          have c2 : (x != 0) = true := bne_iff_ne.2 hx
          clear UA RA hx hlt
          go_wp2_with fail
          refine U.out.mono ?_
          rintro e w1 ⟨rfl, hb1⟩
          have B1 := Lib.hid hb1
          clear hb1
          go_wp2_with fail
          refine (R.out _ B1.out).mono ?_
          rintro e w2 ⟨rfl, hb2⟩
          have B2 := Lib.hid (B1.out.trans (hb2.mono B1.out.size))
          have B3 := Lib.hid (B2.out.alloc B2.out.size (.cells #[.int .i64 0, .int .i64 0, .slice none 0 0] 37))
          clear hb2
          go_upto_region 18 with fail
          generalize w2.alloc (.cells #[.int .i64 0, .int .i64 0, .slice none 0 0] 37) = W3 at *
          go_quiet (fail)
          have B4 := Lib.hid (B3.out.trans ((drewN_below (Below.refl W3.heap.size W3) nq).mono B3.out.size))
          have M5 := Lib.hid (AM.out.below (B4.out.alloc B4.out.size (.cells #[.pointer none] 27)))
          go_wp2_with (at_builtin; refine wpList_append_own _ rfl (.tmp 81) (.tmp 82) 48 rfl w.heap.size 27 i0 (.pointer none) 1 8 Tryz.underlying48 hi0 hz0 hz1 hz2 rfl (by decide) u3 Ds.length (Ds.map fun d => ptrP (some d)) rfl M5.out.ra ⟨_, 0, none⟩ 1 1 [.pointer none] rfl rfl (one_new _ _ _ _ rfl) (one_ptr _) (by have := D1.out; unfold maxLen; omega) (by have := D1.out; omega) M5.out.bel.size ?_)
          intro a6 w6 hown6 hgrow6 _
          have NU := Lib.hid (blAll_nilU hown6 (M5.out.grownA hgrow6) (by have := D1.out; omega))
          have B6 := Lib.hid (M5.out.bel.grown hgrow6 M5.out.bel.size fun g hq => (World.ownsRow.lt M5.out.ra g hq).1)
          clear hown6 hgrow6
          go_wp2_with fail
          refine NU.out.mono ?_
          rintro e w7 ⟨y, hy, rfl, hb7⟩
          have c9 : (y != 0) = true := bne_iff_ne.2 hy
          have B7 := Lib.hid (B6.out.trans (hb7.mono B6.out.size))
          clear hy hb7
          go_wp2_with (go_at_call 10; refine (blAlive_any _).mono ?_; rintro e v7 ⟨rfl, hbv7⟩)
          go_ret
          exact ⟨rfl, B7.out.trans (hbv7.mono B7.out.size)⟩
  · have g0 : decide (6 < (n : Int)) = true := decide_eq_true (by omega)
    clear h6 hm hl hi hg
    go_enter Tryz.func5, Tryz.ntmps5
    go_wp2_with (go_at_call 10; refine (blAlive_any _).mono ?_; rintro e v7 ⟨rfl, hbv7⟩)
    go_ret
    exact ⟨rfl, hbv7⟩

end Go.Proofs.YtmcbfoimgefaoaaGreat
