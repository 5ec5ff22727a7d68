/- The walk of the statement BlendMerges of layer blend: for every input it returns true, and nothing that was there before is changed. -/
import Derived.Test.YtmcbfoimgefaoaaGreatBlAlive
import Derived.Test.YtmcbfoimgefaoaaGreatBlLaw
import Derived.Test.YtmcbfoimgefaoaaGreatBlR
import Derived.Test.YtmcbfoimgefaoaaGreatOpen10
namespace Go.Proofs.YtmcbfoimgefaoaaGreat
set_option linter.unusedVariables false
set_option maxRecDepth 100000
open Go.RowKit

/-- what Merge leaves where both are merged; where not -/
theorem blMerge_yes {B q p g h B2 q2 p2 g2 h2 : Nat} {kd la ka kd2 lb kb : Int} {n n2 : Nat} {L M : List Nd} (w : World) (d : DgA w B q p g h kd la ka n L) (d2 : DgA w B2 q2 p2 g2 h2 kd2 lb kb n2 M) (hn : n ≤ 400) (hn2 : n2 ≤ 400) (hnn : L.length + M.length ≤ 500) (hE : bmgE la lb L M = 0) :
    Calls Tryz.prog 14 #[.pointer (some ⟨q, 0, none⟩), .pointer (some ⟨q2, 0, none⟩)] w (BlPost kd la (bmgK ka kb) (bmgL la (bmgK ka kb) L M) w) :=
  (blMerge_any w d d2 hn hn2 hnn).mono fun e w' z => by
    rcases z with ⟨z, _⟩ | ⟨_, _, z⟩
    · exact absurd hE z
    · exact z
theorem blMerge_not {B q p g h B2 q2 p2 g2 h2 : Nat} {kd la ka kd2 lb kb : Int} {n n2 : Nat} {L M : List Nd} (w : World) (d : DgA w B q p g h kd la ka n L) (d2 : DgA w B2 q2 p2 g2 h2 kd2 lb kb n2 M) (hn : n ≤ 400) (hn2 : n2 ≤ 400) (hnn : L.length + M.length ≤ 500) (hE : ¬ bmgE la lb L M = 0) :
    Calls Tryz.prog 14 #[.pointer (some ⟨q, 0, none⟩), .pointer (some ⟨q2, 0, none⟩)] w (BlNo (bmgE la lb L M) w) :=
  (blMerge_any w d d2 hn hn2 hnn).mono fun e w' z => by
    rcases z with ⟨_, z⟩ | ⟨z, _⟩
    · exact z
    · exact absurd z hE
theorem rBlMrg_yes (la ka lb kb : Int) (A A2 : Option Addr) (n c n2 c2 : Nat) (L M : List Nd) (w : World) (h1 : NodesAt w (.slice A n c) L) (h2 : NodesAt w (.slice A2 n2 c2) M) (hL : DgV la ka L) (hM : DgV lb kb M) (hn : n ≤ 400) (hn2 : n2 ≤ 400) (hE : bmgE la lb L M = 0) :
    Calls Tryz.prog 15 #[.agg #[.int .i64 ka, .int .i64 la, .slice A n c], .agg #[.int .i64 kb, .int .i64 lb, .slice A2 n2 c2]] w (RBlPost (bmgK ka kb) la (bmgL la (bmgK ka kb) L M) 0 w) :=
  (rBlMrg_any la ka lb kb A A2 n c n2 c2 L M w h1 h2 hL hM hn hn2).mono fun e w' z => by
    rcases z with ⟨z, _⟩ | ⟨_, _, A3, m3, c3, a, b, d⟩
    · exact absurd hE z
    · exact ⟨A3, m3, c3, a, ownNd_nodes b, d⟩
theorem rBlMrg_not (la ka lb kb : Int) (A A2 : Option Addr) (n c n2 c2 : Nat) (L M : List Nd) (w : World) (h1 : NodesAt w (.slice A n c) L) (h2 : NodesAt w (.slice A2 n2 c2) M) (hL : DgV la ka L) (hM : DgV lb kb M) (hn : n ≤ 400) (hn2 : n2 ≤ 400) (hE : ¬ bmgE la lb L M = 0) :
    Calls Tryz.prog 15 #[.agg #[.int .i64 ka, .int .i64 la, .slice A n c], .agg #[.int .i64 kb, .int .i64 lb, .slice A2 n2 c2]] w (RBlNo (bmgE la lb L M) w) :=
  (rBlMrg_any la ka lb kb A A2 n c n2 c2 L M w h1 h2 hL hM hn hn2).mono fun e w' z => by
    rcases z with ⟨_, z⟩ | ⟨z, _⟩
    · exact z
    · exact absurd z hE
theorem bmg_len120 {la lb ka kb : Int} {L M : List Nd} (a : DgV la ka L) (b : DgV lb kb M) (hE : bmgE la lb L M = 0) : (bmgL la (bmgK ka kb) L M).length ≤ L.length + M.length := by
  have hl : la = lb := by
    by_cases z : la = lb
    · exact z
    · rw [bmgE_shape z] at hE; omega
  have hs : ¬ 72057594037927935 < sumC L + sumC M := fun z => by
    rw [← hl, bmgE_full z] at hE; omega
  rw [← hl] at b
  exact (dgV_bmg a b hs).2.2.1
set_option maxHeartbeats 25600000 in
theorem walk_blendMerges (s t : SideX) (w : World) (hs : SideG w s) (ht : SideG w t) :
    Calls Tryz.prog 4 #[.agg #[.int .i64 s.l, .int .i64 s.k, .int .i64 s.kd, .slice s.A s.n s.c], .agg #[.int .i64 t.l, .int .i64 t.k, .int .i64 t.kd, .slice t.A t.n t.c]] w fun e w' => e = .returned (.bool true) ∧ Below w.heap.size w w' := by
  obtain ⟨l, k, kd, A, n, c, O⟩ := s
  obtain ⟨l', k', kd', A', n', c', O'⟩ := t
  obtain ⟨_, _, _, hp, hob, _⟩ := hs
  obtain ⟨_, _, _, hp', hob', _⟩ := ht
  simp only at hp hob hp' hob' ⊢
  have e1 : (w.alloc (.cells #[.int .i64 l, .int .i64 k, .int .i64 kd, .slice A n c] 26)).heap.size = w.heap.size + 1 := by simp
  have HB0 : Hid (Below w.heap.size w ((w.alloc (.cells #[.int .i64 l, .int .i64 k, .int .i64 kd, .slice A n c] 26)).alloc (.cells #[.int .i64 l', .int .i64 k', .int .i64 kd', .slice A' n' c'] 26))) := ((Below.refl _ _).alloc (Nat.le_refl _) _).alloc (by rw [e1]; omega) _
  have X0 := Lib.hid ((quad_new w 26 (.int .i64 l) (.int .i64 k) (.int .i64 kd) (.slice A n c)).alloc (.cells #[.int .i64 l', .int .i64 k', .int .i64 kd', .slice A' n' c'] 26))
  have Y0 := quad_new (w.alloc (.cells #[.int .i64 l, .int .i64 k, .int .i64 kd, .slice A n c] 26)) 26 (.int .i64 l') (.int .i64 k') (.int .i64 kd') (.slice A' n' c')
  rw [e1] at Y0
  have Y0 := Lib.hid Y0
  have P0 := Lib.hid (hp.below HB0.out)
  have P0' := Lib.hid (hp'.below HB0.out)
  have OB := Lib.hid hob
  have OB' := Lib.hid hob'
  obtain ⟨x0, x1, x2, x3, _, _, _, _, hz⟩ := quad_all X0.out
  clear hp hob hp' hob' e1
  go_enter Tryz.func4, Tryz.ntmps4
  go_wp2_with fail
  generalize (w.alloc (.cells #[.int .i64 l, .int .i64 k, .int .i64 kd, .slice A n c] 26)).alloc (.cells #[.int .i64 l', .int .i64 k', .int .i64 kd', .slice A' n' c'] 26) = W at *
  refine (blFew_any l k kd A n c _).mono ?_
  rintro e w1 ⟨b, rfl, hbn, hb1⟩
  have B1 := Lib.hid hb1
  have FW := Lib.hid hbn
  clear hb1 hbn x0 x1 x2 x3 hz
  cases b
  · go_wp2_with (go_at_call 10; refine (blAlive_any _).mono ?_; rintro e v7 ⟨rfl, hbv7⟩)
    go_ret
    exact ⟨rfl, HB0.out.trans ((B1.out.trans (hbv7.mono B1.out.size)).mono HB0.out.size)⟩
  obtain ⟨y0, y1, y2, y3, _, _, _, _, hy⟩ := quad_all (own_below Y0.out B1.out)
  go_wp2_with fail
  refine (blFew_any l' k' kd' A' n' c' _).mono ?_
  rintro e w2 ⟨b, rfl, hbn, hb2⟩
  have B2 := Lib.hid (B1.out.trans (hb2.mono B1.out.size))
  have FW' := Lib.hid hbn
  clear hb2 hbn y0 y1 y2 y3 hy
  cases b
  · go_wp2_with (go_at_call 10; refine (blAlive_any _).mono ?_; rintro e v7 ⟨rfl, hbv7⟩)
    go_ret
    exact ⟨rfl, HB0.out.trans ((B2.out.trans (hbv7.mono B2.out.size)).mono HB0.out.size)⟩
  have hf := FW.out (by simp)
  have hf' := FW'.out (by simp)
  have HN := Lib.hid hf.1
  have HN' := Lib.hid hf'.1
  have MD := Lib.hid (blMade_any l k kd A n c O w2 (P0.out.below B2.out) OB.out (by omega) hf.2)
  have MD' := Lib.hid (fun v (hb : Below _ _ v) => blMade_any l' k' kd' A' n' c' O' v (P0'.out.below hb) OB'.out (by omega) hf'.2)
  obtain ⟨x0, x1, x2, x3, _, _, _, _, hz⟩ := quad_all (own_below X0.out B2.out)
  clear hf hf' FW FW' B1
  go_wp2_with fail
  refine MD.out.mono ?_
  rintro e w3 ⟨q, p, g, h, A3, m3, c3, rfl, hd, hv, hb3⟩
  generalize dgOf l k O = L at *
  have hba := (Below.refl w3.heap.size w3).alloc (Nat.le_refl _) (.cells #[.int .i64 k, .int .i64 l, .slice A3 m3 c3] 37)
  have R4 := Lib.hid ((B2.out.trans (hb3.mono B2.out.size)).trans (hba.mono (B2.out.trans (hb3.mono B2.out.size)).size))
  have D4 := Lib.hid (hd.below hba)
  have V4 := Lib.hid (hv.below hba)
  have T4 := Lib.hid (tri_nw w3 37 (.int .i64 k) (.int .i64 l) (.slice A3 m3 c3))
  have ML := Lib.hid (show m3 ≤ 400 by have a := (nodes_cells hv).1; have b := hd.po.len; have c := HN.out; omega)
  have PN : ∀ w, (binOp .eql 27 (.pointer (some ⟨q, 0, none⟩)) (.pointer none)).run Tryz.prog w = .ok (.bool false) w := fun _ => by kernel_rfl
  obtain ⟨y0, y1, y2, y3, _, _, _, _, hy⟩ := quad_all (own_below Y0.out R4.out)
  clear hd hv hb3 hba MD x0 x1 x2 x3 hz
  go_wp2_with fail
  generalize w3.alloc (.cells #[.int .i64 k, .int .i64 l, .slice A3 m3 c3] 37) = W4 at *
  refine (MD'.out _ R4.out).mono ?_
  rintro e w5 ⟨q', p', g', h', A5, m5, c5, rfl, hd, hv, hb5⟩
  generalize dgOf l' k' O' = M at *
  have hba := (Below.refl w5.heap.size w5).alloc (Nat.le_refl _) (.cells #[.int .i64 k', .int .i64 l', .slice A5 m5 c5] 37)
  have hb6 := hb5.trans (hba.mono hb5.size)
  have R6 := Lib.hid (R4.out.trans (hb6.mono R4.out.size))
  have D6 := Lib.hid (D4.out.below hb6)
  have V6 := Lib.hid (V4.out.below hb6)
  have T6 := Lib.hid (own_below T4.out hb6)
  have D6' := Lib.hid (hd.below hba)
  have V6' := Lib.hid (hv.below hba)
  have T6' := Lib.hid (tri_nw w5 37 (.int .i64 k') (.int .i64 l') (.slice A5 m5 c5))
  have ML' := Lib.hid (show m5 ≤ 400 by have a := (nodes_cells hv).1; have b := hd.po.len; have c := HN'.out; omega)
  have PN' : ∀ w, (binOp .eql 27 (.pointer (some ⟨q', 0, none⟩)) (.pointer none)).run Tryz.prog w = .ok (.bool false) w := fun _ => by kernel_rfl
  have X6 := Lib.hid (own_below X0.out R6.out)
  have Y6 := Lib.hid (own_below Y0.out R6.out)
  have LL := Lib.hid (show L.length + M.length ≤ 120 by have a := D6.out.po.len; have b := hd.po.len; have c := HN.out; have d := HN'.out; omega)
  have LLL := Lib.hid (show M.length + M.length ≤ 120 by have b := hd.po.len; have d := HN'.out; omega)
  have NL := Lib.hid (show n ≤ 400 by have c := HN.out; omega)
  have NL' := Lib.hid (show n' ≤ 400 by have c := HN'.out; omega)
  clear hd hv hb5 hb6 hba MD' y0 y1 y2 y3 hy D4 V4 T4 R4 X0 Y0
  go_upto_region 7 with fail
  generalize w5.alloc (.cells #[.int .i64 k', .int .i64 l', .slice A5 m5 c5] 37) = W6 at *
  by_cases hE : bmgE l l' L M = 0
  · have MG := Lib.hid (blMerge_yes _ D6.out D6'.out NL.out NL'.out (by have := LL.out; omega) hE)
    have RG := Lib.hid (fun v (hb : Below _ _ v) => rBlMrg_yes l k l' k' A3 A5 m3 c3 m5 c5 L M v (V6.out.below hb) (V6'.out.below hb) D6.out.v D6'.out.v ML.out ML'.out hE)
    have L1 := Lib.hid (show (bmgL l (bmgK k k') L M).length ≤ 400 by have a := bmg_len120 D6.out.v D6'.out.v hE; have b := LL.out; omega)
    clear hE
    generalize bmgL l (bmgK k k') L M = F at *
    generalize bmgK k k' = k0 at *
    go_wp2_with fail
    refine MG.out.mono ?_
    rintro e w7 ⟨hb7, q7, p7, g7, h7, rfl, hd7⟩
    have R7 := Lib.hid hb7
    have D7 := Lib.hid hd7
    have PN7 : ∀ w, (binOp .eql 27 (.pointer (some ⟨q7, 0, none⟩)) (.pointer none)).run Tryz.prog w = .ok (.bool false) w := fun _ => by kernel_rfl
    have PM7 : ∀ w, (binOp .neq 27 (.pointer (some ⟨q7, 0, none⟩)) (.pointer none)).run Tryz.prog w = .ok (.bool true) w := fun _ => by kernel_rfl
    clear hb7 hd7
    obtain ⟨t0, t1, t2, _, _, _, ht⟩ := tri_all (own_below T6.out R7.out)
    obtain ⟨u0, u1, u2, _, _, _, hu⟩ := tri_all (own_below T6'.out R7.out)
    go_wp2_with fail
    refine (RG.out _ R7.out).mono ?_
    rintro e w8 ⟨A8, m8, c8, rfl, hv8, hb8⟩
    have hba := (Below.refl w8.heap.size w8).alloc (Nat.le_refl _) (.cells #[.int .i64 k0, .int .i64 l, .slice A8 m8 c8] 37)
    have hbt := hb8.trans (hba.mono hb8.size)
    have RN := Lib.hid (R7.out.trans (hbt.mono R7.out.size))
    have V9 := Lib.hid (hv8.below hba)
    have D9 := Lib.hid (D7.out.below hbt)
    have T9 := Lib.hid (tri_nw w8 37 (.int .i64 k0) (.int .i64 l) (.slice A8 m8 c8))
    have Q9 := Lib.hid (Below.refl (w8.alloc (.cells #[.int .i64 k0, .int .i64 l, .slice A8 m8 c8] 37)).heap.size (w8.alloc (.cells #[.int .i64 k0, .int .i64 l, .slice A8 m8 c8] 37)))
    clear hba hbt hv8 hb8 t0 t1 t2 ht u0 u1 u2 hu D7
    go_upto_region 9 with fail
    generalize w8.alloc (.cells #[.int .i64 k0, .int .i64 l, .slice A8 m8 c8] 37) = W9 at *
    obtain ⟨x0, x1, x2, x3, _, _, _, _, hz⟩ := quad_all (own_below X6.out RN.out)
    obtain ⟨t0, t1, t2, _, _, _, ht⟩ := tri_all (own_below T6.out RN.out)
    go_wp2_with fail
    refine (blLike_any _ _ _ _ (D6.out.below RN.out) (by have := NL.out; omega) (V6.out.below RN.out)).mono ?_
    rintro e w10 ⟨rfl, hb⟩
    have RN := Lib.hid (RN.out.trans (hb.mono RN.out.size))
    have Q9 := Lib.hid hb
    clear hb x0 x1 x2 x3 hz t0 t1 t2 ht
    obtain ⟨x0, x1, x2, x3, _, _, _, _, hz⟩ := quad_all (own_below Y6.out RN.out)
    obtain ⟨t0, t1, t2, _, _, _, ht⟩ := tri_all (own_below T6'.out RN.out)
    go_wp2_with fail
    refine (blLike_any _ _ _ _ (D6'.out.below RN.out) (by have := NL'.out; omega) (V6'.out.below RN.out)).mono ?_
    rintro e w11 ⟨rfl, hb⟩
    have RN := Lib.hid (RN.out.trans (hb.mono RN.out.size))
    have Q9 := Lib.hid (Q9.out.trans (hb.mono Q9.out.size))
    clear hb x0 x1 x2 x3 hz t0 t1 t2 ht
    obtain ⟨x0, x1, x2, x3, _, _, _, _, hz⟩ := quad_all (own_below X6.out RN.out)
    obtain ⟨t0, t1, t2, _, _, _, ht⟩ := tri_all (own_below T9.out Q9.out)
    go_wp2_with fail
    refine (blLike_any _ _ _ _ (D9.out.below Q9.out) (by have := L1.out; omega) (V9.out.below Q9.out)).mono ?_
    rintro e w11' ⟨rfl, hb⟩
    have RN := Lib.hid (RN.out.trans (hb.mono RN.out.size))
    clear hb x0 x1 x2 x3 hz t0 t1 t2 ht
    go_upto_region 11 with fail
    by_cases hE2 : bmgE l' l' M M = 0
    · have MG2 := Lib.hid (blMerge_yes _ (D6'.out.below RN.out) (D6'.out.below RN.out) NL'.out NL'.out (by have := LLL.out; omega) hE2)
      have RG2 := Lib.hid (fun v (hb : Below _ _ v) => rBlMrg_yes l' k' l' k' A5 A5 m5 c5 m5 c5 M M v (V6'.out.below hb) (V6'.out.below hb) D6'.out.v D6'.out.v ML'.out ML'.out hE2)
      have L2 := Lib.hid (show (bmgL l' (bmgK k' k') M M).length ≤ 400 by have a := bmg_len120 D6'.out.v D6'.out.v hE2; have b := LLL.out; omega)
      clear hE2
      generalize bmgL l' (bmgK k' k') M M = G at *
      generalize bmgK k' k' = kk at *
      go_wp2_with fail
      refine MG2.out.mono ?_
      rintro e w12 ⟨hb12, q12, p12, g12, h12, rfl, hd12⟩
      have R12 := Lib.hid (RN.out.trans (hb12.mono RN.out.size))
      have D12 := Lib.hid hd12
      have PN12 : ∀ w, (binOp .eql 27 (.pointer (some ⟨q12, 0, none⟩)) (.pointer none)).run Tryz.prog w = .ok (.bool false) w := fun _ => by kernel_rfl
      clear hb12 hd12
      obtain ⟨t0, t1, t2, _, _, _, ht⟩ := tri_all (own_below T6'.out R12.out)
      go_wp2_with fail
      refine (RG2.out _ R12.out).mono ?_
      rintro e w13 ⟨A13, m13, c13, rfl, hv13, hb13⟩
      have hba := (Below.refl w13.heap.size w13).alloc (Nat.le_refl _) (.cells #[.int .i64 kk, .int .i64 l', .slice A13 m13 c13] 37)
      have hbt := hb13.trans (hba.mono hb13.size)
      have R14 := Lib.hid (R12.out.trans (hbt.mono R12.out.size))
      have V14 := Lib.hid (hv13.below hba)
      have D14 := Lib.hid (D12.out.below hbt)
      have T14 := Lib.hid (tri_nw w13 37 (.int .i64 kk) (.int .i64 l') (.slice A13 m13 c13))
      clear hba hbt hv13 hb13 t0 t1 t2 ht D12
      obtain ⟨x0, x1, x2, x3, _, _, _, _, hz⟩ := quad_all (own_below Y6.out R14.out)
      obtain ⟨t0, t1, t2, _, _, _, ht⟩ := tri_all T14.out
      go_upto_region 13 with fail
      generalize w13.alloc (.cells #[.int .i64 kk, .int .i64 l', .slice A13 m13 c13] 37) = W14 at *
      go_wp2_with fail
      refine (blLike_any _ _ _ _ D14.out (by have := L2.out; omega) V14.out).mono ?_
      rintro e w15 ⟨rfl, hb15⟩
      have R15 := Lib.hid (R14.out.trans (hb15.mono R14.out.size))
      clear hb15 x0 x1 x2 x3 hz t0 t1 t2 ht
      go_wp2_with (go_at_call 10; refine (blAlive_any _).mono ?_; rintro e v7 ⟨rfl, hbv7⟩)
      go_ret
      have z1 := R15.out.trans (hbv7.mono R15.out.size)
      have z2 := R6.out.trans (z1.mono R6.out.size)
      exact ⟨rfl, HB0.out.trans (z2.mono HB0.out.size)⟩
    · have MG2 := Lib.hid (blMerge_not _ (D6'.out.below RN.out) (D6'.out.below RN.out) NL'.out NL'.out (by have := LLL.out; omega) hE2)
      have RG2 := Lib.hid (fun v (hb : Below _ _ v) => rBlMrg_not l' k' l' k' A5 A5 m5 c5 m5 c5 M M v (V6'.out.below hb) (V6'.out.below hb) D6'.out.v D6'.out.v ML'.out ML'.out hE2)
      generalize bmgE l' l' M M = ee at *
      have c1 : (ee == 0) = false := beq_eq_false_iff_ne.2 hE2
      have c2 : (ee != 0) = true := bne_iff_ne.2 hE2
      have c3 : (ee == ee) = true := by simp
      clear hE2
      go_wp2_with fail
      refine MG2.out.mono ?_
      rintro e w12 ⟨rfl, hb12⟩
      have R12 := Lib.hid (RN.out.trans (hb12.mono RN.out.size))
      clear hb12
      obtain ⟨t0, t1, t2, _, _, _, ht⟩ := tri_all (own_below T6'.out R12.out)
      go_wp2_with fail
      refine (RG2.out _ R12.out).mono ?_
      rintro e w13 ⟨rfl, hb13⟩
      have hba := (Below.refl w13.heap.size w13).alloc (Nat.le_refl _) (.cells #[.int .i64 0, .int .i64 0, .slice none 0 0] 37)
      have hbt := hb13.trans (hba.mono hb13.size)
      have R14 := Lib.hid (R12.out.trans (hbt.mono R12.out.size))
      clear hba hbt hb13 t0 t1 t2 ht
      go_upto_region 13 with fail
      generalize w13.alloc (.cells #[.int .i64 0, .int .i64 0, .slice none 0 0] 37) = W14 at *
      go_wp2_with (go_at_call 10; refine (blAlive_any _).mono ?_; rintro e v7 ⟨rfl, hbv7⟩)
      go_ret
      have z1 := R14.out.trans (hbv7.mono R14.out.size)
      have z2 := R6.out.trans (z1.mono R6.out.size)
      exact ⟨rfl, HB0.out.trans (z2.mono HB0.out.size)⟩
  · have MG := Lib.hid (blMerge_not _ D6.out D6'.out NL.out NL'.out (by have := LL.out; omega) hE)
    have RG := Lib.hid (fun v (hb : Below _ _ v) => rBlMrg_not l k l' k' A3 A5 m3 c3 m5 c5 L M v (V6.out.below hb) (V6'.out.below hb) D6.out.v D6'.out.v ML.out ML'.out hE)
    generalize bmgE l l' L M = e0 at *
    have c1 : (e0 == 0) = false := beq_eq_false_iff_ne.2 hE
    have c2 : (e0 != 0) = true := bne_iff_ne.2 hE
    have c3 : (e0 != e0) = false := by simp
    clear hE
    go_wp2_with fail
    refine MG.out.mono ?_
    rintro e w7 ⟨rfl, hb7⟩
    have R7 := Lib.hid hb7
    clear hb7
    obtain ⟨t0, t1, t2, _, _, _, ht⟩ := tri_all (own_below T6.out R7.out)
    obtain ⟨u0, u1, u2, _, _, _, hu⟩ := tri_all (own_below T6'.out R7.out)
    go_wp2_with fail
    refine (RG.out _ R7.out).mono ?_
    rintro e w8 ⟨rfl, hb8⟩
    have hba := (Below.refl w8.heap.size w8).alloc (Nat.le_refl _) (.cells #[.int .i64 0, .int .i64 0, .slice none 0 0] 37)
    have hbt := hb8.trans (hba.mono hb8.size)
    have RN := Lib.hid (R7.out.trans (hbt.mono R7.out.size))
    clear hba hbt hb8 t0 t1 t2 ht u0 u1 u2 hu
    go_upto_region 9 with fail
    generalize w8.alloc (.cells #[.int .i64 0, .int .i64 0, .slice none 0 0] 37) = W9 at *
    obtain ⟨x0, x1, x2, x3, _, _, _, _, hz⟩ := quad_all (own_below X6.out RN.out)
    obtain ⟨t0, t1, t2, _, _, _, ht⟩ := tri_all (own_below T6.out RN.out)
    go_wp2_with fail
    refine (blLike_any _ _ _ _ (D6.out.below RN.out) (by have := NL.out; omega) (V6.out.below RN.out)).mono ?_
    rintro e w10 ⟨rfl, hb⟩
    have RN := Lib.hid (RN.out.trans (hb.mono RN.out.size))
    clear hb x0 x1 x2 x3 hz t0 t1 t2 ht
    obtain ⟨x0, x1, x2, x3, _, _, _, _, hz⟩ := quad_all (own_below Y6.out RN.out)
    obtain ⟨t0, t1, t2, _, _, _, ht⟩ := tri_all (own_below T6'.out RN.out)
    go_wp2_with fail
    refine (blLike_any _ _ _ _ (D6'.out.below RN.out) (by have := NL'.out; omega) (V6'.out.below RN.out)).mono ?_
    rintro e w11 ⟨rfl, hb⟩
    have RN := Lib.hid (RN.out.trans (hb.mono RN.out.size))
    clear hb x0 x1 x2 x3 hz t0 t1 t2 ht
    go_upto_region 11 with fail
    by_cases hE2 : bmgE l' l' M M = 0
    · have MG2 := Lib.hid (blMerge_yes _ (D6'.out.below RN.out) (D6'.out.below RN.out) NL'.out NL'.out (by have := LLL.out; omega) hE2)
      have RG2 := Lib.hid (fun v (hb : Below _ _ v) => rBlMrg_yes l' k' l' k' A5 A5 m5 c5 m5 c5 M M v (V6'.out.below hb) (V6'.out.below hb) D6'.out.v D6'.out.v ML'.out ML'.out hE2)
      have L2 := Lib.hid (show (bmgL l' (bmgK k' k') M M).length ≤ 400 by have a := bmg_len120 D6'.out.v D6'.out.v hE2; have b := LLL.out; omega)
      clear hE2
      generalize bmgL l' (bmgK k' k') M M = G at *
      generalize bmgK k' k' = kk at *
      go_wp2_with fail
      refine MG2.out.mono ?_
      rintro e w12 ⟨hb12, q12, p12, g12, h12, rfl, hd12⟩
      have R12 := Lib.hid (RN.out.trans (hb12.mono RN.out.size))
      have D12 := Lib.hid hd12
      have PN12 : ∀ w, (binOp .eql 27 (.pointer (some ⟨q12, 0, none⟩)) (.pointer none)).run Tryz.prog w = .ok (.bool false) w := fun _ => by kernel_rfl
      clear hb12 hd12
      obtain ⟨t0, t1, t2, _, _, _, ht⟩ := tri_all (own_below T6'.out R12.out)
      go_wp2_with fail
      refine (RG2.out _ R12.out).mono ?_
      rintro e w13 ⟨A13, m13, c13, rfl, hv13, hb13⟩
      have hba := (Below.refl w13.heap.size w13).alloc (Nat.le_refl _) (.cells #[.int .i64 kk, .int .i64 l', .slice A13 m13 c13] 37)
      have hbt := hb13.trans (hba.mono hb13.size)
      have R14 := Lib.hid (R12.out.trans (hbt.mono R12.out.size))
      have V14 := Lib.hid (hv13.below hba)
      have D14 := Lib.hid (D12.out.below hbt)
      have T14 := Lib.hid (tri_nw w13 37 (.int .i64 kk) (.int .i64 l') (.slice A13 m13 c13))
      clear hba hbt hv13 hb13 t0 t1 t2 ht D12
      obtain ⟨x0, x1, x2, x3, _, _, _, _, hz⟩ := quad_all (own_below Y6.out R14.out)
      obtain ⟨t0, t1, t2, _, _, _, ht⟩ := tri_all T14.out
      go_upto_region 13 with fail
      generalize w13.alloc (.cells #[.int .i64 kk, .int .i64 l', .slice A13 m13 c13] 37) = W14 at *
      go_wp2_with fail
      refine (blLike_any _ _ _ _ D14.out (by have := L2.out; omega) V14.out).mono ?_
      rintro e w15 ⟨rfl, hb15⟩
      have R15 := Lib.hid (R14.out.trans (hb15.mono R14.out.size))
      clear hb15 x0 x1 x2 x3 hz t0 t1 t2 ht
      go_wp2_with (go_at_call 10; refine (blAlive_any _).mono ?_; rintro e v7 ⟨rfl, hbv7⟩)
      go_ret
      have z1 := R15.out.trans (hbv7.mono R15.out.size)
      have z2 := R6.out.trans (z1.mono R6.out.size)
      exact ⟨rfl, HB0.out.trans (z2.mono HB0.out.size)⟩
    · have MG2 := Lib.hid (blMerge_not _ (D6'.out.below RN.out) (D6'.out.below RN.out) NL'.out NL'.out (by have := LLL.out; omega) hE2)
      have RG2 := Lib.hid (fun v (hb : Below _ _ v) => rBlMrg_not l' k' l' k' A5 A5 m5 c5 m5 c5 M M v (V6'.out.below hb) (V6'.out.below hb) D6'.out.v D6'.out.v ML'.out ML'.out hE2)
      generalize bmgE l' l' M M = ee at *
      have c1 : (ee == 0) = false := beq_eq_false_iff_ne.2 hE2
      have c2 : (ee != 0) = true := bne_iff_ne.2 hE2
      have c3 : (ee == ee) = true := by simp
      clear hE2
      go_wp2_with fail
      refine MG2.out.mono ?_
      rintro e w12 ⟨rfl, hb12⟩
      have R12 := Lib.hid (RN.out.trans (hb12.mono RN.out.size))
      clear hb12
      obtain ⟨t0, t1, t2, _, _, _, ht⟩ := tri_all (own_below T6'.out R12.out)
      go_wp2_with fail
      refine (RG2.out _ R12.out).mono ?_
      rintro e w13 ⟨rfl, hb13⟩
      have hba := (Below.refl w13.heap.size w13).alloc (Nat.le_refl _) (.cells #[.int .i64 0, .int .i64 0, .slice none 0 0] 37)
      have hbt := hb13.trans (hba.mono hb13.size)
      have R14 := Lib.hid (R12.out.trans (hbt.mono R12.out.size))
      clear hba hbt hb13 t0 t1 t2 ht
      go_upto_region 13 with fail
      generalize w13.alloc (.cells #[.int .i64 0, .int .i64 0, .slice none 0 0] 37) = W14 at *
      go_wp2_with (go_at_call 10; refine (blAlive_any _).mono ?_; rintro e v7 ⟨rfl, hbv7⟩)
      go_ret
      have z1 := R14.out.trans (hbv7.mono R14.out.size)
      have z2 := R6.out.trans (z1.mono R6.out.size)
      exact ⟨rfl, HB0.out.trans (z2.mono HB0.out.size)⟩

end Go.Proofs.YtmcbfoimgefaoaaGreat
