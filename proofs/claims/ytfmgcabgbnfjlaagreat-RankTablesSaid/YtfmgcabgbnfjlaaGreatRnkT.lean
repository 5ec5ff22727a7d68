/- The project's package rank: tables in memory; Of, N, Low, High, Both, Steps. -/
import Derived.Test.YtfmgcabgbnfjlaaGreatRnkTab
import Derived.Test.YtfmgcabgbnfjlaaGreatRnkGat
import Derived.Test.YtfmgcabgbnfjlaaGreatRnQ
import Derived.Test.YtfmgcabgbnfjlaaGreatDrQ
import Derived.Deep.RegionWith
import Derived.Deep.Cut
import Derived.Deep.DeepCutAuto
namespace Go.Proofs.YtfmgcabgbnfjlaaGreat
set_option linter.unusedVariables false
set_option maxRecDepth 100000
open Go.RowKit

abbrev GatA (w : World) (B bf bl : Nat) (vf vl : Value) (F G : List Nd) : Prop := RnkGat 72 75 w B bf bl vf vl F G
set_option maxHeartbeats 3200000 in
theorem rnkOf1_any (f t c : Int) {B bf bl : Nat} {vf vl : Value} {F G : List Nd} (w : World) (h : GatA w B bf bl vf vl F G) (hB : B ≤ w.heap.size) (hF : F.length ≤ 1000) (hG : G.length ≤ 1000) :
    Calls Tryz.prog 25 #[.int .i64 f, .int .i64 t, .int .i64 c, .pointer (some ⟨bf, 0, none⟩), .pointer (some ⟨bl, 0, none⟩)] w fun e w' =>
      e = .returned (.tuple #[]) ∧ ∃ vf' vl', GatA w' B bf bl vf' vl' (F ++ [(f, c)]) (G ++ [(t, c)]) ∧ Kp (fun i => (i = bf ∨ vf.ownBlock = some i) ∨ i = bl ∨ vl.ownBlock = some i) w w' := by
  obtain ⟨i0, hi, hz0, hz1, hz2⟩ := info_parts upto_info
  have GG := Lib.hid h
  obtain ⟨cf, _, zf, _, _, _⟩ := h.cells
  clear h
  go_enter Tryz.func25, Tryz.ntmps25
  go_wp2_with (at_builtin; refine wpList_append_own_at _ rfl _ _ 72 rfl B 75 i0 (.agg #[.int .i64 0, .int .i64 0]) 2 16 Tryz.underlying72 hi hz0 hz1 hz2 rfl (by decide) _ F.length (nods F) rfl (World.ownsRow.alloc GG.out.rf _) ⟨w.heap.size, 0, none⟩ 1 1 [.int .i64 f, .int .i64 c] rfl rfl (two_new _ _ _ _ _ rfl) (two_cell _ _) (by unfold maxLen; omega) (by omega) (by simp; omega) ?_)
  intro v1 w1 hown hgrow _ hat
  obtain ⟨A1, m1, k1, rfl⟩ := ownNd_slice hown
  obtain ⟨hg1, hk1, f1, z1, c1⟩ := GG.out.put (by decide) (ownNd_snoc hown) hgrow hat
  have G1 := Lib.hid hg1
  have K1 := Lib.hid hk1
  obtain ⟨_, _, _, cl, fl, zl⟩ := hg1.cells
  have hBz : B ≤ (w1.setCell ⟨bf, 0, none⟩ (.slice A1 m1 k1)).heap.size := Nat.le_trans hB hk1.size
  clear hown hgrow hat hg1 hk1 cf zf
  go_wp2_with (at_builtin; refine wpList_append_own_at _ rfl _ _ 72 rfl B 75 i0 (.agg #[.int .i64 0, .int .i64 0]) 2 16 Tryz.underlying72 hi hz0 hz1 hz2 rfl (by decide) _ G.length (nods G) rfl (World.ownsRow.alloc G1.out.rl _) ⟨w1.heap.size, 0, none⟩ 1 1 [.int .i64 t, .int .i64 c] rfl rfl (two_new _ _ _ _ _ (by simp)) (two_cell _ _) (by unfold maxLen; omega) (by omega) (by simp at *; omega) ?_)
  intro v2 w2 hown hgrow _ hat
  obtain ⟨A2, m2, k2, rfl⟩ := ownNd_slice hown
  obtain ⟨hg2, hk2, f2, z2, c2⟩ := G1.out.swap.put (by decide) (ownNd_snoc hown) hgrow (by simpa using hat)
  have G2 := Lib.hid hg2.swap
  have K2 := Lib.hid hk2
  clear hown hgrow hat hg2 hk2 cl fl zl
  go_wp2_with fail
  go_end0
  exact ⟨rfl, _, _, G2.out, (K1.out.mono fun i _ h => .inl h).trans K2.out fun i _ h => .inr h⟩
theorem rnkOf_tell {B q p g h : Nat} {kd l k : Int} {n : Nat} {L : List Nd} (w : World) (d : DgA w B q p g h kd l k n L) (hn : n ≤ 400) :
    Calls Tryz.prog 24 #[.pointer (some ⟨q, 0, none⟩), .func (.func 25) #[] #[.pointer (some ⟨w.heap.size, 0, none⟩), .pointer (some ⟨w.heap.size + 1, 0, none⟩)]] ((w.alloc (.cells #[.slice none 0 0] 72)).alloc (.cells #[.slice none 0 0] 72)) fun e w' =>
      e = .returned (.tuple #[]) ∧ (∃ vf vl, GatA w' w.heap.size w.heap.size (w.heap.size + 1) vf vl (mapN (loN l) L) (mapN (hiN l) L)) ∧ Below w.heap.size w w' := by
  have hb0 : Below w.heap.size w ((w.alloc (.cells #[.slice none 0 0] 72)).alloc (.cells #[.slice none 0 0] 72)) := ((Below.refl _ _).alloc (Nat.le_refl _) _).alloc (by simp) _
  have LN : L.length ≤ 400 := by have := d.po.len; omega
  refine (rnkEach_any (F := 25) (caps := #[.pointer (some ⟨w.heap.size, 0, none⟩), .pointer (some ⟨w.heap.size + 1, 0, none⟩)]) (I := fun j v => (∃ vf vl, GatA v w.heap.size w.heap.size (w.heap.size + 1) vf vl (mapN (loN l) (L.take j)) (mapN (hiN l) (L.take j))) ∧ Below w.heap.size w v) _ (d.below hb0) (by omega)
    ⟨enters_of Tryz.func25 (by kernel_rfl) rfl, fun _ _ _ ⟨⟨vf, vl, a⟩, b⟩ hb => ⟨⟨vf, vl, a.below hb⟩, b.trans (hb.mono b.size)⟩, fun j hj v ⟨⟨vf, vl, a⟩, b⟩ => ?_⟩ ⟨⟨_, _, RnkGat.new ..⟩, hb0⟩).mono ?_
  · refine (rnkOf1_any (loN l (L.getD j nz).1) (hiN l (L.getD j nz).1) (L.getD j nz).2 v a b.size (by simp [mapN]; omega) (by simp [mapN]; omega)).mono ?_
    rintro e v' ⟨rfl, vf', vl', h1, h2⟩
    refine ⟨rfl, ⟨⟨vf', vl', ?_⟩, b.trans (a.low b.size h2)⟩, h2.size, fun u M o => a.far (by decide) (by decide) h2 o⟩
    rw [mapN_take _ _ hj, mapN_take _ _ hj]; exact h1
  · rintro e v' ⟨rfl, ⟨vf, vl, a⟩, b⟩
    rw [List.take_length] at a
    exact ⟨rfl, ⟨vf, vl, a⟩, b⟩
/-- a table in memory -/
def rnkTB (w : World) (B t : Nat) (l : Int) (L : List Nd) : Prop :=
  RollC l L ∧ L.length ≤ 400 ∧ ∃ vl vh SL SH, w.ownsRow B 79 2 (.slice (some ⟨t, 0, none⟩) 1 1) 1 [vl, vh] ∧ OwnNd 75 w B vl SL ∧ OwnNd 75 w B vh SH ∧ SumI (mapN (hiN l) L) SL ∧ SumI (mapN (loN l) L) SH
theorem rnkTB_kp {w w' : World} {B t : Nat} {l : Int} {L : List Nd} {F : Nat → Prop} (h : rnkTB w B t l L) (k : Kp F w w') (f : ∀ i, F i → i < B) : rnkTB w' B t l L := by
  obtain ⟨r, n, vl, vh, SL, SH, a, b, c, x, y⟩ := h
  exact ⟨r, n, vl, vh, SL, SH, own_kp a k fun g e q => by (have := (a.lt g e).1; have := f g q; omega), own_kp b k fun g e q => by (have := (World.ownsRow.lt b g e).1; have := f g q; omega), own_kp c k fun g e q => by (have := (World.ownsRow.lt c g e).1; have := f g q; omega), x, y⟩
theorem rnk_map {l : Int} {L : List Nd} (r : RollC l L) (f : Int → Int) (hf : ∀ n ∈ L, 0 ≤ f n.1 ∧ f n.1 ≤ 9223372036854775807) : (∀ n ∈ mapN f L, 1 ≤ n.2) ∧ NBds (mapN f L) ∧ sumC (mapN f L) ≤ 72057594037927935 ∧ (mapN f L).length = L.length := by
  refine ⟨map_pos (roll_pos r), fun n hn => ?_, by rw [map_tot]; exact r.2.2.2.2, by unfold mapN; rw [List.length_map]⟩
  obtain ⟨m, hm, e⟩ := List.mem_map.1 (show n ∈ L.map fun n => (f n.1, n.2) from hn)
  subst e
  have b := (nbds_roll r m hm).2
  have := hf m hm
  exact ⟨by show _ ≤ f m.1 ∧ f m.1 ≤ _; omega, b⟩
theorem rnk_ends {l : Int} {L : List Nd} (r : RollC l L) : (∀ n ∈ L, 0 ≤ loN l n.1 ∧ loN l n.1 ≤ 9223372036854775807) ∧ (∀ n ∈ L, 0 ≤ hiN l n.1 ∧ hiN l n.1 ≤ 9223372036854775807) := by
  have u : 1 ≤ l ∧ l ≤ 48 := of_decide_eq_true r.1
  have p : (2 : Int) ^ l.toNat ≤ 281474976710656 := by
    have q : (2 : Nat) ^ l.toNat ≤ 2 ^ 48 := Nat.pow_le_pow_right (by omega) (by omega)
    have e : (2 : Int) ^ l.toNat = ((2 ^ l.toNat : Nat) : Int) := by rw [Int.natCast_pow]; rfl
    rw [e]; omega
  exact ⟨fun n hn => by have := node_ends r hn; omega, fun n hn => by have := node_ends r hn; omega⟩
theorem rnkOf_fin {w w3 v1 v2 : World} {Af Al A1 A2 : Option Addr} {mf cf ml cl m1 k1 m2 k2 : Nat} {l : Int} {L F G S1 S2 : List Nd} (r : RollC l L) (ln : L.length ≤ 400) (gg : GatA w3 w.heap.size w.heap.size (w.heap.size + 1) (.slice Af mf cf) (.slice Al ml cl) F G) (b3 : Below w.heap.size w w3)
    (ho1 : OwnNd 75 v1 w3.drew.heap.size (.slice A1 m1 k1) S1) (hs1 : SumI (mapN (hiN l) L) S1) (hk1 : Kp (fun i => (Value.slice Al ml cl).ownBlock = some i) w3.drew v1) (ho2 : OwnNd 75 v2 v1.heap.size (.slice A2 m2 k2) S2) (hs2 : SumI (mapN (loN l) L) S2) (hk2 : Kp (fun i => (Value.slice Af mf cf).ownBlock = some i) v1 v2) :
    rnkTB (v2.alloc (.cells #[.slice A1 m1 k1, .slice A2 m2 k2] 79)) w.heap.size v2.heap.size l L ∧ Below w.heap.size w (v2.alloc (.cells #[.slice A1 m1 k1, .slice A2 m2 k2] 79)) := by
  have s3 := b3.size
  have z1 : w3.heap.size ≤ v1.heap.size := hk1.size
  have z2 := hk2.size
  have zf := fun i e => World.ownsRow.lt gg.rf i e
  have zl := fun i e => World.ownsRow.lt gg.rl i e
  have o1 : OwnNd 75 v2 w3.drew.heap.size (.slice A1 m1 k1) S1 := own_kp ho1 hk2 fun i e q => by
    have a := (World.ownsRow.lt ho1 i e).1
    have b := (zf i q).2
    have c : w3.drew.heap.size = w3.heap.size := rfl
    omega
  have bb : Below w.heap.size w v2 := ((b3.trans ((below_drew w3).mono s3)).trans (hk1.below (fun i _ q => (zl i q).1) s3)).trans (hk2.below (fun i _ q => (zf i q).1) (by omega))
  exact ⟨⟨r, ln, _, _, S1, S2, own_low (box2 ..) bb.size, own_low (World.ownsRow.alloc o1 _) s3, own_low (World.ownsRow.alloc ho2 _) (by omega), hs1, hs2⟩, bb.alloc bb.size _⟩
set_option maxHeartbeats 6400000 in
theorem rnkOf_any {B q p g h : Nat} {kd l k : Int} {n : Nat} {L : List Nd} (w : World) (d : DgA w B q p g h kd l k n L) (hn : n ≤ 400) :
    Calls Tryz.prog 6 #[.pointer (some ⟨q, 0, none⟩)] w fun e w' => (∃ t, e = .returned (.pointer (some ⟨t, 0, none⟩)) ∧ rnkTB w' w.heap.size t l L) ∧ Below w.heap.size w w' := by
  have PN : ∀ w, (binOp .eql 38 (.pointer (some ⟨q, 0, none⟩)) (.pointer none)).run Tryz.prog w = .ok (.bool false) w := fun _ => by kernel_rfl
  have TE := Lib.hid (rnkOf_tell w d hn)
  have RO := Lib.hid d.v.roll
  have LN := Lib.hid (show L.length ≤ 400 by have := d.po.len; omega)
  have ML := Lib.hid (rnk_map d.v.roll (loN l) (rnk_ends d.v.roll).1)
  have MH := Lib.hid (rnk_map d.v.roll (hiN l) (rnk_ends d.v.roll).2)
  clear d
  go_enter Tryz.func6, Tryz.ntmps6
  go_wp2_with fail
  refine TE.out.mono ?_
  rintro e w3 ⟨rfl, ⟨vf, vl, hG⟩, hb3⟩
  have GG := Lib.hid hG
  have B3 := Lib.hid hb3
  have S3 := Lib.hid hb3.size
  obtain ⟨Af, mf, cf, rfl⟩ := ownNd_slice hG.rf
  obtain ⟨Al, ml, cl, rfl⟩ := ownNd_slice hG.rl
  obtain ⟨c0, _, z0, c1, _, z1⟩ := hG.cells
  clear hG hb3 TE
  have AD1 := Lib.hid (fun v (hb : Below w3.heap.size w3 v) => rnkAdded_any v (own_below GG.out.rl hb) MH.out.1 MH.out.2.1 MH.out.2.2.1 (by have := MH.out.2.2.2; have := LN.out; omega))
  have AD2 := Lib.hid (fun v v1 (hb : Below w3.heap.size w3 v) (hk : Kp (fun i => (Value.slice Al ml cl).ownBlock = some i) v v1) => rnkAdded_any v1 (own_kp (own_below GG.out.rf hb) hk fun i e q => GG.out.ap i e q) ML.out.1 ML.out.2.1 ML.out.2.2.1 (by have := ML.out.2.2.2; have := LN.out; omega))
  have KC := Lib.hid (fun v v1 (hb : Below w3.heap.size w3 v) (hk : Kp (fun i => (Value.slice Al ml cl).ownBlock = some i) v v1) => ((own_kp (own_below GG.out.f hb) hk fun g e q => gat_ne GG.out.f GG.out.rl (by decide) g q (by simp [Value.ownBlock] at e; exact e.symm)).cellAt 0 (by omega) : v1.cell? ⟨w.heap.size, 0, none⟩ = some (.slice Af mf cf)))
  go_wp2_with fail
  go_region_with (first
    | (go_at_call 26; (with_reducible refine (AD1.out _ (below_drew _)).mono ?_); rintro e v1 ⟨A1, m1, k1, S1, rfl, ho1, hs1, hl1, hk1⟩; have c0' := KC.out _ _ (below_drew _) hk1)
    | (go_at_call 26; (with_reducible refine (AD2.out _ _ (below_drew _) hk1).mono ?_); rintro e v2 ⟨A2, m2, k2, S2, rfl, ho2, hs2, hl2, hk2⟩))
  all_goals have FN := Lib.hid (rnkOf_fin RO.out LN.out GG.out B3.out ho1 hs1 hk1 ho2 hs2 hk2)
  all_goals clear ho1 hs1 hl1 hk1 ho2 hs2 hl2 hk2 c0'
  all_goals go_wp2_with fail
  all_goals go_ret
  all_goals exact ⟨⟨_, rfl, FN.out.1⟩, FN.out.2⟩
theorem rnkOf_nil (w : World) : Calls Tryz.prog 6 #[.pointer none] w fun e w' => e = .returned (.pointer none) ∧ Below w.heap.size w w' := by
  go_enter Tryz.func6, Tryz.ntmps6
  go_wp2_with fail
  go_ret
  exact ⟨rfl, Below.refl _ _⟩
theorem rnkTB_two {w : World} {B t : Nat} {l : Int} {L : List Nd} (h : rnkTB w B t l L) : ∃ A m c A2 m2 c2 SL SH, w.cell? ⟨t, 0, none⟩ = some (.slice A m c) ∧ w.cell? ⟨t, 1, none⟩ = some (.slice A2 m2 c2) ∧ t < w.heap.size ∧ NodesAt w (.slice A m c) SL ∧ NodesAt w (.slice A2 m2 c2) SH ∧ m ≤ 1000000 ∧ m2 ≤ 1000000 ∧ Good SL ∧ Good SH ∧
    (∀ y, rkAt SL y = lowR l L y) ∧ (∀ y, rkAt SH y = highR l L y) ∧ SL.map (fun n => n.1) = stepsN l L ∧ SL.length ≤ 400 := by
  obtain ⟨r, n, vl, vh, SL, SH, a, b, c, x, y⟩ := h
  obtain ⟨A, m, c1, rfl⟩ := ownNd_slice b
  obtain ⟨A2, m2, c2, rfl⟩ := ownNd_slice c
  have pl := (rnk_map r (hiN l) (rnk_ends r).2)
  have ph := (rnk_map r (loN l) (rnk_ends r).1)
  have ll := x.len
  have lh := y.len
  have e1 := (nodes_cells (ownNd_nodes b)).1
  have e2 := (nodes_cells (ownNd_nodes c)).1
  exact ⟨A, m, c1, A2, m2, c2, SL, SH, a.cellAt 0 (by omega), a.cellAt 1 (by omega), (a.lt t rfl).2, ownNd_nodes b, ownNd_nodes c, by omega, by omega, x.good pl.1, y.good ph.1, fun z => (x.at pl.1 z).trans (low_up l L z).symm, fun z => (y.at ph.1 z).trans (high_up l L z).symm, x.steps, by omega⟩
theorem rnkTLow_nil (x : Int) (w : World) : Calls Tryz.prog 8 #[.pointer none, .int .i64 x] w fun e w' => e = .returned (.int .i64 0) ∧ Below w.heap.size w w' := by
  go_enter Tryz.func8, Tryz.ntmps8
  go_wp2_with fail
  go_ret
  exact ⟨rfl, Below.refl _ _⟩
theorem rnkTLow_any {B t : Nat} {l : Int} {L : List Nd} (x : Int) (w : World) (h : rnkTB w B t l L) :
    Calls Tryz.prog 8 #[.pointer (some ⟨t, 0, none⟩), .int .i64 x] w fun e w' => e = .returned (.int .i64 (lowR l L x)) ∧ Below w.heap.size w w' := by
  obtain ⟨A, m, c, A2, m2, c2, SL, SH, c0, c1, tz, n1, n2, b1, b2, g1, g2, r1, r2, _, _⟩ := rnkTB_two h
  have AT := Lib.hid (rnkAt_any x w n1 g1 b1)
  rw [r1] at AT
  clear h n1 n2 g1 g2 r1 r2
  go_enter Tryz.func8, Tryz.ntmps8
  go_wp2_with (go_at_call 27; refine AT.out.mono ?_; rintro e w1 ⟨rfl, hb⟩)
  go_ret
  exact ⟨rfl, hb⟩
theorem rnkTHigh_nil (x : Int) (w : World) : Calls Tryz.prog 9 #[.pointer none, .int .i64 x] w fun e w' => e = .returned (.int .i64 0) ∧ Below w.heap.size w w' := by
  go_enter Tryz.func9, Tryz.ntmps9
  go_wp2_with fail
  go_ret
  exact ⟨rfl, Below.refl _ _⟩
theorem rnkTHigh_any {B t : Nat} {l : Int} {L : List Nd} (x : Int) (w : World) (h : rnkTB w B t l L) :
    Calls Tryz.prog 9 #[.pointer (some ⟨t, 0, none⟩), .int .i64 x] w fun e w' => e = .returned (.int .i64 (highR l L x)) ∧ Below w.heap.size w w' := by
  obtain ⟨A, m, c, A2, m2, c2, SL, SH, c0, c1, tz, n1, n2, b1, b2, g1, g2, r1, r2, _, _⟩ := rnkTB_two h
  have AT := Lib.hid (rnkAt_any x w n2 g2 b2)
  rw [r2] at AT
  clear h n1 n2 g1 g2 r1 r2
  go_enter Tryz.func9, Tryz.ntmps9
  go_wp2_with (go_at_call 27; refine AT.out.mono ?_; rintro e w1 ⟨rfl, hb⟩)
  go_ret
  exact ⟨rfl, hb⟩
theorem rnkTN_nil (w : World) : Calls Tryz.prog 7 #[.pointer none] w fun e w' => e = .returned (.int .i64 0) ∧ Below w.heap.size w w' := by
  go_enter Tryz.func7, Tryz.ntmps7
  go_wp2_with (go_at_call 8; refine (rnkTLow_nil _ _).mono ?_; rintro e w1 ⟨rfl, hb⟩)
  go_ret
  exact ⟨rfl, hb⟩
theorem rnkTN_any {B t : Nat} {l : Int} {L : List Nd} (w : World) (h : rnkTB w B t l L) :
    Calls Tryz.prog 7 #[.pointer (some ⟨t, 0, none⟩)] w fun e w' => e = .returned (.int .i64 (sumC L)) ∧ Below w.heap.size w w' := by
  have e : lowR l L 9223372036854775807 = sumC L := (rank_last h.1 (by
    have u : 1 ≤ l ∧ l ≤ 48 := of_decide_eq_true h.1.1
    have q : (2 : Nat) ^ l.toNat ≤ 2 ^ 48 := Nat.pow_le_pow_right (by omega) (by omega)
    have e : (2 : Int) ^ l.toNat = ((2 ^ l.toNat : Nat) : Int) := by rw [Int.natCast_pow]; rfl
    rw [e]; omega)).1
  have AT := Lib.hid (rnkTLow_any 9223372036854775807 w h)
  rw [e] at AT
  clear h e
  go_enter Tryz.func7, Tryz.ntmps7
  go_wp2_with (go_at_call 8; refine AT.out.mono ?_; rintro e w1 ⟨rfl, hb⟩)
  go_ret
  exact ⟨rfl, hb⟩
set_option maxHeartbeats 1600000 in
theorem rnkTBoth_core (pv : Option Addr) (x a b : Int) (w : World) (CL : ∀ v, Below w.heap.size w v → Calls Tryz.prog 8 #[.pointer pv, .int .i64 x] v fun e w' => e = .returned (.int .i64 a) ∧ Below v.heap.size v w')
    (CH : ∀ v, Below w.heap.size w v → Calls Tryz.prog 9 #[.pointer pv, .int .i64 x] v fun e w' => e = .returned (.int .i64 b) ∧ Below v.heap.size v w') :
    Calls Tryz.prog 10 #[.pointer pv, .int .i64 x] w fun e w' => e = .returned (.agg #[.int .i64 a, .int .i64 b]) ∧ Below w.heap.size w w' := by
  have B0 : Hid (Below w.heap.size w (w.alloc (.cells #[.int .i64 0, .int .i64 0] 35))) := below_one _ _
  have X := Lib.hid (box2 w 35 (.int .i64 0) (.int .i64 0))
  have HL := Lib.hid CL
  have HH := Lib.hid CH
  clear CL CH
  go_enter Tryz.func10, Tryz.ntmps10
  go_wp2_with fail
  generalize w.alloc (.cells #[.int .i64 0, .int .i64 0] 35) = W at *
  refine (HL.out _ B0.out).mono ?_
  rintro e w1 ⟨rfl, hb1⟩
  have B1 := Lib.hid (B0.out.trans (hb1.mono B0.out.size))
  have X1 := Lib.hid (own_below X.out hb1)
  clear hb1
  go_wp2_with fail
  refine (HH.out _ B1.out).mono ?_
  rintro e w2 ⟨rfl, hb2⟩
  have X2 := Lib.hid (own_below X1.out hb2)
  obtain ⟨y0, y1, f0, f1, hz2⟩ := box_cells X2.out
  obtain ⟨q0, q1, _, _, _⟩ := box_cells (box_set X2.out (.int .i64 a) (.int .i64 b)).1
  have BB := Lib.hid ((B1.out.trans (hb2.mono B1.out.size)).trans (box_set X2.out (.int .i64 a) (.int .i64 b)).2.2.1)
  clear hb2
  go_wp2_with fail
  exact bodyPost_ret (v := .agg #[.int .i64 a, .int .i64 b]) (by simp [results, Tryz.results10, go_sem, q0, q1]) rfl ⟨rfl, BB.out⟩
theorem rnkTBoth_nil (x : Int) (w : World) : Calls Tryz.prog 10 #[.pointer none, .int .i64 x] w fun e w' => e = .returned (.agg #[.int .i64 0, .int .i64 0]) ∧ Below w.heap.size w w' :=
  rnkTBoth_core none x 0 0 w (fun v _ => rnkTLow_nil x v) (fun v _ => rnkTHigh_nil x v)
theorem rnkTB_below {w w' : World} {B t : Nat} {l : Int} {L : List Nd} (h : rnkTB w B t l L) (hb : Below w.heap.size w w') : rnkTB w' B t l L :=
  rnkTB_kp (F := fun _ => False) h (Kp.of hb) fun i q => q.elim
theorem rnkTBoth_any {B t : Nat} {l : Int} {L : List Nd} (x : Int) (w : World) (h : rnkTB w B t l L) :
    Calls Tryz.prog 10 #[.pointer (some ⟨t, 0, none⟩), .int .i64 x] w fun e w' => e = .returned (.agg #[.int .i64 (lowR l L x), .int .i64 (highR l L x)]) ∧ Below w.heap.size w w' :=
  rnkTBoth_core _ x _ _ w (fun v hb => rnkTLow_any x v (rnkTB_below h hb)) (fun v hb => rnkTHigh_any x v (rnkTB_below h hb))
theorem rkInt_info : (Tryz.prog.info? 3).map (fun i => (i.zero, i.size, i.bytes)) = some (some (.int .i64 0), 1, 8) := by kernel_rfl
theorem rnkTSteps_nil (w : World) : Calls Tryz.prog 11 #[.pointer none] w fun e w' => (∃ A c, e = .returned (.slice A 0 c)) ∧ Below w.heap.size w w' := by
  go_enter Tryz.func11, Tryz.ntmps11
  go_wp2_with fail
  go_ret
  exact ⟨⟨_, _, rfl⟩, Below.refl _ _⟩
set_option maxHeartbeats 3200000 in
theorem rnkTSteps_any {B t : Nat} {l : Int} {L : List Nd} (w : World) (h : rnkTB w B t l L) :
    Calls Tryz.prog 11 #[.pointer (some ⟨t, 0, none⟩)] w fun e w' => (∃ A n c, e = .returned (.slice A n c) ∧ IntsAt w' (.slice A n c) (stepsN l L) ∧ n ≤ 1000) ∧ Below w.heap.size w w' := by
  obtain ⟨i0, hi, hz0, hz1, hz2⟩ := info_parts rkInt_info
  obtain ⟨A, m, c, A2, m2, c2, SL, SH, c0, c1, tz, n1, _, _, _, _, _, _, _, st, sl⟩ := rnkTB_two h
  have HM := Lib.hid (nodes_cells n1).1
  have NA := Lib.hid (nodes_cells n1).2.2.2
  have ST := Lib.hid st
  have m4 : m ≤ 400 := by have := HM.out; omega
  clear h n1 st sl c1
  go_enter Tryz.func11, Tryz.ntmps11
  go_wp2_with fail
  go_loopw [3, 13] (fun v i wr => ∃ j : Nat, j ≤ m ∧ i = .int .i64 j ∧ OwnI 3 wr w.heap.size v ((SL.take j).map fun n => n.1) ∧ Below w.heap.size w wr) (fun _ i _ => m - (intOf i).toNat)
  case atStart => exact ⟨0, by omega, rfl, ownI_nil .., Below.refl _ _⟩
  case round =>
    obtain ⟨j, hj, rfl, ho, hb⟩ := hrel
    have BW := Lib.hid hb
    have OO := Lib.hid ho
    by_cases hlt : j < m
    · have hjl : j < SL.length := by have := HM.out; omega
      obtain ⟨b, o, rfl, hin⟩ := NA.out (by omega)
      obtain ⟨e0, e1⟩ := (hin.below BW.out hin.1).2 j hjl
      have hbz : b < wr.heap.size := Nat.lt_of_lt_of_le hin.1 BW.out.size
      have TK : Hid ((SL.take (j + 1)).map (fun n => n.1) = (SL.take j).map (fun n => n.1) ++ [(SL.getD j nz).1]) := by show _ = _; rw [nd_take hjl, List.map_append]; rfl
      have TL : ((SL.take j).map fun n => n.1).length ≤ 400 := by simp; omega
      clear ho hb hin
      generalize (SL.take j).map (fun n => n.1) = P at *
      generalize (SL.getD j nz).1 = x at *
      generalize (SL.getD j nz).2 = y at *
      have j0 : (0 : Int) ≤ (j : Int) := Int.natCast_nonneg _
      have j1 : (j : Int) < (m : Int) := by omega
      have sz := BW.out.size
      go_wp2_with (at_builtin; refine wpList_append_own _ rfl _ _ 27 rfl w.heap.size 3 i0 (.int .i64 0) 1 8 Tryz.underlying27 hi hz0 hz1 hz2 rfl (by decide) _ P.length (ints P) rfl (World.ownsRow.alloc (World.ownsRow.alloc OO.out _) _) ⟨wr.heap.size + 1, 0, none⟩ 1 1 [.int .i64 x] rfl rfl (one_new _ _ _ _ (by simp)) (one_int _) (by unfold maxLen; omega) (by omega) (by simp; omega) ?_)
      intro v' w4 hown hgrow hnil
      have B4 := Lib.hid (((BW.out.alloc BW.out.size (.cells #[.int .i64 x, .int .i64 y] 75)).alloc (by simp; omega) (.cells #[.int .i64 x] 3)).grown hgrow (by simp; omega) (fun g hg => (World.ownsRow.lt OO.out g hg).1))
      have O4 := Lib.hid (ownI_snoc rfl hown)
      clear hown hgrow hnil
      go_wp2_with fail
      go_roundw
      case rel => exact ⟨j + 1, by omega, by go_num, by rw [TK.out]; exact O4.out, B4.out⟩
      case measure => simp [intOf]; omega
    · obtain rfl : j = m := by omega
      have e : SL.take j = SL := List.take_of_length_le (by have := HM.out; omega)
      rw [e, ST.out] at OO
      obtain ⟨A3, m3, c3, rfl⟩ := own_slice OO.out
      have I3 := Lib.hid (ownI_ints OO.out)
      have L3 : Hid (m3 ≤ 1000) := by
        have a := (ints_cells I3.out).1
        have b := congrArg List.length ST.out
        rw [List.length_map] at b
        have := HM.out
        show _ ≤ _
        omega
      clear ho hb e
      go_wp2_with fail
      go_ret
      exact ⟨⟨_, _, _, rfl, I3.out, L3.out⟩, BW.out⟩
theorem rnkT : RnkT rnkTB :=
  ⟨rnkOf_nil, fun w d hn => rnkOf_any w d hn, fun h k f => rnkTB_kp h k f, rnkTN_nil, fun x w => rnkTLow_nil x w, fun x w => rnkTHigh_nil x w, fun x w => rnkTBoth_nil x w, rnkTSteps_nil, fun w h => rnkTN_any w h, fun x w h _ _ => rnkTLow_any x w h, fun x w h _ _ => rnkTHigh_any x w h, fun x w h _ _ => rnkTBoth_any x w h, fun w h => rnkTSteps_any w h⟩

end Go.Proofs.YtfmgcabgbnfjlaaGreat
