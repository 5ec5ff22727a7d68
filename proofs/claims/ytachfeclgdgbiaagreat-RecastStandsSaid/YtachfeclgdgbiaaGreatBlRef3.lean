/- The document's answers of package dewpondref14: Of, the digest of calls. -/
import Derived.Test.YtachfeclgdgbiaaGreatDgR
import Derived.Test.YtachfeclgdgbiaaGreatDgLaw7
import Derived.Deep.RegionWith
namespace Go.Proofs.YtachfeclgdgbiaaGreat
set_option linter.unusedVariables false
set_option maxRecDepth 100000
open Go.RowKit

/-- the two boxes of a call of Of: what is handed out, and the digest as it is -/
structure BlO (w wr : World) (l k : Int) (A : Option Addr) (m c : Nat) (L : List Nd) : Prop where
  r : wr.ownsRow w.heap.size 37 3 (.slice (some ⟨w.heap.size, 0, none⟩) 1 1) 1 [.int .i64 0, .int .i64 0, .slice none 0 0]
  d : wr.ownsRow w.heap.size 37 3 (.slice (some ⟨w.heap.size + 1, 0, none⟩) 1 1) 1 [.int .i64 k, .int .i64 l, .slice A m c]
  row : OwnNd 75 wr 0 (.slice A m c) L
  b : Below w.heap.size w wr
theorem BlO.below {w wr w' : World} {l k : Int} {A : Option Addr} {m c : Nat} {L : List Nd} (h : BlO w wr l k A m c L) (hb : Below wr.heap.size wr w') : BlO w w' l k A m c L := ⟨own_below h.r hb, own_below h.d hb, own_below h.row hb, h.b.trans (hb.mono h.b.size)⟩
set_option maxHeartbeats 6400000 in
theorem rBlOf_any (l k : Int) (A : Option Addr) (n c : Nat) (O : List Pl) (w : World) (H1 : PlacedAt w (.slice A n c) O) (OB : OBds O) (hn : n ≤ 100) (hl : 1 ≤ l ∧ l ≤ 48) (hk : kIs k = true) :
    Calls Tryz.prog 35 #[.int .i64 k, .int .i64 l, .slice A n c] w fun e w' => ∃ A2 m2 c2, e = .returned (.agg #[.int .i64 k, .int .i64 l, .slice A2 m2 c2]) ∧ OwnNd 75 w' 0 (.slice A2 m2 c2) (dgOf l k O) ∧ Below w.heap.size w w' := by
  have e1 : (w.alloc (.cells #[.int .i64 0, .int .i64 0, .slice none 0 0] 37)).heap.size = w.heap.size + 1 := by simp
  have R0 := Lib.hid ((tri_nw w 37 (.int .i64 0) (.int .i64 0) (.slice none 0 0)).alloc (.cells #[.int .i64 k, .int .i64 l, .slice none 0 0] 37))
  have D0 : Hid (((w.alloc (.cells #[.int .i64 0, .int .i64 0, .slice none 0 0] 37)).alloc (.cells #[.int .i64 k, .int .i64 l, .slice none 0 0] 37)).ownsRow w.heap.size 37 3 (.slice (some ⟨w.heap.size + 1, 0, none⟩) 1 1) 1 [.int .i64 k, .int .i64 l, .slice none 0 0]) := by
    have z := tri_nw (w.alloc (.cells #[.int .i64 0, .int .i64 0, .slice none 0 0] 37)) 37 (.int .i64 k) (.int .i64 l) (.slice none 0 0)
    rw [e1] at z
    exact own_low z (Nat.le_succ _)
  have HB0 : Hid (Below w.heap.size w ((w.alloc (.cells #[.int .i64 0, .int .i64 0, .slice none 0 0] 37)).alloc (.cells #[.int .i64 k, .int .i64 l, .slice none 0 0] 37))) := ((Below.refl _ _).alloc (Nat.le_refl _) _).alloc (by simp) _
  have HL := Lib.hid (placed_cells H1).1
  have HA := Lib.hid (placed_cells H1).2.2.2
  have HB := Lib.hid OB
  have kb : 1 ≤ k ∧ k ≤ 1048576 := of_decide_eq_true hk
  have V0 : Hid (DgV l k []) := dgV_nil hl kb.1 kb.2
  clear H1 OB e1 hk
  go_enter Tryz.func35, Tryz.ntmps35
  go_wp2_with fail
  go_loopw [8] (fun i wr => ∃ (j : Nat) (L : List Nd) (A2 : Option Addr) (m2 c2 : Nat), j ≤ n ∧ i = .int .i64 j ∧ L = dgOf l k (O.take j) ∧ DgV l k L ∧ L.length ≤ j ∧ BlO w wr l k A2 m2 c2 L) (fun i _ => n - (intOf i).toNat)
  case atStart => exact ⟨0, [], none, 0, 0, by omega, rfl, rfl, V0.out, by simp, ⟨R0.out, D0.out, ownNd_nil .., HB0.out⟩⟩
  case round =>
    obtain ⟨j, L, A2, m2, c2, hj, rfl, hLO, hv, hlen, hi⟩ := hrel
    have I := Lib.hid hi
    have LO : Hid (L = dgOf l k (O.take j)) := hLO
    have VV := Lib.hid hv
    have LL := Lib.hid hlen
    have hb := hi.b
    obtain ⟨x0, x1, x2, xf0, xf1, xf2, hx⟩ := tri_all hi.d
    have HX := Lib.hid hx
    clear hi hLO hv hlen
    by_cases hlt : j < n
    · have hk2 : j < O.length := by have := HL.out; omega
      obtain ⟨bq, o, rfl, hin⟩ := HA.out (by have := HL.out; omega)
      obtain ⟨e0, e1, e2⟩ := (hin.below hb hin.1).2 j hk2
      have hbd := obds_at HB.out hk2
      obtain ⟨_, ⟨b2, b3⟩, b4, b5⟩ := hbd
      have hbl := hin.1
      have hzb : bq < wr.heap.size := Nat.lt_of_lt_of_le hin.1 hb.size
      have HT := Lib.hid (dgOf_take (l := l) (k := k) hk2)
      rw [← LO.out] at HT
      have k0 : (0 : Int) ≤ (j : Int) := Int.natCast_nonneg _
      have k1 : (j : Int) < (n : Int) := by omega
      clear hin hb
      generalize O.getD j plz = r at *
      obtain ⟨⟨kq, id⟩, cc⟩ := r
      have HT2 : Hid (dgDo l k L kq id cc = dgOf l k (O.take (j + 1))) := HT.out.symm
      clear HT
      simp only at e0 e1 e2 b2 b3 b4 b5
      have DO := Lib.hid (rDgDo_any l k kq id cc A2 m2 c2 L wr.drew (own_below I.out.row (below_drew _)) VV.out (by have a := (nodes_cells (ownNd_nodes I.out.row)).1; have b := LL.out; omega) b2 b3 b4 b5)
      have VD := Lib.hid (dgV_do VV.out kq id cc)
      have D1 := Lib.hid (own_below I.out.d (below_drew wr))
      have I1 := Lib.hid (I.out.below (below_drew wr))
      go_wp2_with fail
      go_region_with (go_at_call 20; refine DO.out.mono ?_; rintro e w5 ⟨A3, m3, c3, rfl, ho3, hb5, hnb⟩; have D5 := Lib.hid (own_below D1.out hb5); obtain ⟨y0, y1, y2, yf0, yf1, yf2, hy⟩ := tri_all D5.out)
      all_goals
        have T := Lib.hid (tri_set D5.out (.int .i64 k) (.int .i64 l) (.slice A3 m3 c3))
        have I5 := Lib.hid (I1.out.below hb5)
        have J : Hid (BlO w (((w5.setCell ⟨w.heap.size + 1, 0, none⟩ (.int .i64 k)).setCell ⟨w.heap.size + 1, 1, none⟩ (.int .i64 l)).setCell ⟨w.heap.size + 1, 2, none⟩ (.slice A3 m3 c3)) l k A3 m3 c3 (dgDo l k L kq id cc)) :=
          ⟨T.out.2.2.2 _ _ _ _ _ _ (by simp [Value.ownBlock]) I5.out.r, T.out.1, T.out.2.1 _ _ _ _ _ _ (by decide) ho3, I5.out.b.trans T.out.2.2.1⟩
        clear ho3 hb5 hnb x0 x1 x2 xf0 xf1 xf2 e0 e1 e2
        go_wp2_with fail
        go_roundw
        case rel => exact ⟨j + 1, _, A3, m3, c3, by omega, by go_num, HT2.out, VD.out.1, by have a := VD.out.2; have b := LL.out; omega, J.out⟩
        case measure => simp [intOf]; omega
    · obtain rfl : j = n := by omega
      have LE : dgOf l k O = L := by rw [LO.out, List.take_of_length_le (by have := HL.out; omega)]
      obtain ⟨z0, z1, z2, _, _, _, hz⟩ := tri_all I.out.r
      obtain ⟨q0, q1, q2⟩ := set_three I.out.r (.int .i64 k) (.int .i64 l) (.slice A2 m2 c2)
      have T := Lib.hid (tri_set I.out.r (.int .i64 k) (.int .i64 l) (.slice A2 m2 c2))
      have O7 := Lib.hid (T.out.2.1 _ _ _ _ _ _ (by decide) I.out.row)
      have B7 := Lib.hid (I.out.b.trans T.out.2.2.1)
      have HLE : Hid (dgOf l k O = L) := LE
      clear hlt LO hb LE
      go_wp2_with fail
      exact bodyPost_ret (v := .agg #[.int .i64 k, .int .i64 l, .slice A2 m2 c2]) (by simp [results, Tryz.results35, go_sem, q0, q1, q2]) rfl ⟨A2, m2, c2, rfl, by rw [HLE.out]; exact O7.out, B7.out⟩

end Go.Proofs.YtachfeclgdgbiaaGreat
