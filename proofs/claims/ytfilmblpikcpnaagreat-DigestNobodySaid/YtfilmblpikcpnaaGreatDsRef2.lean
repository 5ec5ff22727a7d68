/- The document's answers of package dewpondref07: Take, Do. -/
import Derived.Test.YtfilmblpikcpnaaGreatDsRef
import Derived.Deep.RegionHeld3
import Derived.Deep.RegionWith
import Derived.Deep.DrawnRows
namespace Go.Proofs.YtfilmblpikcpnaaGreat
set_option linter.unusedVariables false
set_option maxRecDepth 100000
open Go.RowKit

theorem rem_take_le (L : List Nd) (k : Nat) (id : Int) : (remW (L.take k) id).length ≤ k := by
  have := rem_le (L.take k) id
  rw [List.length_take] at this
  omega
set_option maxHeartbeats 3200000 in
theorem rsTake_any {v0 : Value} (l id : Int) (A : Option Addr) (n c : Nat) (L : List Nd) (w : World) (h : NodesAt w (.slice A n c) L) (hn : n ≤ 400000) :
    Calls Tryz.prog 127 #[.agg #[.int .i64 l, .slice A n c], .int .i64 id] w (StPost l (remW L id) (findN L id) v0 w) := by
  obtain ⟨i0, hi, hz0, hz1, hz2⟩ := info_parts node_info
  have HN := Lib.hid h
  have HL := Lib.hid (nodes_cells h).1
  have HA := Lib.hid (nodes_cells h).2.2.2
  have HB0 := Lib.hid (below_two w (.cells #[.int .i64 l, .slice A n c] 34) (.cells #[.int .i64 0, .slice none 0 0] 34))
  have K0 := Lib.hid (k4_new w 34 34 (.int .i64 l) (.slice A n c) (.int .i64 0) (.slice none 0 0))
  clear h
  go_enter Tryz.func127, Tryz.ntmps127
  go_wp2_with fail
  refine (rsGet_any _ _ _ _ _ _ _ (HN.out.below HB0.out) (by omega)).mono ?_
  rintro e w1 ⟨rfl, hb1⟩
  have k1 := K0.out.to hb1 (by simp)
  have hbw := HB0.out.trans (hb1.mono (by simp; omega))
  have KK := Lib.hid k1
  have HW1 := Lib.hid hbw
  clear hbw hb1 k1
  generalize findN L id = fi at *
  go_wp2_with fail
  go_loopw [7, 8] (fun v i wr => ∃ k : Nat, k ≤ n ∧ i = .int .i64 k ∧ OwnNd 74 wr (w.heap.size + 2) v (remW (L.take k) id) ∧ Below w.heap.size w wr ∧ K4 wr w.heap.size (.int .i64 l) (.slice A n c) (.int .i64 0) (.slice none 0 0)) (fun _ i _ => n - (intOf i).toNat)
  case atStart => exact ⟨0, by omega, rfl, ownNd_nil .., HW1.out, KK.out⟩
  case round =>
    rename_i wr
    obtain ⟨k, hk, rfl, hown, hb, hk4⟩ := hrel
    have HO := Lib.hid hown
    have K4R := Lib.hid hk4
    obtain ⟨c0, c1, d0, d1, f0, f1, g0, g1, lt⟩ := hk4
    have hrl := rem_take_le L k id
    clear hown
    by_cases hlt : k < n
    · have hk2 : k < L.length := by have := HL.out; omega
      obtain ⟨b, o, rfl, hin⟩ := HA.out (by omega)
      have hin2 := hin.below hb hin.1
      obtain ⟨e0, e1⟩ := hin2.2 k hk2
      have ST := Lib.hid (rem_step (id := id) hk2)
      clear hin hin2
      generalize L.getD k nz = r at *
      obtain ⟨j, x⟩ := r
      simp only at e0 e1
      by_cases q : j = id
      · have Y : Hid (remW (L.take (k + 1)) id = remW (L.take k) id) := by have := ST.out; rw [if_pos q] at this; exact this
        have q' : (j != id) = false := by simpa using q
        clear ST q
        obtain ⟨A3, m3, c3, rfl⟩ := ownNd_slice HO.out
        go_wp2_with fail
        go_roundw
        case rel => exact ⟨k + 1, by omega, by go_num, by rw [Y.out]; exact HO.out, hb, K4R.out⟩
        case measure => simp [intOf]; omega
      · have Y : Hid (remW (L.take (k + 1)) id = remW (L.take k) id ++ [(j, x)]) := by have := ST.out; rw [if_neg q] at this; exact this
        have q' : (j != id) = true := by simpa using q
        clear ST q
        go_wp2_with (at_builtin; refine wpList_append_own _ rfl _ _ 32 rfl (w.heap.size + 2) 74 i0 (.agg #[.int .i64 0, .int .i64 0]) 2 16 Tryz.underlying32 hi hz0 hz1 hz2 rfl (by decide) _ (remW (L.take k) id).length (nods (remW (L.take k) id)) rfl (World.ownsRow.alloc HO.out _) ⟨wr.heap.size, 0, none⟩ 1 1 [.int .i64 j, .int .i64 x] rfl rfl (two_new _ _ _ _ _ (by simp)) (two_cell _ _) (by unfold maxLen; omega) (by omega) (by simp; omega) ?_)
        intro v' w3 hown2 hgrow _
        have hb3 : Below (w.heap.size + 2) wr w3 := ((Below.refl _ _).alloc (by omega) _).grown hgrow (by simp; omega) (fun g hg => (World.ownsRow.lt HO.out g hg).1)
        have HO2 := Lib.hid (ownNd_snoc hown2)
        have K43 := Lib.hid (K4R.out.to hb3 (by omega))
        clear hown2 hgrow c0 c1 d0 d1 f0 f1 g0 g1
        go_wp2_with fail
        go_roundw
        case rel => exact ⟨k + 1, by omega, by go_num, by rw [Y.out]; exact HO2.out, hb.trans (hb3.mono (by omega)), K43.out⟩
        case measure => simp [intOf]; omega
    · have hkn : k = n := by omega
      subst hkn
      have RW : Hid (remW (L.take k) id = remW L id) := by show _ = _; rw [List.take_of_length_le (by have := HL.out; omega)]
      obtain ⟨A3, m3, c3, rfl⟩ := ownNd_slice HO.out
      obtain ⟨x0, x1, y0, y1, _, _, _, _, _⟩ := K4R.out.set1 (.slice A3 m3 c3)
      obtain ⟨q0, q1⟩ := set_two y0 y1
      go_wp2_with fail
      have hb6 := fun u u' u'' => ((hb.setCell (p := ⟨w.heap.size, 1, none⟩) (by simp) u).setCell (p := ⟨w.heap.size + 1, 0, none⟩) (by simp) u').setCell (p := ⟨w.heap.size + 1, 1, none⟩) (by simp) u''
      have OW6 := fun u u' u'' => ownsRow_setCell_below (ownsRow_setCell_below (ownsRow_setCell_below HO.out (a := ⟨w.heap.size, 1, none⟩) (by show w.heap.size < w.heap.size + 2; omega) u) (a := ⟨w.heap.size + 1, 0, none⟩) (by show w.heap.size + 1 < w.heap.size + 2; omega) u') (a := ⟨w.heap.size + 1, 1, none⟩) (by show w.heap.size + 1 < w.heap.size + 2; omega) u''
      exact bodyPost_ret (v := .tuple #[.agg #[.int .i64 l, .slice A3 m3 c3], .int .i64 fi]) (by simp [results, Tryz.results127, go_sem, q0, q1]) rfl ⟨_, _, _, rfl, by rw [← RW.out]; exact own_low (OW6 _ _ _) (Nat.zero_le _), hb6 _ _ _, newB_of HO.out (by omega)⟩
/-- two cells of a block of another type, stored: the list is as it was -/
theorem own_two {T TS : TypeId} {w : World} {B q : Nat} {v : Value} {L : List Nd} {xs : List Value} (o : OwnNd T w 0 v L) (r : w.ownsRow B TS 2 (.slice (some ⟨q, 0, none⟩) 1 1) 1 xs) (hne : T ≠ TS) (u u' : Value) :
    OwnNd T ((w.setCell ⟨q, 0, none⟩ u).setCell ⟨q, 1, none⟩ u') 0 v L := by
  have a := World.ownsRow.stored r 0 u
  have o1 : OwnNd T (w.setCell ⟨q, 0, none⟩ u) 0 v L := o.kept a.2 (own_apart o r hne)
  have b := World.ownsRow.stored a.1 1 u'
  exact World.ownsRow.kept o1 b.2 (own_apart o1 a.1 hne)
/-- three blocks: a store and a call that came in by value, and a store that is handed out -/
theorem do_blocks (w : World) (TS TO : TypeId) (x y a b c : Value) :
    Below w.heap.size w (((w.alloc (.cells #[x, y] TS)).alloc (.cells #[a, b, c] TO)).alloc (.cells #[.int .i64 0, .slice none 0 0] TS)) ∧
    (((w.alloc (.cells #[x, y] TS)).alloc (.cells #[a, b, c] TO)).alloc (.cells #[.int .i64 0, .slice none 0 0] TS)).ownsRow w.heap.size TS 2 (.slice (some ⟨w.heap.size, 0, none⟩) 1 1) 1 [x, y] ∧
    (((w.alloc (.cells #[x, y] TS)).alloc (.cells #[a, b, c] TO)).alloc (.cells #[.int .i64 0, .slice none 0 0] TS)).ownsRow w.heap.size TO 3 (.slice (some ⟨w.heap.size + 1, 0, none⟩) 1 1) 1 [a, b, c] ∧
    (((w.alloc (.cells #[x, y] TS)).alloc (.cells #[a, b, c] TO)).alloc (.cells #[.int .i64 0, .slice none 0 0] TS)).ownsRow w.heap.size TS 2 (.slice (some ⟨w.heap.size + 2, 0, none⟩) 1 1) 1 [.int .i64 0, .slice none 0 0] := by
  have e1 : (w.alloc (.cells #[x, y] TS)).heap.size = w.heap.size + 1 := by simp
  have e2 : ((w.alloc (.cells #[x, y] TS)).alloc (.cells #[a, b, c] TO)).heap.size = w.heap.size + 2 := by simp
  have p := World.ownsRow_lit (base := w.heap.size) (e := TS) (size := 2) w #[x, y] 1 (Nat.le_refl _) (by unfold maxLen; omega) rfl
  have q := World.ownsRow_lit (base := w.heap.size) (e := TO) (size := 3) (w.alloc (.cells #[x, y] TS)) #[a, b, c] 1 (by omega) (by unfold maxLen; omega) rfl
  have r := World.ownsRow_lit (base := w.heap.size) (e := TS) (size := 2) ((w.alloc (.cells #[x, y] TS)).alloc (.cells #[a, b, c] TO)) #[.int .i64 0, .slice none 0 0] 1 (by omega) (by unfold maxLen; omega) rfl
  rw [e1] at q
  rw [e2] at r
  exact ⟨(((Below.refl _ _).alloc (Nat.le_refl _) _).alloc (by simp) _).alloc (by simp; omega) _, (p.alloc _).alloc _, q.alloc _, r⟩
end Go.Proofs.YtfilmblpikcpnaaGreat
