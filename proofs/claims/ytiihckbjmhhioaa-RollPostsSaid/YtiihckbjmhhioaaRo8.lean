/- The project's package roll: Post. -/
import Derived.Test.YtiihckbjmhhioaaRo
import Derived.Test.YtiihckbjmhhioaaRo7
namespace Go.Proofs.Ytiihckbjmhhioaa
set_option linter.unusedVariables false
open Go.RowKit

/-- what a call of Post leaves -/
def PostPost (l : Int) (L : List Nd) (w : World) (e : Ending) (w' : World) : Prop :=
  (rollB l L = false ∧ e = .returned (.tuple #[.slice none 0 0, .bool false]) ∧ Below w.heap.size w w') ∨
  (rollB l L = true ∧ ∃ T A c, e = .returned (.tuple #[.slice A (List.length T) c, .bool true]) ∧ Srt (keyA (hiN l)) L T ∧ NodesAt w' (.slice A T.length c) T ∧ Below w.heap.size w w')
theorem post_is_no {l : Int} {L : List Nd} {w w' : World} {e : Ending} (h : rollB l L = false) (q : PostPost l L w e w') : e = .returned (.tuple #[.slice none 0 0, .bool false]) ∧ Below w.heap.size w w' := by
  rcases q with ⟨_, a⟩ | ⟨g, _⟩
  · exact a
  · rw [h] at g; simp at g
theorem post_is_yes {l : Int} {L : List Nd} {w w' : World} {e : Ending} (h : rollB l L = true) (q : PostPost l L w e w') : ∃ T A c, e = .returned (.tuple #[.slice A (List.length T) c, .bool true]) ∧ Srt (keyA (hiN l)) L T ∧ NodesAt w' (.slice A T.length c) T ∧ Below w.heap.size w w' := by
  rcases q with ⟨g, _⟩ | ⟨_, a⟩
  · rw [h] at g; simp at g
  · exact a
theorem bear_next {l : Int} {L : List Nd} {k : Nat} (hk : k < L.length) : (L.take (k + 1)).map (bear (hiN l)) = (L.take k).map (bear (hiN l)) ++ [bear (hiN l) (L.getD k nz)] := by
  rw [nd_take hk, List.map_append]; rfl
theorem fst_next {S : List Pl} {k : Nat} (hk : k < S.length) : (S.take (k + 1)).map Prod.fst = (S.take k).map Prod.fst ++ [(S.getD k plz).1] := by
  rw [pl_take hk, List.map_append]; rfl
set_option maxHeartbeats 3200000 in
set_option maxRecDepth 100000 in
theorem post_any (l : Int) (A : Option Addr) (n c : Nat) (L : List Nd) (w : World) (h : NodesAt w (.slice A n c) L) (hB : NBds L) (hn : n ≤ 1000000) (L0 : -9223372036854775808 ≤ l) (L1 : l ≤ 9223372036854775807) :
    Calls Try.prog 23 #[.int .i64 l, .slice A n c] w (PostPost l L w) := by
  have HN := Lib.hid h
  have HB := Lib.hid hB
  have HL := Lib.hid (nodes_cells h).1
  have HA := Lib.hid (nodes_cells h).2.2.2
  clear h hB
  obtain ⟨i0, hi, hz0, hz1, hz2⟩ := info_parts node_info
  obtain ⟨j0, hj, hy0, hy1, hy2⟩ := info_parts pl_info
  cases hr : rollB l L
  · have HR := Lib.hid hr
    go_enter Try.func23, Try.ntmps23
    go_wp2_with (go_at_call 15; refine (rollRight_any _ _ _ _ _ _ HN.out HB.out hn L0 L1).mono ?_; rintro e w1 ⟨rfl, hb1⟩)
    go_ret2
    exact .inl ⟨HR.out, rfl, hb1⟩
  · have HR := Lib.hid hr
    have hm := fun w => make_room (P := Try.prog) Try.underlying45 hj hy0 hy1 hy2 n (by omega) (by omega) w
    go_enter Try.func23, Try.ntmps23
    go_wp2_with (go_at_call 15; refine (rollRight_any _ _ _ _ _ _ HN.out HB.out hn L0 L1).mono ?_; rintro e w1 ⟨rfl, hb1⟩)
    clear hm hr
    go_loopw [6, 24] (fun v i wr => ∃ k : Nat, k ≤ n ∧ i = .int .i64 k ∧ wr.ownsRow w1.heap.size 49 3 v k (plas ((L.take k).map (bear (hiN l)))) ∧ Below w1.heap.size w1 wr) (fun _ i _ => n - (intOf i).toNat)
    case atStart => exact ⟨0, by omega, rfl, room_own (Nat.le_refl _) (by unfold maxLen; omega), (Below.refl _ _).alloc (Nat.le_refl _) _⟩
    case round =>
      rename_i wr
      obtain ⟨k, hk, rfl, hown, hb⟩ := hrel
      have hzw := hb1.size
      have hzr := hb.size
      by_cases hlt : k < n
      · have hk2 : k < L.length := by have := HL.out; omega
        obtain ⟨b, o, rfl, hin⟩ := HA.out (by omega)
        have hbl := hin.1
        have hin2 := (hin.below hb1 hin.1).below hb (by have := hin.1; omega)
        obtain ⟨e0, e1⟩ := hin2.2 k hk2
        have hbd := nbds_at HB.out hk2
        obtain ⟨⟨b0, b1⟩, b2, b3⟩ := hbd
        have BN := Lib.hid (bear_next (l := l) hk2)
        have OWN := Lib.hid hown
        have hbw : b < wr.heap.size := by omega
        clear hin hin2 hown
        generalize L.getD k nz = r at *
        obtain ⟨id, x⟩ := r
        simp only at e0 e1 b0 b1 b2 b3
        go_wp2_with (first | (go_at_call 34; refine (ends_any _ _ _ L0 L1 b0 b1).mono ?_; rintro e w2 ⟨rfl, rfl⟩) | (at_builtin; refine wpList_append_own _ rfl _ _ 45 rfl w1.heap.size 49 j0 (.agg #[.int .i64 0, .int .i64 0, .int .i64 0]) 3 24 Try.underlying45 hj hy0 hy1 hy2 rfl (by decide) _ k _ rfl ((World.ownsRow.alloc OWN.out _).alloc _) ⟨wr.heap.size + 1, 0, none⟩ 1 1 [.int .i64 id, .int .i64 x, .int .i64 (hiN l id)] rfl rfl (pl_new3 _ _ _ _ _ _ (by simp)) (pl_cell3 _ _ _) (by unfold maxLen; omega) (by omega) (by simp; omega) ?_))
        intro v' w3 hown2 hgrow _
        have hb3 : Below w1.heap.size w1 w3 := ((hb.alloc hzr _).alloc (by simp; omega) _).grown hgrow (by simp; omega) (fun g hg => (World.ownsRow.lt OWN.out g hg).1)
        have HO2 : Hid (w3.ownsRow w1.heap.size 49 3 v' (k + 1) (plas ((L.take (k + 1)).map (bear (hiN l))))) := by show World.ownsRow _ _ _ _ _ _ _; rw [BN.out, plas_app]; have q := hown2; rw [← List.map_take] at q; exact q
        clear hown2 hgrow
        go_wp2_with fail
        go_roundw
        case rel => exact ⟨k + 1, by omega, by go_num, HO2.out, hb3⟩
        case measure => simp [intOf]; omega
      · have hkn : k = n := by omega
        have hd : Hid (L.take k = L) := List.take_of_length_le (by have := HL.out; omega)
        have hlm : Hid ((L.map (bear (hiN l))).length = k) := by show _ = _; rw [List.length_map]; have := HL.out; omega
        obtain ⟨A3, m3, c3, rfl⟩ := ownNd_slice hown
        have PA0 : Hid (OwnPl 49 wr w1.heap.size (.slice A3 m3 c3) (L.map (bear (hiN l)))) := by
          have q := hown
          rw [hd.out] at q
          show OwnPl _ _ _ _ _
          unfold OwnPl
          rw [hlm.out]
          exact q
        have PA := Lib.hid (ownPl_nodes PA0.out)
        have hm3 : m3 ≤ 1000000 := by have := (placed_cells PA.out).1; rw [hlm.out] at this; omega
        clear hown hkn
        have hmk := fun (m : Nat) (h1 : 16 * m ≤ 281474976710656) (h2 : m ≤ 9223372036854775807) w => make_room (P := Try.prog) Try.underlying22 hi hz0 hz1 hz2 m h1 h2 w
        have HMK := Lib.hid hmk
        clear hmk
        go_wp2_with (go_at_call 35; refine (inOrderP_any m3 _ _ _ _ _ (Nat.le_refl _) PA.out hm3).mono ?_; rintro e w2 ⟨S, A4, c4, rfl, hs, hnS, hA4, hb2⟩; have HS := Lib.hid hs; have hsl : S.length ≤ 1000000 := (by rw [hs.len, hlm.out]; omega); obtain ⟨m, hm⟩ : ∃ m, m = S.length := ⟨_, rfl⟩; rw [← hm] at hnS hsl ⊢; have HM := Lib.hid hm; have HC := Lib.hid (placed_cells hnS).2.2.2; have hzw2 := hb2.size; have hmk := HMK.out m (by omega) (by omega); clear hs hm hnS hA4)
        have hb2w : Below w.heap.size w w2 := hb1.trans ((hb.trans (hb2.mono hzr)).mono hzw)
        clear hb2
        go_loopw [12, 50] (fun v i wq => ∃ j : Nat, j ≤ m ∧ i = .int .i64 j ∧ OwnNd 37 wq w2.heap.size v ((S.take j).map Prod.fst) ∧ Below w2.heap.size w2 wq) (fun _ i _ => m - (intOf i).toNat)
        case atStart => exact ⟨0, by omega, rfl, room_own (Nat.le_refl _) (by unfold maxLen; omega), (Below.refl _ _).alloc (Nat.le_refl _) _⟩
        case round =>
          obtain ⟨wq, hwq⟩ : ∃ wq : World, wq = wr := ⟨_, rfl⟩
          subst hwq
          obtain ⟨j, hjm, rfl, hown, hbq⟩ := hrel
          have hzq := hbq.size
          have hzw3 := hb2w.size
          obtain ⟨A6, m6, c6, rfl⟩ := ownNd_slice hown
          clear hmk
          by_cases hlt2 : j < m
          · have hj2 : j < S.length := by have := HM.out; omega
            obtain ⟨b, o, rfl, hin⟩ := HC.out (by have := HM.out; omega)
            have hbl := hin.1
            obtain ⟨e0, e1, e2⟩ := (hin.below hbq hin.1).2 j hj2
            have FN := Lib.hid (fst_next hj2)
            have OWN := Lib.hid hown
            have hjl : Hid (((S.take j).map Prod.fst).length = j) := by show _ = _; rw [List.length_map, List.length_take]; omega
            have OWN' : Hid (wq.ownsRow w2.heap.size 37 2 (.slice A6 m6 c6) j (nods ((S.take j).map Prod.fst))) := by show World.ownsRow _ _ _ _ _ _ _; have q := OWN.out; unfold OwnNd at q; rw [hjl.out] at q; exact q
            clear hin hown
            generalize S.getD j plz = r at *
            obtain ⟨⟨id, x⟩, la⟩ := r
            simp only at e0 e1 e2
            go_wp2_with (at_builtin; refine wpList_append_own _ rfl _ _ 22 rfl w2.heap.size 37 i0 (.agg #[.int .i64 0, .int .i64 0]) 2 16 Try.underlying22 hi hz0 hz1 hz2 rfl (by decide) _ j _ rfl ((World.ownsRow.alloc OWN'.out _).alloc _) ⟨wq.heap.size + 1, 0, none⟩ 1 1 [.int .i64 id, .int .i64 x] rfl rfl (two_new _ _ _ _ _ (by simp)) (two_cell _ _) (by unfold maxLen; omega) (by omega) (by simp; omega) ?_)
            intro v' w3 hown2 hgrow _
            have hb3 : Below w2.heap.size w2 w3 := ((hbq.alloc hzq _).alloc (by simp; omega) _).grown hgrow (by simp; omega) (fun g hg => (World.ownsRow.lt OWN.out g hg).1)
            have HO2 : Hid (OwnNd 37 w3 w2.heap.size v' ((S.take (j + 1)).map Prod.fst)) := by
              show OwnNd _ _ _ _ _
              rw [FN.out]
              refine ownNd_snoc ?_
              rw [hjl.out]
              have q := hown2
              first | exact q | (rw [← List.map_take] at q; exact q)
            clear hown2 hgrow
            go_wp2_with fail
            go_roundw
            case rel => exact ⟨j + 1, by omega, by go_num, HO2.out, hb3⟩
            case measure => simp [intOf]; omega
          · have hjm2 : Hid (j = S.length) := by show _ = _; have := HM.out; omega
            have ON : Hid (OwnNd 37 wq w2.heap.size (.slice A6 m6 c6) (S.map Prod.fst)) := by
              have q := hown
              rw [List.take_of_length_le (by rw [← hjm2.out]; omega)] at q
              exact q
            have NN := Lib.hid (ownNd_nodes ON.out)
            have hm6 : Hid (m6 = (S.map Prod.fst).length) := (nodes_cells NN.out).1
            go_wp2_with fail
            go_ret2
            exact .inr ⟨HR.out, S.map Prod.fst, A6, c6, by rw [← hm6.out]; rfl, srt_bear HS.out, by rw [← hm6.out]; exact NN.out, hb2w.trans (hbq.mono hzw3)⟩

end Go.Proofs.Ytiihckbjmhhioaa
