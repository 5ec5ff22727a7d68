/- The project's tiles.inRow, walked. -/
import Derived.Test.YtjmglihdndknjaaTi4
namespace Go.Proofs.Ytjmglihdndknjaa
set_option linter.unusedVariables false
open Go.RowKit Go.Sort Go.Lib Go.Shelf

theorem three_new (w : World) (x y z : Value) (t : TypeId) (g : Nat) (hg : g = w.heap.size) : ∀ j u, [x, y, z][j]? = some u → (w.alloc (.cells #[x, y, z] t)).cell? ((⟨g, 0, none⟩ : Addr).add j) = some u := fun j u hj => by
  subst hg
  match j, hj with
  | 0, hj => simp at hj; subst hj; simp [Addr.add]
  | 1, hj => simp at hj; subst hj; simp [Addr.add]
  | 2, hj => simp at hj; subst hj; simp [Addr.add]
theorem three_cell (x y z : Int) : ∀ u ∈ [Value.int .i64 x, Value.int .i64 y, Value.int .i64 z], u.oneCell' = true := fun u hu => by
  simp at hu; rcases hu with rfl | rfl | rfl <;> rfl
def NotAll (l : Int) (ids : List Int) : Prop := uniB l = false ∨ ∃ t ∈ ids, endB l t = false
def IsAll (l : Int) (ids : List Int) : Prop := uniB l = true ∧ ∀ t ∈ ids, endB l t = true
theorem all_nodes {l : Int} {ids : List Int} (h : IsAll l ids) (hb : Bds ids) : Nodes l ids := fun t ht => node_of_end (h.2 t ht) (hb t ht).2
theorem all_or (l : Int) (ids : List Int) : IsAll l ids ∨ NotAll l ids := by
  by_cases h : uniB l = true
  · by_cases g : ∀ t ∈ ids, endB l t = true
    · exact .inl ⟨h, g⟩
    · right; right
      false_or_by_contra
      rename_i q
      refine g fun t ht => ?_
      cases e : endB l t
      · exact absurd ⟨t, ht, e⟩ q
      · rfl
  · exact .inr (.inl (by simpa using h))
def InRowPost (l : Int) (ids : List Int) (w : World) (e : Ending) (w' : World) : Prop := (IsAll l ids ∧ RowTold l ids w e w') ∨ (NotAll l ids ∧ NoneTold w e w')
set_option maxHeartbeats 1600000 in
theorem inRow_any (l : Int) (A : Option Addr) (n c : Nat) (ids : List Int) (w : World) (hA : IntsAt w (.slice A n c) ids) (hB : Bds ids) (hn : n ≤ 1000000) (L0 : -9223372036854775808 ≤ l) (L1 : l ≤ 9223372036854775807) :
    Calls Try.prog 31 #[.int .i64 l, .slice A n c] w (InRowPost l ids w) := by
  obtain ⟨hlen, hcells⟩ := ints_cells hA
  have HC := Lib.hid hcells
  have HL := Lib.hid hlen
  have HB := Lib.hid hB
  clear hcells hlen hA hB
  by_cases hu : uniB l = true
  · have HU := Lib.hid hu
    obtain ⟨i0, hi, hz0, hz1, hz2⟩ := info_parts tile_info
    have hm := fun w => make_room (P := Try.prog) Try.underlying43 hi hz0 hz1 hz2 n (by omega) (by omega) w
    go_enter Try.func31, Try.ntmps31
    go_wp2_with (go_at_call 35; refine (tUniverse_any _ _ (by omega) (by omega)).mono ?_; rintro e w1 ⟨rfl, rfl⟩)
    clear hm
    go_loopw [6, 20] (fun v i wr => ∃ k : Nat, k ≤ n ∧ i = .int .i64 k ∧ wr.ownsRow w.heap.size 47 3 v k (flat3 l (ids.take k)) ∧ (∀ t ∈ ids.take k, endB l t = true) ∧ Go.RowKit.Below w.heap.size w wr ∧ v ≠ .slice none 0 0) (fun _ i _ => n - (intOf i).toNat)
    case atStart => exact ⟨0, by omega, rfl, room_own (Nat.le_refl _) (by unfold maxLen; omega), fun t ht => by simp at ht, (Go.RowKit.Below.refl _ _).alloc (Nat.le_refl _) _, by simp⟩
    case round =>
      rename_i wr
      obtain ⟨k, hk, rfl, hown, hall, hb, hne⟩ := hrel
      have NE := Lib.hid hne
      clear hne
      have HA := Lib.hid hall
      clear hall
      by_cases hlt : k < n
      · have hk2 : k < ids.length := by have := HL.out; omega
        obtain ⟨b, o, rfl, hbl, hcell⟩ := HC.out (by omega)
        have hck : wr.cell? ⟨b, o + k, none⟩ = some (.int .i64 (ids.getD k 0)) := (hb.cell (p := ⟨b, o + k, none⟩) hbl).trans (hcell k hk2)
        have hbd := bds_at HB.out hk2
        have htk := Lib.hid (take_at hk2)
        have hmem := Lib.hid (getD_mem hk2)
        have hsz := hb.size
        clear hcell
        generalize ids.getD k 0 = t at *
        have he := end_bd l t hbd.2
        by_cases hen : endB l t = true
        · go_wp2_with (first | (go_at_call 22; refine (ends_any _ _ _ (by omega) (by omega) (by omega) (by omega)).mono ?_; rintro e w1 ⟨rfl, rfl⟩) | (at_builtin; refine wpList_append_own _ rfl _ _ 43 rfl w.heap.size 47 i0 (.agg #[.int .i64 0, .int .i64 0, .int .i64 0]) 3 24 Try.underlying43 hi hz0 hz1 hz2 rfl (by decide) _ _ _ rfl (hown.alloc _) ⟨wr.heap.size, 0, none⟩ 1 1 [.int .i64 t, .int .i64 (loN l t), .int .i64 (hiN l t)] rfl rfl (three_new _ _ _ _ _ _ rfl) (three_cell _ _ _) (by unfold maxLen; omega) (by omega) (by simp; omega) ?_))
          intro v' w2 hown2 hgrow hnil
          have NE2 := Lib.hid (show v' ≠ .slice none 0 0 from hnil)
          clear hnil
          have hb2 : Go.RowKit.Below w.heap.size w w2 := (hb.alloc hsz _).grown hgrow (by simp; omega) (fun g hg => (hown.lt g hg).1)
          have HO2 := Lib.hid hown2
          clear hown hgrow hown2
          go_wp2_with fail
          go_roundw
          case rel => exact ⟨k + 1, by omega, by go_num, by rw [htk.out, flat3_snoc]; exact HO2.out, fun u hu => by
            rw [htk.out] at hu
            rcases List.mem_append.1 hu with hu | hu
            · exact HA.out u hu
            · simp at hu; subst hu; exact hen, hb2, NE2.out⟩
          case measure => simp [intOf]; omega
        · have hen' : endB l t = false := by simpa using hen
          clear hen
          go_wp2_with (go_at_call 22; refine (ends_any _ _ _ (by omega) (by omega) (by omega) (by omega)).mono ?_; rintro e w1 ⟨rfl, rfl⟩)
          go_ret2
          exact .inr ⟨.inr ⟨t, hmem.out, hen'⟩, rfl, hb⟩
      · have hd : Hid (ids.take k = ids) := List.take_of_length_le (by have := HL.out; omega)
        have hkn : Hid (k = ids.length) := by have := HL.out; show k = _; omega
        rcases hown.2 with ⟨e0, _⟩ | ⟨g, cap, cur, rfl, hbg, hgh, _⟩
        · exact absurd e0 NE.out
        have hgl := lt_of_block hgh
        have HH := Lib.hid (show HoldsK (encT l) 3 wr g 0 ids.toArray from own_holds (T := ids) (by
          have q := hown
          rw [hd] at q
          have e : k = ids.length := hkn
          rw [e] at q
          exact q))
        have HS := Lib.hid (sort_tiles l g cap ids.toArray wr HH.out hgl (by simp; have := HL.out; omega))
        have hz : ids.toArray.size = k := by simp; have : k = ids.length := hkn; omega
        rw [hz] at HS
        have HZ := Lib.hid hz
        clear hown hz hgh NE
        go_wp2_with fail
        refine HS.out.mono ?_
        rintro e w2 ⟨rfl, d', m, os, hp, hs, hw⟩
        have HW := Lib.hid hw
        have hq : PermIn 0 ids.toArray.size ids.toArray d' ∧ SortedIn (ltOf (tileC l)) 0 ids.toArray.size d' := by rw [HZ.out]; exact ⟨hp, hs⟩
        obtain ⟨p1, p2⟩ := sorted_list hq.1 hq.2
        have P1 := Lib.hid p1
        have P2 := Lib.hid p2
        have PZ := Lib.hid hq.1.1
        clear hp hs hq p1 p2 hw HS
        go_wp2_with fail
        go_ret2
        have hlen : d'.toList.length = k := by have := PZ.out; have := HZ.out; simp at *; omega
        refine .inl ⟨⟨HU.out, by have q := HA.out; rw [hd] at q; exact q⟩, some ⟨g, 0, none⟩, cap, d'.toList, by rw [hlen]; rfl, ?_, P1.out, P2.out, ?_⟩
        · rw [HW.out]
          exact holds_trips (holdsK_sortWorldK _ _ _ _ _ _ _ _ _ hgl HH.out PZ.out) (lt_sortWorldK _ _ _ _ _ _ _ _ hgl)
        · rw [HW.out]
          exact hb.trans (below_sort hbg hb.size)
  · have hu' : uniB l = false := by simpa using hu
    clear hu
    go_enter Try.func31, Try.ntmps31
    go_wp2_with (go_at_call 35; refine (tUniverse_any _ _ (by omega) (by omega)).mono ?_; rintro e w1 ⟨rfl, rfl⟩)
    go_ret2
    exact .inr ⟨.inl hu', rfl, Go.RowKit.Below.refl ..⟩

end Go.Proofs.Ytjmglihdndknjaa
