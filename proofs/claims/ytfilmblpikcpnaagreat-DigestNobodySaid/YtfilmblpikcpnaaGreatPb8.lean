/- The project's package probe: Snap and Clone of a table that lies in memory. -/
import Derived.Test.YtfilmblpikcpnaaGreatPbQ
import Derived.Test.YtfilmblpikcpnaaGreatDs3
import Derived.Test.YtfilmblpikcpnaaGreatRo4
import Derived.Test.YtfilmblpikcpnaaGreatCopy
namespace Go.Proofs.YtfilmblpikcpnaaGreat
set_option linter.unusedVariables false
set_option maxRecDepth 100000
open Go.RowKit
section
variable {B g h b : Nat} {l : Int} {S L : List Nd}
set_option maxHeartbeats 3200000 in
theorem pbSnap_own (w : World) (d : PbA w B g h l (L.length : Int) (sumC L) b S) (T : Tb l b S L) (hb : b ≤ 40) (hl : L.length ≤ 1000000) :
    Calls Tryz.prog 80 #[.pointer (some ⟨g, 0, none⟩)] w (ListOwn 74 L w) := by
  obtain ⟨i0, hi, hz0, hz1, hz2⟩ := info_parts node_info
  have hpN := pow_40 (b := b) (by omega)
  obtain ⟨_, k1, _, _, k4⟩ := d.cells
  have hlt := d.lt
  have hlen := d.len
  have SLT := Lib.hid (fun i (hi : i < 2 ^ b) => d.slot hi)
  have hcnt := Lib.hid T.cnt
  have SRT := Lib.hid (fun X (q : Srt idA (ndsT S) X) => T.srt q)
  have AB := Lib.hid (fun i => tAt_bds T i)
  clear d T
  obtain ⟨N, hN⟩ : ∃ N, N = 2 ^ b := ⟨_, rfl⟩
  rw [← hN] at k4 hpN SLT hlen
  clear hN
  have hmk := make_room (P := Tryz.prog) Tryz.underlying32 hi hz0 hz1 hz2 L.length (by omega) (by omega) w
  go_enter Tryz.func80, Tryz.ntmps80
  go_wp2_with fail
  clear hmk
  go_loopw [3, 18] (fun v i wr => ∃ k : Nat, k ≤ N ∧ i = .int .i64 k ∧ OwnNd 74 wr w.heap.size v (ndsT (S.take k)) ∧ Below w.heap.size w wr) (fun _ i _ => N - (intOf i).toNat)
  case atStart => exact ⟨0, by omega, rfl, room_own (Nat.le_refl _) (by unfold maxLen; omega), (Below.refl _ _).alloc (Nat.le_refl _) _⟩
  case round =>
    rename_i wr
    obtain ⟨k, hk, rfl, hown, hbl⟩ := hrel
    have HO := Lib.hid hown
    have hsz := hbl.size
    clear hown
    by_cases hlt2 : k < N
    · have hkl : k < S.length := by omega
      obtain ⟨s0, s1⟩ := SLT.out k hlt2
      have hhz : h < w.heap.size := hlt.2.2.2
      have e0 := (hbl.cell (p := ⟨h, k * 2, none⟩) hhz).trans s0
      have e1 := (hbl.cell (p := ⟨h, k * 2 + 1, none⟩) hhz).trans s1
      have NS := nds_step hkl
      have hle := nds_le (S.take k)
      have hle2 : (ndsT (S.take k)).length ≤ N := by rw [List.length_take] at hle; omega
      obtain ⟨⟨x1, x2⟩, hx⟩ : ∃ x, x = tAt S k := ⟨_, rfl⟩
      rw [← hx] at e0 e1 NS
      simp only at e0 e1 NS
      clear s0 s1 hx hle
      by_cases h0 : x1 = 0
      · rw [if_pos h0] at NS
        have NS2 := Lib.hid NS
        subst h0
        clear NS
        go_wp2_with fail
        go_roundw
        case rel => exact ⟨k + 1, by omega, by go_num, by rw [NS2.out]; exact World.ownsRow.alloc HO.out _, hbl.alloc (by omega) _⟩
        case measure => simp [intOf]; omega
      · rw [if_neg h0] at NS
        have NS2 := Lib.hid NS
        have h0' : (x1 != 0) = true := by simpa using h0
        clear NS h0
        go_wp2_with (at_builtin; refine wpList_append_own _ rfl _ _ 32 rfl w.heap.size 74 i0 (.agg #[.int .i64 0, .int .i64 0]) 2 16 Tryz.underlying32 hi hz0 hz1 hz2 rfl (by decide) _ (ndsT (S.take k)).length (nods (ndsT (S.take k))) rfl ((World.ownsRow.alloc HO.out _).alloc _) ⟨wr.heap.size + 1, 0, none⟩ 1 1 [.int .i64 x1, .int .i64 x2] rfl rfl (two_new _ _ _ _ _ (by simp)) (two_cell _ _) (by unfold maxLen; omega) (by omega) (by simp; omega) ?_)
        intro v' w3 hown2 hgrow _
        have hb3 : Below w.heap.size w w3 := ((hbl.alloc (by omega) _).alloc (by simp; omega) _).grown hgrow (by simp; omega) (fun g hg => (World.ownsRow.lt HO.out g hg).1)
        have HO2 := Lib.hid (ownNd_snoc hown2)
        clear hown2 hgrow
        go_wp2_with fail
        go_roundw
        case rel => exact ⟨k + 1, by omega, by go_num, by rw [NS2.out]; exact HO2.out, hb3⟩
        case measure => simp [intOf]; omega
    · have hkn : k = N := by omega
      subst hkn
      have HO2 := Lib.hid (show OwnNd 74 wr w.heap.size _ (ndsT S) from by have q := HO.out; rw [List.take_of_length_le (by omega)] at q; exact q)
      obtain ⟨A3, m3, c3, rfl⟩ := ownNd_slice HO2.out
      have hm3 := (nodes_cells (ownNd_nodes HO2.out)).1
      have hm4 : m3 ≤ 1000000 := by have := hcnt.out; omega
      clear hm3
      go_wp2_with (go_at_call 113; refine (sorted_own _ _ _ (ndsT S) _ (ownNd_nodes HO2.out) hm4).mono ?_; rintro e w2 ⟨X, A4, c4, rfl, hs4, hn4, _, hb4⟩)
      go_ret
      have e := SRT.out _ hs4
      subst e
      exact ⟨_, _, _, rfl, own_low hn4 hbl.size, hbl.trans (hb4.mono hbl.size)⟩
theorem pbSnap_any (w : World) (d : PbA w B g h l (L.length : Int) (sumC L) b S) (T : Tb l b S L) (hb : b ≤ 40) (hl : L.length ≤ 1000000) :
    Calls Tryz.prog 80 #[.pointer (some ⟨g, 0, none⟩)] w (ListPost L w) := (pbSnap_own w d T hb hl).mono fun _ _ q => list_forget q
theorem pclone_facts {TD TN : TypeId} {g h N : Nat} {w : World} {a b c d : Value} (h3 : w.cell? ⟨g, 4, none⟩ = some (.slice (some ⟨h, 0, none⟩) N N)) (hg : g < w.heap.size) (hh : h < w.heap.size) :
    ((w.alloc (.cells #[a, b, c, d, .slice (some ⟨w.heap.size + 1, 0, none⟩) N N] TD)).alloc (.cells (blank (.agg #[.int .i64 0, .int .i64 0]) (N * 2)) TN)).cell? ⟨w.heap.size, 4, none⟩ = some (.slice (some ⟨w.heap.size + 1, 0, none⟩) N N) ∧
    ((w.alloc (.cells #[a, b, c, d, .slice (some ⟨w.heap.size + 1, 0, none⟩) N N] TD)).alloc (.cells (blank (.agg #[.int .i64 0, .int .i64 0]) (N * 2)) TN)).cell? ⟨g, 4, none⟩ = some (.slice (some ⟨h, 0, none⟩) N N) ∧
    ((w.alloc (.cells #[a, b, c, d, .slice (some ⟨w.heap.size + 1, 0, none⟩) N N] TD)).alloc (.cells (blank (.agg #[.int .i64 0, .int .i64 0]) (N * 2)) TN)).heap[w.heap.size + 1]? = some (.cells (blank (.agg #[.int .i64 0, .int .i64 0]) (N * 2)) TN (0, 0)) ∧
    Below w.heap.size w ((w.alloc (.cells #[a, b, c, d, .slice (some ⟨w.heap.size + 1, 0, none⟩) N N] TD)).alloc (.cells (blank (.agg #[.int .i64 0, .int .i64 0]) (N * 2)) TN)) ∧
    ((w.alloc (.cells #[a, b, c, d, .slice (some ⟨w.heap.size + 1, 0, none⟩) N N] TD)).alloc (.cells (blank (.agg #[.int .i64 0, .int .i64 0]) (N * 2)) TN)).ownsRow w.heap.size TD 5 (.slice (some ⟨w.heap.size, 0, none⟩) 1 1) 1 [a, b, c, d, .slice (some ⟨w.heap.size + 1, 0, none⟩) N N] ∧
    ((w.alloc (.cells #[a, b, c, d, .slice (some ⟨w.heap.size + 1, 0, none⟩) N N] TD)).alloc (.cells (blank (.agg #[.int .i64 0, .int .i64 0]) (N * 2)) TN)).heap.size = w.heap.size + 2 := by
  have o := World.ownsRow_lit (base := w.heap.size) (e := TD) (size := 5) w #[a, b, c, d, .slice (some ⟨w.heap.size + 1, 0, none⟩) N N] 1 (Nat.le_refl _) (by unfold maxLen; omega) rfl
  have o2 := o.alloc (.cells (blank (.agg #[.int .i64 0, .int .i64 0]) (N * 2)) TN)
  have hb : Below w.heap.size w ((w.alloc (.cells #[a, b, c, d, .slice (some ⟨w.heap.size + 1, 0, none⟩) N N] TD)).alloc (.cells (blank (.agg #[.int .i64 0, .int .i64 0]) (N * 2)) TN)) := ((Below.refl _ _).alloc (Nat.le_refl _) _).alloc (by simp) _
  refine ⟨o2.cellAt 4 (by omega), (hb.cell (p := ⟨g, 4, none⟩) hg).trans h3, ?_, hb, o2, by simp⟩
  have q := heap_alloc_new (w.alloc (.cells #[a, b, c, d, .slice (some ⟨w.heap.size + 1, 0, none⟩) N N] TD)) (.cells (blank (.agg #[.int .i64 0, .int .i64 0]) (N * 2)) TN)
  have e : (w.alloc (.cells #[a, b, c, d, .slice (some ⟨w.heap.size + 1, 0, none⟩) N N] TD)).heap.size = w.heap.size + 1 := by simp
  rw [e] at q
  exact q
theorem own_of_heap2 {w : World} {B h N : Nat} {TN : TypeId} {ys : List Value} (hb : B ≤ h) (hN : N ≤ maxLen) (hl : ys.length = N * 2) (hg : w.heap[h]? = some (.cells ys.toArray TN (0, 0))) : w.ownsRow B TN 2 (.slice (some ⟨h, 0, none⟩) N N) N ys :=
  ⟨hl, .inr ⟨h, N, ys.toArray, rfl, hb, hg, Nat.le_refl _, hN, by simp; omega, by simp [← hl]⟩⟩
set_option maxHeartbeats 3200000 in
theorem pbClone_any {n t : Int} (w : World) (d : PbA w B g h l n t b S) (hb : b ≤ 40) :
    Calls Tryz.prog 88 #[.pointer (some ⟨g, 0, none⟩)] w fun e w' => ∃ g2 h2, e = .returned (.pointer (some ⟨g2, 0, none⟩)) ∧ PbA w' w.heap.size g2 h2 l n t b S ∧ Below w.heap.size w w' := by
  obtain ⟨i0, hi, hz0, hz1, hz2⟩ := info_parts node_info
  have hpN := pow_40 (b := b) (by omega)
  have hlt := d.lt
  have hlen := d.len
  obtain ⟨d0, d1, d2, d3, d4⟩ := d.cells
  have D : Hid (PbA w B g h l n t b S) := d
  clear d
  have hmk := make_all (P := Tryz.prog) Tryz.underlying32 hi hz0 hz1 hz2 (2 ^ b) (2 ^ b * 2) rfl _ rfl (by omega) (by omega)
  obtain ⟨N, hN⟩ : ∃ N, N = 2 ^ b := ⟨_, rfl⟩
  rw [← hN] at hmk d4 hpN hlen
  have HN := Lib.hid hN
  clear hN
  go_enter Tryz.func88, Tryz.ntmps88
  go_wp2_with fail
  have hW := Lib.hid (pclone_facts (TD := 133) (TN := 74) (g := g) (h := h) (w := w) (N := N) (a := .int .i64 l) (b := .int .i64 n) (c := .int .i64 t) (d := .int .i64 (b : Int)) d4 hlt.2.1 hlt.2.2.2)
  generalize (w.alloc (.cells #[.int .i64 l, .int .i64 n, .int .i64 t, .int .i64 (b : Int), .slice (some ⟨w.heap.size + 1, 0, none⟩) N N] 133)).alloc (.cells (blank (.agg #[.int .i64 0, .int .i64 0]) (N * 2)) 74) = W at *
  obtain ⟨k3, k4, kh, kb, ko, kz⟩ := hW.out
  have hd : ∀ a, ({ heap := W.heap, tape := W.tape, drawn := W.drawn + 1, os := W.os, output := W.output } : World).cell? a = W.cell? a := fun _ => rfl
  go_still_tail 6, (by kernel_rfl)
  change wpList _ _ _ _ _ (World.drew W)
  clear hd
  have kh2 : (World.drew W).heap[w.heap.size + 1]? = some (.cells (blank (.agg #[.int .i64 0, .int .i64 0]) (N * 2)).toList.toArray 74 (0, 0)) := by
    have q := kh
    show W.heap[w.heap.size + 1]? = _
    rw [q, Array.toArray_toList]
  have KB := Lib.hid kb
  have KO := Lib.hid ko
  have KZ := Lib.hid kz
  have RC : Hid (∀ j v, (nods S)[j]? = some v → (World.drew W).cell? ((⟨h, 0, none⟩ : Addr).add j) = some v) := by
    have q := (Ps.below D.out (KB.out)).row
    exact fun j v hj => World.ownsRow.cells q rfl j v hj
  have LI : Hid ((nods S).length = N * 2) := by show _ = _; rw [nods_len, hlen]
  have LF : Hid ((nods S).length = (blank (.agg #[.int .i64 0, .int .i64 0]) (N * 2)).toList.length) := by show _ = _; rw [LI.out, Array.length_toList, blank_size]
  have L1C : Hid (∀ v ∈ nods S, v.oneCell' = true) := nods_one S
  have hsz : (Tryz.prog.info? 74).map (·.size) = some 2 := by kernel_rfl
  refine wpList_copy_all rfl (.tmp 17) (.tmp 21) 32 32 rfl 74 2 Tryz.underlying32 hsz (w.heap.size + 1) N N ⟨h, 0, none⟩ rfl rfl _ 74 kh2 (nods S) LI.out RC.out LF.out L1C.out (w.heap.size + 1) (World.drew W) (Below.refl ..) (Nat.le_refl _) ?_
  intro w4 hg4 hb4
  clear k3 k4 kh kb ko kz kh2
  go_wp2_with fail
  go_ret
  have hb5 : Below w.heap.size w w4 := (KB.out.drew).trans (hb4.mono (by omega))
  refine ⟨w.heap.size, w.heap.size + 1, rfl, ?_, hb5⟩
  have q := KO.out.kept (w' := w4) (row := some (w.heap.size + 1)) ⟨hb4.os, hb4.tape, hb4.output, hb4.size, fun k hk hne => hb4.block k (by rw [KZ.out] at hk; have : k ≠ w.heap.size + 1 := (fun e => hne (by rw [e])); omega)⟩ (.inr (by simp [Value.ownBlock]))
  show Ps ..
  unfold topP
  rw [← HN.out]
  exact ⟨q, own_of_heap2 (by omega) (by unfold maxLen; omega) LI.out hg4.out, by omega⟩
end

end Go.Proofs.YtfilmblpikcpnaaGreat
