/- The project's package dense: Snap and Clone of a store that lies in memory. -/
import Derived.Test.YtfilmblpikcpnaaGreatDs2
import Derived.Test.YtfilmblpikcpnaaGreatRo2
import Derived.Laws.CopyOwn
import Derived.StillTailTactics
import Derived.RegionTactic
import Derived.WalkSpells
namespace Go.Proofs.YtfilmblpikcpnaaGreat
set_option linter.unusedVariables false
open Go.RowKit

theorem roll_snap {l : Int} {L : List Nd} (h : RollC l L) : snapN L (plcN l) = L :=
  snap_all (roll_good h) fun n hn => by have := right_plc (h.2.2.1 n hn).1; omega
theorem roll_len {l : Int} {L : List Nd} (h : RollC l L) : L.length ≤ plcN l := by
  have := snap_len L (plcN l)
  rwa [roll_snap h] at this
/-- what a list handed out leaves -/
def ListPost (L : List Nd) (w : World) (e : Ending) (w' : World) : Prop := ∃ A m c, e = .returned (.slice A m c) ∧ NodesAt w' (.slice A m c) L ∧ Below w.heap.size w w'
theorem list_post {T : TypeId} {B : Nat} {L : List Nd} {v : Value} {w w' : World} (h : OwnNd T w' B v L) (hb : Below w.heap.size w w') : ListPost L w (.returned v) w' := by
  have hn := ownNd_nodes h
  have hf := hn
  obtain ⟨A, c, rfl, _⟩ := hn
  exact ⟨A, L.length, c, rfl, hf, hb⟩
/-- .. a row of its own -/
def ListOwn (T : TypeId) (L : List Nd) (w : World) (e : Ending) (w' : World) : Prop := ∃ A m c, e = .returned (.slice A m c) ∧ OwnNd T w' w.heap.size (.slice A m c) L ∧ Below w.heap.size w w'
theorem list_own {T : TypeId} {L : List Nd} {v : Value} {w w' : World} (h : OwnNd T w' w.heap.size v L) (hb : Below w.heap.size w w') : ListOwn T L w (.returned v) w' := by
  have hn := ownNd_nodes h
  obtain ⟨A, c, rfl, _⟩ := hn
  exact ⟨A, L.length, c, rfl, h, hb⟩
theorem list_forget {T : TypeId} {L : List Nd} {w w' : World} {e : Ending} (h : ListOwn T L w e w') : ListPost L w e w' := by
  obtain ⟨A, m, c, a, b, d⟩ := h
  exact ⟨A, m, c, a, ownNd_nodes b, d⟩
theorem splice_all {α : Type} (X Y : List α) (h : X.length = Y.length) : splice X 0 Y = Y := by
  unfold splice
  rw [List.take_zero, List.nil_append, List.drop_of_length_le (by omega), List.append_nil]
theorem own_of_heap {w : World} {B h N : Nat} {TI : TypeId} {ys : List Value} (hb : B ≤ h) (hN : N ≤ maxLen) (hl : ys.length = N) (hg : w.heap[h]? = some (.cells ys.toArray TI (0, 0))) : w.ownsRow B TI 1 (.slice (some ⟨h, 0, none⟩) N N) N ys :=
  ⟨by omega, .inr ⟨h, N, ys.toArray, rfl, hb, hg, Nat.le_refl _, hN, by simp; omega, by simp [← hl]⟩⟩

set_option maxHeartbeats 3200000 in
set_option maxRecDepth 100000 in
theorem dsSnap_own {B g h : Nat} {l : Int} {L : List Nd} (w : World) (d : DsA w B g h l L) (hr : RollC l L) (L1 : l ≤ 16) :
    Calls Tryz.prog 81 #[.pointer (some ⟨g, 0, none⟩)] w (ListOwn 74 L w) := by
  obtain ⟨i0, hi, hz0, hz1, hz2⟩ := info_parts node_info
  have hp := plc_bd L1
  have hll := roll_len hr
  obtain ⟨d0, d1, d2, d3⟩ := d.cells
  have hlt := d.lt
  have PL := Lib.hid (fun k (hk : k < plcN l) => d.place hk)
  have SN := Lib.hid (roll_snap hr)
  have SL := Lib.hid (snap_len L)
  have NN := Lib.hid (sum_le hr.2.2.2.1)
  have S1 := Lib.hid hr.2.2.2.2
  clear d hr d0 d2
  have hmk := make_room (P := Tryz.prog) Tryz.underlying32 hi hz0 hz1 hz2 L.length (by omega) (by omega) w
  generalize plcN l = N at *
  generalize L.length = n at *
  go_enter Tryz.func81, Tryz.ntmps81
  go_wp2_with fail
  clear hmk
  go_loopw [3, 18] (fun v i wr => ∃ k : Nat, k ≤ N ∧ i = .int .i64 k ∧ OwnNd 74 wr w.heap.size v (snapN L k) ∧ Below w.heap.size w wr) (fun _ i _ => N - (intOf i).toNat)
  case atStart => exact ⟨0, by omega, rfl, room_own (Nat.le_refl _) (by unfold maxLen; omega), (Below.refl _ _).alloc (Nat.le_refl _) _⟩
  case round =>
    rename_i wr
    obtain ⟨k, hk, rfl, hown, hb⟩ := hrel
    have HO := Lib.hid hown
    have hsz := hb.size
    clear hown
    by_cases hlt2 : k < N
    · have hbh : h < w.heap.size := hlt.2.2.2
      have e0 := (hb.cell (p := ⟨h, k, none⟩) hbh).trans (PL.out k hlt2)
      have hsl := SL.out k
      have hx0 := (NN.out (k : Int)).1
      have hx1 := (NN.out (k : Int)).2
      have hx2 := S1.out
      have YS := Lib.hid (fun q => snap_yes (L := L) (k := k) q)
      have NS := Lib.hid (fun q => snap_no (L := L) (k := k) q)
      generalize sumAt (k : Int) L = x at *
      by_cases q : 0 < x
      · have Y := Lib.hid (YS.out q)
        have X1 : Hid (x ≤ 9223372036854775807) := by show x ≤ _; omega
        clear YS NS hx1 hx2
        go_wp2_with (at_builtin; refine wpList_append_own _ rfl _ _ 32 rfl w.heap.size 74 i0 (.agg #[.int .i64 0, .int .i64 0]) 2 16 Tryz.underlying32 hi hz0 hz1 hz2 rfl (by decide) _ (snapN L k).length (nods (snapN L k)) rfl (World.ownsRow.alloc HO.out _) ⟨wr.heap.size, 0, none⟩ 1 1 [.int .i64 k, .int .i64 x] rfl rfl (two_new _ _ _ _ _ (by simp)) (two_cell _ _) (by unfold maxLen; omega) (by omega) (by simp; omega) ?_)
        intro v' w3 hown2 hgrow _
        have hb3 : Below w.heap.size w w3 := (hb.alloc (by omega) _).grown hgrow (by simp; omega) (fun g hg => (World.ownsRow.lt HO.out g hg).1)
        have HO2 := Lib.hid (ownNd_snoc hown2)
        clear hown2 hgrow
        go_wp2_with fail
        go_roundw
        case rel => exact ⟨k + 1, by omega, by go_num, by rw [Y.out]; exact HO2.out, hb3⟩
        case measure => simp [intOf]; omega
      · have Y := Lib.hid (NS.out q)
        clear YS NS
        go_wp2_with fail
        go_roundw
        case rel => exact ⟨k + 1, by omega, by go_num, by rw [Y.out]; exact HO.out, hb⟩
        case measure => simp [intOf]; omega
    · have hkn : k = N := by omega
      subst hkn
      have HO2 := Lib.hid (show OwnNd 74 wr w.heap.size _ L from by have q := HO.out; rw [SN.out] at q; exact q)
      go_wp2_with fail
      go_ret
      exact list_own HO2.out hb
theorem dsSnap_any {B g h : Nat} {l : Int} {L : List Nd} (w : World) (d : DsA w B g h l L) (hr : RollC l L) (L1 : l ≤ 16) :
    Calls Tryz.prog 81 #[.pointer (some ⟨g, 0, none⟩)] w (ListPost L w) := (dsSnap_own w d hr L1).mono fun _ _ q => list_forget q
theorem clone_facts {TD TI : TypeId} {B g h N : Nat} {l : Int} {L : List Nd} {w : World} {a b c : Value} (h3 : w.cell? ⟨g, 3, none⟩ = some (.slice (some ⟨h, 0, none⟩) N N)) (hg : g < w.heap.size) (hh : h < w.heap.size) :
    ((w.alloc (.cells #[a, b, c, .slice (some ⟨w.heap.size + 1, 0, none⟩) N N] TD)).alloc (.cells (blank (.int .i64 0) N) TI)).cell? ⟨w.heap.size, 3, none⟩ = some (.slice (some ⟨w.heap.size + 1, 0, none⟩) N N) ∧
    ((w.alloc (.cells #[a, b, c, .slice (some ⟨w.heap.size + 1, 0, none⟩) N N] TD)).alloc (.cells (blank (.int .i64 0) N) TI)).cell? ⟨g, 3, none⟩ = some (.slice (some ⟨h, 0, none⟩) N N) ∧
    ((w.alloc (.cells #[a, b, c, .slice (some ⟨w.heap.size + 1, 0, none⟩) N N] TD)).alloc (.cells (blank (.int .i64 0) N) TI)).heap[w.heap.size + 1]? = some (.cells (blank (.int .i64 0) N) TI (0, 0)) ∧
    Below w.heap.size w ((w.alloc (.cells #[a, b, c, .slice (some ⟨w.heap.size + 1, 0, none⟩) N N] TD)).alloc (.cells (blank (.int .i64 0) N) TI)) ∧
    ((w.alloc (.cells #[a, b, c, .slice (some ⟨w.heap.size + 1, 0, none⟩) N N] TD)).alloc (.cells (blank (.int .i64 0) N) TI)).ownsRow w.heap.size TD 4 (.slice (some ⟨w.heap.size, 0, none⟩) 1 1) 1 [a, b, c, .slice (some ⟨w.heap.size + 1, 0, none⟩) N N] ∧
    ((w.alloc (.cells #[a, b, c, .slice (some ⟨w.heap.size + 1, 0, none⟩) N N] TD)).alloc (.cells (blank (.int .i64 0) N) TI)).heap.size = w.heap.size + 2 := by
  have o := World.ownsRow_lit (base := w.heap.size) (e := TD) (size := 4) w #[a, b, c, .slice (some ⟨w.heap.size + 1, 0, none⟩) N N] 1 (Nat.le_refl _) (by unfold maxLen; omega) rfl
  have o2 := o.alloc (.cells (blank (.int .i64 0) N) TI)
  have hb : Below w.heap.size w ((w.alloc (.cells #[a, b, c, .slice (some ⟨w.heap.size + 1, 0, none⟩) N N] TD)).alloc (.cells (blank (.int .i64 0) N) TI)) := ((Below.refl _ _).alloc (Nat.le_refl _) _).alloc (by simp) _
  refine ⟨o2.cellAt 3 (by omega), (hb.cell (p := ⟨g, 3, none⟩) hg).trans h3, ?_, hb, o2, by simp⟩
  have q := heap_alloc_new (w.alloc (.cells #[a, b, c, .slice (some ⟨w.heap.size + 1, 0, none⟩) N N] TD)) (.cells (blank (.int .i64 0) N) TI)
  have e : (w.alloc (.cells #[a, b, c, .slice (some ⟨w.heap.size + 1, 0, none⟩) N N] TD)).heap.size = w.heap.size + 1 := by simp
  rw [e] at q
  exact q
set_option maxHeartbeats 3200000 in
set_option maxRecDepth 100000 in
theorem dsClone_any {B g h : Nat} {l : Int} {L : List Nd} (w : World) (d : DsA w B g h l L) (L1 : l ≤ 16) :
    Calls Tryz.prog 87 #[.pointer (some ⟨g, 0, none⟩)] w fun e w' => ∃ g2 h2, e = .returned (.pointer (some ⟨g2, 0, none⟩)) ∧ DsA w' w.heap.size g2 h2 l L ∧ Below w.heap.size w w' := by
  obtain ⟨i0, hi, hz0, hz1, hz2⟩ := info_parts dint_info
  have hp := plc_bd L1
  have hlt := d.lt
  obtain ⟨d0, d1, d2, d3⟩ := d.cells
  have PL := Lib.hid (fun k (hk : k < plcN l) => d.place hk)
  have D : Hid (DsA w B g h l L) := d
  clear d
  have hmk := make_all (P := Tryz.prog) Tryz.underlying103 hi hz0 hz1 hz2 (plcN l) (plcN l) (Nat.mul_one _) _ rfl (by omega) (by omega)
  generalize hN : plcN l = N at *
  have HN := Lib.hid hN
  clear hN
  go_enter Tryz.func87, Tryz.ntmps87
  go_wp2_with fail
  have hW := Lib.hid (clone_facts (TD := 136) (TI := 3) (B := B) (g := g) (h := h) (l := l) (L := L) (w := w) (N := N) (a := .int .i64 l) (b := .int .i64 (L.length : Int)) (c := .int .i64 (sumC L)) d3 hlt.2.1 hlt.2.2.2)
  generalize (w.alloc (.cells #[.int .i64 l, .int .i64 (L.length : Int), .int .i64 (sumC L), .slice (some ⟨w.heap.size + 1, 0, none⟩) N N] 136)).alloc (.cells (blank (.int .i64 0) N) 3) = W at *
  obtain ⟨k3, k4, kh, kb, ko, kz⟩ := hW.out
  have hd : ∀ a, ({ heap := W.heap, tape := W.tape, drawn := W.drawn + 1, os := W.os, output := W.output } : World).cell? a = W.cell? a := fun _ => rfl
  go_still_tail 6, (by kernel_rfl)
  change wpList _ _ _ _ _ (World.drew W)
  clear hd
  have kh2 : (World.drew W).heap[w.heap.size + 1]? = some (.cells (blank (.int .i64 0) N).toList.toArray 3 (0, 0)) := by
    have q := kh
    show W.heap[w.heap.size + 1]? = _
    rw [q, Array.toArray_toList]
  have KB := Lib.hid kb
  have KO := Lib.hid ko
  have KZ := Lib.hid kz
  have RC : Hid (∀ j v, (ints (tabW L N))[j]? = some v → (World.drew W).cell? ((⟨h, 0, none⟩ : Addr).add j) = some v) := by
    have q := (D.out.below (KB.out)).row
    rw [HN.out] at q
    exact fun j v hj => World.ownsRow.cells q rfl j v hj
  have LI : Hid ((ints (tabW L N)).length = Nat.min N N) := by show _ = _; rw [ints_len, tab_len]; simp
  have LB : Hid ((blank (.int .i64 0) N).toList.length = N) := by show _ = _; rw [Array.length_toList, blank_size]
  have LF : Hid (0 + (ints (tabW L N)).length ≤ (blank (.int .i64 0) N).toList.length) := by show _ ≤ _; rw [LB.out, ints_len, tab_len]; omega
  have L1C : Hid (∀ v ∈ ints (tabW L N), v.oneCell' = true) := fun v hv => by
    obtain ⟨x, _, rfl⟩ := List.mem_map.1 hv
    rfl
  have hsz : (Tryz.prog.info? 3).map (·.size) = some 1 := by kernel_rfl
  refine wpList_copy_splice rfl (.tmp 17) (.tmp 21) 103 103 rfl 3 Tryz.underlying103 hsz (some ⟨w.heap.size + 1, 0, none⟩) (some ⟨h, 0, none⟩) N N N N rfl rfl (w.heap.size + 1) 0 _ 3 kh2 (ints (tabW L N)) LI.out (fun _ => ⟨rfl, _, rfl, RC.out⟩) LF.out L1C.out (w.heap.size + 1) (World.drew W) (Below.refl ..) (Nat.le_refl _) ?_
  intro w4 hg4 hb4
  have ES : Hid (splice (blank (.int .i64 0) N).toList 0 (ints (tabW L N)) = ints (tabW L N)) := splice_all _ _ (by rw [LB.out, ints_len, tab_len])
  clear k3 k4 kh kb ko kz kh2
  go_wp2_with fail
  go_ret
  have hb5 : Below w.heap.size w w4 := (KB.out.drew).trans (hb4.mono (by omega))
  have hg5 := hg4.out
  rw [ES.out] at hg5
  refine ⟨w.heap.size, w.heap.size + 1, rfl, ⟨?_, ?_, by omega⟩, hb5⟩
  · have q := KO.out.kept (w' := w4) (row := some (w.heap.size + 1)) ⟨hb4.os, hb4.tape, hb4.output, hb4.size, fun k hk hne => hb4.block k (by rw [KZ.out] at hk; have : k ≠ w.heap.size + 1 := (fun e => hne (by rw [e])); omega)⟩ (.inr (by simp [Value.ownBlock]))
    unfold topW
    rw [HN.out]
    exact q
  · rw [HN.out]
    exact own_of_heap (by omega) (by unfold maxLen; omega) (by rw [ints_len, tab_len]) hg5

end Go.Proofs.YtfilmblpikcpnaaGreat
