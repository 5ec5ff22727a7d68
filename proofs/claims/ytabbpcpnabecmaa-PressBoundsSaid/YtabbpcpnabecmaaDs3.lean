/- The project's package dense: Snap and Clone of a store that lies in memory. -/
import Derived.Test.YtabbpcpnabecmaaDs2
import Derived.Test.YtabbpcpnabecmaaRo2
import Derived.Laws.CopyOwn
import Derived.StillTailTactics
import Derived.RegionTactic
import Derived.WalkSpells
namespace Go.Proofs.Ytabbpcpnabecmaa
set_option linter.unusedVariables false
open Go.RowKit

theorem roll_snap {l : Int} {L : List Nd} (h : RollC l L) : snapN L (plcN l) = L :=
  snap_all (roll_good h) fun n hn => by have := right_plc (h.2.2.1 n hn).1; omega
theorem roll_len {l : Int} {L : List Nd} (h : RollC l L) : L.length ≤ plcN l := by
  have := snap_len L (plcN l)
  rwa [roll_snap h] at this
/-- what a list handed out leaves -/
def ListPost (L : List Nd) (w : World) (e : Ending) (w' : World) : Prop := ∃ A m c, e = .returned (.slice A m c) ∧ NodesAt w' (.slice A m c) L ∧ Below w.heap.size w w'
theorem list_post {T : TypeId} {B : Nat} {L : List Nd} {v : Value} {w w' : World} (h : OwnNd T w' B v L) (hb : Below w.heap.size w w') : ListPost L w (.returned v) w' := by
  have hn := ownNd_nodes h
  have hf := hn
  obtain ⟨A, c, rfl, _⟩ := hn
  exact ⟨A, L.length, c, rfl, hf, hb⟩
/-- .. a row of its own -/
def ListOwn (T : TypeId) (L : List Nd) (w : World) (e : Ending) (w' : World) : Prop := ∃ A m c, e = .returned (.slice A m c) ∧ OwnNd T w' w.heap.size (.slice A m c) L ∧ Below w.heap.size w w'
theorem list_own {T : TypeId} {L : List Nd} {v : Value} {w w' : World} (h : OwnNd T w' w.heap.size v L) (hb : Below w.heap.size w w') : ListOwn T L w (.returned v) w' := by
  have hn := ownNd_nodes h
  obtain ⟨A, c, rfl, _⟩ := hn
  exact ⟨A, L.length, c, rfl, h, hb⟩
theorem list_forget {T : TypeId} {L : List Nd} {w w' : World} {e : Ending} (h : ListOwn T L w e w') : ListPost L w e w' := by
  obtain ⟨A, m, c, a, b, d⟩ := h
  exact ⟨A, m, c, a, ownNd_nodes b, d⟩
theorem splice_all {α : Type} (X Y : List α) (h : X.length = Y.length) : splice X 0 Y = Y := by
  unfold splice
  rw [List.take_zero, List.nil_append, List.drop_of_length_le (by omega), List.append_nil]
theorem own_of_heap {w : World} {B h N : Nat} {TI : TypeId} {ys : List Value} (hb : B ≤ h) (hN : N ≤ maxLen) (hl : ys.length = N) (hg : w.heap[h]? = some (.cells ys.toArray TI (0, 0))) : w.ownsRow B TI 1 (.slice (some ⟨h, 0, none⟩) N N) N ys :=
  ⟨by omega, .inr ⟨h, N, ys.toArray, rfl, hb, hg, Nat.le_refl _, hN, by simp; omega, by simp [← hl]⟩⟩

set_option maxHeartbeats 3200000 in
set_option maxRecDepth 100000 in
theorem dsSnap_own {B g h : Nat} {l : Int} {L : List Nd} (w : World) (d : DsA w B g h l L) (hr : RollC l L) (L1 : l ≤ 16) :
    Calls Try.prog 38 #[.pointer (some ⟨g, 0, none⟩)] w (ListOwn 46 L w) := by
  obtain ⟨i0, hi, hz0, hz1, hz2⟩ := info_parts node_info
  have hp := plc_bd L1
  have hll := roll_len hr
  obtain ⟨d0, d1, d2, d3⟩ := d.cells
  have hlt := d.lt
  have PL := Lib.hid (fun k (hk : k < plcN l) => d.place hk)
  have SN := Lib.hid (roll_snap hr)
  have SL := Lib.hid (snap_len L)
  have NN := Lib.hid (sum_le hr.2.2.2.1)
  have S1 := Lib.hid hr.2.2.2.2
  clear d hr d0 d2
  have hmk := make_room (P := Try.prog) Try.underlying22 hi hz0 hz1 hz2 L.length (by omega) (by omega) w
  generalize plcN l = N at *
  generalize L.length = n at *
  go_enter Try.func38, Try.ntmps38
  go_wp2_with fail
  clear hmk
  go_loopw [3, 18] (fun v i wr => ∃ k : Nat, k ≤ N ∧ i = .int .i64 k ∧ OwnNd 46 wr w.heap.size v (snapN L k) ∧ Below w.heap.size w wr) (fun _ i _ => N - (intOf i).toNat)
  case atStart => exact ⟨0, by omega, rfl, room_own (Nat.le_refl _) (by unfold maxLen; omega), (Below.refl _ _).alloc (Nat.le_refl _) _⟩
  case round =>
    rename_i wr
    obtain ⟨k, hk, rfl, hown, hb⟩ := hrel
    have HO := Lib.hid hown
    have hsz := hb.size
    clear hown
    by_cases hlt2 : k < N
    · have hbh : h < w.heap.size := hlt.2.2.2
      have e0 := (hb.cell (p := ⟨h, k, none⟩) hbh).trans (PL.out k hlt2)
      have hsl := SL.out k
      have hx0 := (NN.out (k : Int)).1
      have hx1 := (NN.out (k : Int)).2
      have hx2 := S1.out
      have YS := Lib.hid (fun q => snap_yes (L := L) (k := k) q)
      have NS := Lib.hid (fun q => snap_no (L := L) (k := k) q)
      generalize sumAt (k : Int) L = x at *
      by_cases q : 0 < x
      · have Y := Lib.hid (YS.out q)
        have X1 : Hid (x ≤ 9223372036854775807) := by show x ≤ _; omega
        clear YS NS hx1 hx2
        go_wp2_with (at_builtin; refine wpList_append_own _ rfl _ _ 22 rfl w.heap.size 46 i0 (.agg #[.int .i64 0, .int .i64 0]) 2 16 Try.underlying22 hi hz0 hz1 hz2 rfl (by decide) _ (snapN L k).length (nods (snapN L k)) rfl (World.ownsRow.alloc HO.out _) ⟨wr.heap.size, 0, none⟩ 1 1 [.int .i64 k, .int .i64 x] rfl rfl (two_new _ _ _ _ _ (by simp)) (two_cell _ _) (by unfold maxLen; omega) (by omega) (by simp; omega) ?_)
        intro v' w3 hown2 hgrow _
        have hb3 : Below w.heap.size w w3 := (hb.alloc (by omega) _).grown hgrow (by simp; omega) (fun g hg => (World.ownsRow.lt HO.out g hg).1)
        have HO2 := Lib.hid (ownNd_snoc hown2)
        clear hown2 hgrow
        go_wp2_with fail
        go_roundw
        case rel => exact ⟨k + 1, by omega, by go_num, by rw [Y.out]; exact HO2.out, hb3⟩
        case measure => simp [intOf]; omega
      · have Y := Lib.hid (NS.out q)
        clear YS NS
        go_wp2_with fail
        go_roundw
        case rel => exact ⟨k + 1, by omega, by go_num, by rw [Y.out]; exact HO.out, hb⟩
        case measure => simp [intOf]; omega
    · have hkn : k = N := by omega
      subst hkn
      have HO2 := Lib.hid (show OwnNd 46 wr w.heap.size _ L from by have q := HO.out; rw [SN.out] at q; exact q)
      go_wp2_with fail
      go_ret
      exact list_own HO2.out hb
theorem dsSnap_any {B g h : Nat} {l : Int} {L : List Nd} (w : World) (d : DsA w B g h l L) (hr : RollC l L) (L1 : l ≤ 16) :
    Calls Try.prog 38 #[.pointer (some ⟨g, 0, none⟩)] w (ListPost L w) := (dsSnap_own w d hr L1).mono fun _ _ q => list_forget q
theorem clone_facts {TD TI : TypeId} {B g h N : Nat} {l : Int} {L : List Nd} {w : World} {a b c : Value} (h3 : w.cell? ⟨g, 3, none⟩ = some (.slice (some ⟨h, 0, none⟩) N N)) (hg : g < w.heap.size) (hh : h < w.heap.size) :
    ((w.alloc (.cells #[a, b, c, .slice (some ⟨w.heap.size + 1, 0, none⟩) N N] TD)).alloc (.cells (blank (.int .i64 0) N) TI)).cell? ⟨w.heap.size, 3, none⟩ = some (.slice (some ⟨w.heap.size + 1, 0, none⟩) N N) ∧
    ((w.alloc (.cells #[a, b, c, .slice (some ⟨w.heap.size + 1, 0, none⟩) N N] TD)).alloc (.cells (blank (.int .i64 0) N) TI)).cell? ⟨g, 3, none⟩ = some (.slice (some ⟨h, 0, none⟩) N N) ∧
    ((w.alloc (.cells #[a, b, c, .slice (some ⟨w.heap.size + 1, 0, none⟩) N N] TD)).alloc (.cells (blank (.int .i64 0) N) TI)).heap[w.heap.size + 1]? = some (.cells (blank (.int .i64 0) N) TI (0, 0)) ∧
    Below w.heap.size w ((w.alloc (.cells #[a, b, c, .slice (some ⟨w.heap.size + 1, 0, none⟩) N N] TD)).alloc (.cells (blank (.int .i64 0) N) TI)) ∧
    ((w.alloc (.cells #[a, b, c, .slice (some ⟨w.heap.size + 1, 0, none⟩) N N] TD)).alloc (.cells (blank (.int .i64 0) N) TI)).ownsRow w.heap.size TD 4 (.slice (some ⟨w.heap.size, 0, none⟩) 1 1) 1 [a, b, c, .slice (some ⟨w.heap.size + 1, 0, none⟩) N N] ∧
    ((w.alloc (.cells #[a, b, c, .slice (some ⟨w.heap.size + 1, 0, none⟩) N N] TD)).alloc (.cells (blank (.int .i64 0) N) TI)).heap.size = w.heap.size + 2 := by
  have o := World.ownsRow_lit (base := w.heap.size) (e := TD) (size := 4) w #[a, b, c, .slice (some ⟨w.heap.size + 1, 0, none⟩) N N] 1 (Nat.le_refl _) (by unfold maxLen; omega) rfl
  have o2 := o.alloc (.cells (blank (.int .i64 0) N) TI)
  have hb : Below w.heap.size w ((w.alloc (.cells #[a, b, c, .slice (some ⟨w.heap.size + 1, 0, none⟩) N N] TD)).alloc (.cells (blank (.int .i64 0) N) TI)) := ((Below.refl _ _).alloc (Nat.le_refl _) _).alloc (by simp) _
  refine ⟨o2.cellAt 3 (by omega), (hb.cell (p := ⟨g, 3, none⟩) hg).trans h3, ?_, hb, o2, by simp⟩
  have q := heap_alloc_new (w.alloc (.cells #[a, b, c, .slice (some ⟨w.heap.size + 1, 0, none⟩) N N] TD)) (.cells (blank (.int .i64 0) N) TI)
  have e : (w.alloc (.cells #[a, b, c, .slice (some ⟨w.heap.size + 1, 0, none⟩) N N] TD)).heap.size = w.heap.size + 1 := by simp
  rw [e] at q
  exact q
end Go.Proofs.Ytabbpcpnabecmaa
