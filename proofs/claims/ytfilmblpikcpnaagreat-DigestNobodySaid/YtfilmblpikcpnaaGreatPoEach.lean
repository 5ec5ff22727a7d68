/- The project's package pool: Each: its nodes are gone over, for every loop's body that leaves blocks that are free as they are. -/
import Derived.Test.YtfilmblpikcpnaaGreatPoLaw
import Derived.RangeFuncNested
import Derived.RangeFuncBound
import Derived.RangeFuncCalls
import Derived.RangeFuncLeaves
import Derived.Shelf.Abstract
import Derived.Shelf.RegionOpen
import Derived.WalkKit
import Derived.OwnWalkIn
import Derived.TacticsInMore
import Derived.LoopNIn
import Derived.LoopIn
namespace Go.Proofs.YtfilmblpikcpnaaGreat
set_option linter.unusedVariables false
set_option maxRecDepth 100000
open Go.RowKit Go.Shelf
attribute [local go_sem] Oper.semAt_some

theorem wrap_in {x : Int} (h0 : -9223372036854775808 ≤ x) (h1 : x ≤ 9223372036854775807) : wrap64 x = x := by unfold wrap64; omega
theorem wrap_bd (x : Int) : -9223372036854775808 ≤ wrap64 x ∧ wrap64 x ≤ 9223372036854775807 := by unfold wrap64; omega
/-- which blocks a loop's body leaves: such a block holds cells; it stays such a one while others than cells turn -/
structure Frm (Fr : World → Nat → Prop) : Prop where
  cells : ∀ {W : World} {k : Nat}, Fr W k → ∃ o : Obj, W.heap[k]? = some o ∧ o.isCells = true
  grown : ∀ {W W' : World} {row : Option Nat} {k : Nat}, W.grownBy W' row → (∀ r, row = some r → ∃ o : Obj, W.heap[r]? = some o ∧ o.isCells = false) → Fr W k → Fr W' k
/-- what a round keeps -/
def KpF (Fr : World → Nat → Prop) (A C : World) : Prop := A.heap.size ≤ C.heap.size ∧ ∀ k, k < A.heap.size → Fr A k → C.heap[k]? = A.heap[k]? ∧ Fr C k
theorem kpF_t {Fr : World → Nat → Prop} {A B C : World} (h : KpF Fr A B) (k : KpF Fr B C) : KpF Fr A C :=
  ⟨Nat.le_trans h.1 k.1, fun i hi hf => by
    have a := h.2 i hi hf
    have b := k.2 i (Nat.lt_of_lt_of_le hi h.1) a.2
    exact ⟨b.1.trans a.1, b.2⟩⟩
theorem kpF_b {Fr : World → Nat → Prop} (F : Frm Fr) (W : World) (l : Nat) (o o' : Obj) (h : W.heap[l]? = some o) (ho : o.isCells = false) : KpF Fr W (W.putObj l o') :=
  ⟨by simp, fun k hk hf => by
    obtain ⟨c, hc, hcc⟩ := F.cells hf
    have hne : k ≠ l := fun e => by subst e; rw [hc] at h; injection h with h; rw [h, ho] at hcc; cases hcc
    exact ⟨World.putObj_heap_other hne, F.grown (grownBy_putObj' W l o') (fun r e => by cases e; exact ⟨o, h, ho⟩) hf⟩⟩
theorem kpF_refl {Fr : World → Nat → Prop} (A : World) : KpF Fr A A := ⟨Nat.le_refl _, fun k _ hf => ⟨rfl, hf⟩⟩
/-- nothing that lay has turned -/
theorem below_none {w w' : World} (h : Below w.heap.size w w') : w.grownBy w' none := ⟨h.os, h.tape, h.output, h.size, fun k hk _ => h.block k hk⟩
theorem Frm.below {Fr : World → Nat → Prop} (F : Frm Fr) {W W' : World} {k : Nat} (hb : Below W.heap.size W W') (hf : Fr W k) : Fr W' k :=
  F.grown (below_none hb) (fun r e => by cases e) hf
theorem poEach_any (p : Option Addr) (w : World) : Calls Tryz.prog 75 #[.pointer p] w fun e w' => e = .returned (.func (.func 109) #[] #[.pointer (some ⟨w.heap.size, 0, none⟩)]) ∧ w' = w.alloc (.cells #[.pointer p] 78) := by
  go_enter Tryz.func75, Tryz.ntmps75
  go_wp2_with fail
  go_ret
  exact ⟨rfl, rfl⟩
set_option maxHeartbeats 3200000 in
/-- the closure that Each hands out goes over the pool's nodes -/
theorem each1_in (n l Bp p B g h : Nat) {kd ll : Int} {m : Nat} {L : List Nd} (hm : m ≤ 1000) (Fr : World → Nat → Prop) (FR : Frm Fr) (J Jx : List Nd → World → Prop)
    (hY : ∀ pre x W, J pre W → pre.length < L.length → YieldAt Fence.wide (n - 1) Tryz.prog l #[.int .i64 (wrap64 x.1), .int .i64 (wrap64 x.2)] W fun e W' =>
      (e = .returned (.bool true) ∧ J (pre ++ [x]) W' ∧ KpF Fr W W') ∨ (e = .returned (.bool false) ∧ Jx (pre ++ [x]) W'))
    (hJ : ∀ pre W W', J pre W → Below W.heap.size W W' → J pre W')
    (W : World) (hBp : W.cell? ⟨Bp, 0, none⟩ = some (.pointer (some ⟨p, 0, none⟩))) (d : PoA W B p g h kd ll m L) (hN : ∀ W2 k, Below W.heap.size W W2 → W.heap.size ≤ k → (∃ o : Obj, W2.heap[k]? = some o ∧ o.isCells = true) → Fr W2 k) (h0 : J [] W) :
    CallsIn Fence.wide n Tryz.prog 109 #[.func (.yield l) #[] #[], .pointer (some ⟨Bp, 0, none⟩)] W fun e W' => (∃ v, e = .returned v) ∧
      ((∃ ys, ys = L ∧ J ys W') ∨ (∃ pre, pre <+: L ∧ Jx pre W')) := by
  have D := Lib.hid d
  have HN := Lib.hid hN
  have hlen := d.len
  have NB := Lib.hid (nbds_roll d.roll)
  clear d hN
  refine callsIn_of_wp Tryz.func109 rfl trivial ?_ rfl
  simp only [Tryz.ntmps109, List.size_toArray, List.length_cons, List.length_nil, Nat.reduceAdd, Nat.reduceSub, Array.replicate_succ, Array.replicate_zero, List.push_toArray, List.append_toArray, List.nil_append, List.cons_append]
  gi_wp2
  refine ⟨trivial, fun hq => (by cases hq), (callsIn_wide.2 (poSnap_any _ D.out hm)).mono ?_⟩
  rintro e W2 ⟨A3, m3, c3, rfl, ho, hb⟩
  have HJ2 := Lib.hid (hJ _ _ _ h0 hb)
  have hm3 := (nodes_cells (ownNd_nodes ho)).1
  rcases ownNd_form ho with ⟨hv, hL⟩ | ⟨q, cap, hv, hq1, hq2, hcl, hcm, hin⟩
  · have hn0 : m3 = 0 := by rw [hm3, hL]; rfl
    injection hv with e1 e2 e3
    subst e1 e2 e3
    clear ho hb hm3 hn0
    gi_wp2
    gi_loopw [8] (fun i wr => i = .int .i64 0 ∧ J [] wr) (fun _ _ => 0)
    case atStart => exact ⟨rfl, HJ2.out⟩
    case round =>
      obtain ⟨rfl, hJs⟩ := hrel
      gi_wp2
      go_end0
      exact ⟨⟨_, rfl⟩, .inl ⟨_, hL.symm, hJs⟩⟩
  · injection hv with e1 e2 e3
    subst e1 e2 e3
    have HQ : Hid (Fr W2 q) := by
      refine HN.out W2 q hb hq1 ?_
      rcases ho.2 with ⟨hv, _⟩ | ⟨g', cap', cur, hv, _, hg, _⟩
      · cases hv
      · injection hv with e1
        injection e1 with e1
        injection e1 with e1
        subst e1
        exact ⟨_, hg, rfl⟩
    have HI := Lib.hid hin
    clear ho hb hin hm3
    gi_wp2
    gi_loopw [8] (fun i wr => ∃ k : Nat, k ≤ L.length ∧ i = .int .i64 k ∧ J (L.take k) wr ∧ Fr wr q ∧ NdIn wr q 0 L) (fun i _ => L.length - (intOf i).toNat)
    case atStart => exact ⟨0, Nat.zero_le _, rfl, HJ2.out, HQ.out, HI.out⟩
    case round =>
      obtain ⟨k, hk, rfl, hJs, hF, hin⟩ := hrel
      by_cases hlt : k < L.length
      · obtain ⟨c0, c1⟩ := hin.2 k hlt
        have hnt := nd_take hlt
        have HT := Lib.hid hnt
        have hpl : (L.take k).length < L.length := by rw [List.length_take]; omega
        obtain ⟨x, hx⟩ : ∃ x, x = L.getD k nz := ⟨_, rfl⟩
        rw [← hx] at c0 c1 HT
        rw [Nat.zero_add] at c0 c1
        have hba : Below wr.heap.size wr (wr.alloc (.cells #[.int .i64 x.1, .int .i64 x.2] 74)) := (Below.refl _ _).alloc (Nat.le_refl _) _
        have HF2 := Lib.hid (FR.below hba hF)
        have HI2 := Lib.hid (hin.below hba hin.1)
        obtain ⟨fn, tmps, assign, body, hy, hR⟩ := hY _ x _ (hJ _ _ _ hJs hba) hpl
        have hbd := NB.out _ (nd_mem hlt)
        rw [← hx] at hbd
        rw [wrap_in hbd.1.1 hbd.1.2, wrap_in hbd.2.1 hbd.2.2] at hy
        clear hbd
        clear hx hnt hin hF hba hJs hJ hY
        gi_wp2
        refine ⟨fun hq => (by cases hq), hR.mono ?_⟩
        rintro e W3 (⟨rfl, hJ3, hk3⟩ | ⟨rfl, hJx3⟩)
        · have hkk := hk3.2 q HI2.out.1 HF2.out
          have HI3 := Lib.hid (HI2.out.block hk3.1 hkk.1)
          have HF3 := Lib.hid hkk.2
          have HJ3 := Lib.hid (show J (L.take (k + 1)) W3 by rw [HT.out]; exact hJ3)
          clear hk3 hkk hJ3
          gi_wp2
          go_roundw
          case rel => exact ⟨k + 1, by omega, by simp, HJ3.out, HF3.out, HI3.out⟩
          case measure => simp [intOf]; omega
        · gi_wp2
          refine bodyPost_ret (results_none rfl _ _ _) rfl ?_
          exact ⟨⟨_, rfl⟩, .inr ⟨_, by rw [← HT.out]; exact List.take_prefix _ _, hJx3⟩⟩
      · obtain rfl : k = L.length := by omega
        gi_wp2
        go_end0
        exact ⟨⟨_, rfl⟩, .inl ⟨_, List.take_of_length_le (Nat.le_refl _), hJs⟩⟩
/-- .. of nil: over nothing -/
theorem each1_nil_in (n l Bp : Nat) (J : List Nd → World → Prop) (W : World) (hBp : W.cell? ⟨Bp, 0, none⟩ = some (.pointer none)) (h0 : J [] W) :
    CallsIn Fence.wide n Tryz.prog 109 #[.func (.yield l) #[] #[], .pointer (some ⟨Bp, 0, none⟩)] W fun e W' => (∃ v, e = .returned v) ∧ J [] W' := by
  refine callsIn_of_wp Tryz.func109 rfl trivial ?_ rfl
  simp only [Tryz.ntmps109, List.size_toArray, List.length_cons, List.length_nil, Nat.reduceAdd, Nat.reduceSub, Array.replicate_succ, Array.replicate_zero, List.push_toArray, List.append_toArray, List.nil_append, List.cons_append]
  gi_wp2
  refine ⟨trivial, fun hq => (by cases hq), (callsIn_wide.2 (poSnap_nil _)).mono ?_⟩
  rintro e W2 ⟨rfl, rfl⟩
  gi_wp2
  gi_loopw [8] (fun i wr => i = .int .i64 0 ∧ J [] wr) (fun _ _ => 0)
  case atStart => exact ⟨rfl, h0⟩
  case round =>
    obtain ⟨rfl, hJs⟩ := hrel
    gi_wp2
    go_end0
    exact ⟨⟨_, rfl⟩, hJs⟩
/-- the value that Each hands out, as the law of loops wants it -/
theorem each_stops (n Bp p B g h : Nat) {kd ll : Int} {m : Nat} {L : List Nd} (hm : m ≤ 1000) (Fr : World → Nat → Prop) (FR : Frm Fr) (w : World) (hBp : w.cell? ⟨Bp, 0, none⟩ = some (.pointer (some ⟨p, 0, none⟩))) (hlt : Bp < w.heap.size) (d : PoA w B p g h kd ll m L)
    (hN : ∀ W W2 k, Below w.heap.size w W → Below W.heap.size W W2 → W.heap.size ≤ k → (∃ o : Obj, W2.heap[k]? = some o ∧ o.isCells = true) → Fr W2 k) :
    SeqStopsK Fence.wide n Tryz.prog 109 #[.pointer (some ⟨Bp, 0, none⟩)] (fun x : Nd => #[.int .i64 (wrap64 x.1), .int .i64 (wrap64 x.2)]) (KpF Fr) (fun ys => ys = L) (fun pre => pre <+: L) L.length w := fun l J Jx W hW hJ hJx hY h0 =>
  each1_in n l Bp p B g h hm Fr FR J Jx hY (fun pre A C hj hb => hJ pre A C none hj (below_none hb) (fun r e => by cases e)) W ((hW.cell (p := ⟨Bp, 0, none⟩) hlt).trans hBp) (d.below hW) (fun W2 k => hN W W2 k hW) h0
theorem each_stops_nil (n Bp : Nat) (w : World) (Kp : World → World → Prop) (hBp : w.cell? ⟨Bp, 0, none⟩ = some (.pointer none)) (hlt : Bp < w.heap.size) :
    SeqStopsK Fence.wide n Tryz.prog 109 #[.pointer (some ⟨Bp, 0, none⟩)] (fun x : Nd => #[.int .i64 (wrap64 x.1), .int .i64 (wrap64 x.2)]) Kp (fun ys => ys = []) (fun pre => pre <+: ([] : List Nd)) 0 w := fun l J Jx W hW hJ hJx hY h0 =>
  (each1_nil_in n l Bp J W ((hW.cell (p := ⟨Bp, 0, none⟩) hlt).trans hBp) h0).mono fun e W' ⟨a, b⟩ => ⟨a, .inl ⟨_, rfl, b⟩⟩

end Go.Proofs.YtfilmblpikcpnaaGreat
