/- The project's package bag: where a value belongs, what items weigh; Rank, Between, Kth, Ends, Items. -/
import Derived.Test.YtfleaaokbjgljaaBg
import Derived.Test.YtfleaaokbjgljaaHeld
import Derived.Test.YtfleaaokbjgljaaCopy
namespace Go.Proofs.Ytfleaaokbjgljaa
set_option linter.unusedVariables false
set_option maxRecDepth 100000
open Go.RowKit
attribute [local go_sem ↓] Go.wp_at_zero Go.wp_at_succ

theorem nodes_take {w : World} {A : Option Addr} {n c k : Nat} {L : List Nd} (h : NodesAt w (.slice A n c) L) (hk : k ≤ n) : NodesAt w (.slice A k c) (L.take k) := by
  obtain ⟨h1, h2, h3, h4⟩ := nodes_cells h
  refine ⟨A, c, by rw [List.length_take]; congr 1; omega, by rw [List.length_take]; omega, h3, fun e => ?_, NdAt.take h4⟩
  subst e
  exact (nodes_none h).2.1
def advO : Option Addr → Nat → Nat → Nat → Option Addr
  | none, _, _, _ => none
  | some a, c, k, s => some (advA a c k s)
theorem nodes_mid {w : World} {A : Option Addr} {n c j k : Nat} {L : List Nd} (h : NodesAt w (.slice A n c) L) (hj : j ≤ k) (hk : k ≤ n) : NodesAt w (.slice (advO A c j 2) (k - j) (c - j)) ((L.take k).drop j) := by
  obtain ⟨h1, h2, h3, h4⟩ := nodes_cells h
  refine ⟨_, _, by rw [List.length_drop, List.length_take]; congr 1; omega, by rw [List.length_drop, List.length_take]; omega, by omega, fun e => ?_, ?_⟩
  · cases A with
    | none => have := (nodes_none h).2.1; omega
    | some a => simp [advO] at e
  · cases A with
    | none =>
      have := (nodes_none h).1
      intro h0
      rw [List.length_drop, List.length_take] at h0; omega
    | some a => exact NdAt.adv (NdAt.take h4) (by rw [List.length_take]; omega)
section
variable {P : Program}
theorem sl_mid {t e : TypeId} {i : TypeInfo} (ht : P.underlying t = some (.slice e)) (hi : P.info? e = some i) {s : Nat} (hs : i.size = s) (A : Option Addr) (n c j k : Nat) (hj : j ≤ k) (hk : k ≤ c) (w : World) :
    (Instr.slice t (.slice A n c) (some (.int .i64 (j : Int))) (some (.int .i64 (k : Int))) none).run P w = .ok (.slice (advO A c j s) (k - j) (c - j)) w := by
  have he : P.elem t = e := by unfold Program.elem; rw [ht]
  have ht' : P.underlying t = some (.slice (P.elem t)) := by rw [he]; exact ht
  rw [run_slice_lh w t A n c ht' .i64 .i64 (j : Int) (k : Int) (by omega) (by omega) (by omega), he]
  have hz : (sizeOf e).run P w = .ok s w := by
    have hc : P.cellsOf e = s := by simp [Program.cellsOf, hi, hs]
    simp [run_sizeOf, hi, hc]
  rw [hz]
  simp only [Result.andThen_ok, sliced, Int.toNat_natCast]
  cases A with
  | none => simp [advO]
  | some a =>
    simp only [advO, advA, Option.map]
    split <;> rfl
end
theorem below1_any (Nb Nx g i : Nat) (x : Int) {A : Option Addr} {n c : Nat} {L : List Nd} (w : World) (h : NodesAt w (.slice A n c) L) (hg : Good L) (hi : i < n) (e0 : w.cell? ⟨Nb, 0, none⟩ = some (.pointer (some ⟨g, 0, none⟩))) (e1 : w.cell? ⟨Nx, 0, none⟩ = some (.int .i64 x))
    (e2 : w.cell? ⟨g, 2, none⟩ = some (.slice A n c)) :
    Calls Try.prog 51 #[.int .i64 (i : Int), .pointer (some ⟨Nb, 0, none⟩), .pointer (some ⟨Nx, 0, none⟩)] w fun e w' => e = .returned (.bool (decide (ltN L x ≤ i))) ∧ ∃ q, w' = w.drewN q := by
  have hl := (nodes_cells h).1
  obtain ⟨b, o, rfl, hin⟩ := (nodes_cells h).2.2.2 (by omega)
  have hk : i < L.length := by omega
  obtain ⟨f0, f1⟩ := hin.2 i hk
  rw [← lt_at hg x hk]
  have hi0 : (0 : Int) ≤ (i : Int) := Int.natCast_nonneg _
  have hi1 : (i : Int) < (n : Int) := by omega
  clear h hl hin hg hk
  generalize L.getD i nz = r at *
  obtain ⟨r1, r2⟩ := r
  simp only at f0 f1
  go_enter Try.func51, Try.ntmps51
  go_wp2_with fail
  go_quiet (fail)
  go_wp2_with fail
  go_ret
  exact ⟨rfl, _, rfl⟩
theorem upTo1_any (Nb Nx g i : Nat) (x : Int) {A : Option Addr} {n c : Nat} {L : List Nd} (w : World) (h : NodesAt w (.slice A n c) L) (hg : Good L) (hi : i < n) (e0 : w.cell? ⟨Nb, 0, none⟩ = some (.pointer (some ⟨g, 0, none⟩))) (e1 : w.cell? ⟨Nx, 0, none⟩ = some (.int .i64 x))
    (e2 : w.cell? ⟨g, 2, none⟩ = some (.slice A n c)) :
    Calls Try.prog 52 #[.int .i64 (i : Int), .pointer (some ⟨Nb, 0, none⟩), .pointer (some ⟨Nx, 0, none⟩)] w fun e w' => e = .returned (.bool (decide (leN L x ≤ i))) ∧ ∃ q, w' = w.drewN q := by
  have hl := (nodes_cells h).1
  obtain ⟨b, o, rfl, hin⟩ := (nodes_cells h).2.2.2 (by omega)
  have hk : i < L.length := by omega
  obtain ⟨f0, f1⟩ := hin.2 i hk
  rw [← le_at hg x hk]
  have hi0 : (0 : Int) ≤ (i : Int) := Int.natCast_nonneg _
  have hi1 : (i : Int) < (n : Int) := by omega
  clear h hl hin hg hk
  generalize L.getD i nz = r at *
  obtain ⟨r1, r2⟩ := r
  simp only at f0 f1
  go_enter Try.func52, Try.ntmps52
  go_wp2_with fail
  go_quiet (fail)
  go_wp2_with fail
  go_ret
  exact ⟨rfl, _, rfl⟩
theorem bgBelow_core {g : Nat} {L : List Nd} {A : Option Addr} {n c : Nat} (x : Int) (w : World) (hN : NodesAt w (.slice A n c) L) (hG : Good L) (c2 : w.cell? ⟨g, 2, none⟩ = some (.slice A n c)) (hg : g < w.heap.size) (hn : n ≤ 1000000) :
    Calls Try.prog 40 #[.pointer (some ⟨g, 0, none⟩), .int .i64 x] w fun e w' => e = .returned (.int .i64 (ltN L x : Int)) ∧ Below w.heap.size w w' := by
  have hb0 : Below w.heap.size w ((w.alloc (.cells #[.pointer (some ⟨g, 0, none⟩)] 24)).alloc (.cells #[.int .i64 x] 3)) := ((Below.refl _ _).alloc (Nat.le_refl _) _).alloc (by simp) _
  have D2 := Lib.hid (hN.below hb0)
  have HG := Lib.hid hG
  have HB := Lib.hid hb0
  have hm := (nodes_cells hN).1
  have hlt : ltN L x ≤ n := by have := lt_le L x; omega
  have c2' := (hb0.cell (p := ⟨g, 2, none⟩) hg).trans c2
  clear hN hG hb0 hm
  have S := Lib.hid (search_any 51 #[.pointer (some ⟨w.heap.size, 0, none⟩), .pointer (some ⟨w.heap.size + 1, 0, none⟩)] n (ltN L x) hlt hn ((w.alloc (.cells #[.pointer (some ⟨g, 0, none⟩)] 24)).alloc (.cells #[.int .i64 x] 3))
    (fun _ _ => by kernel_rfl) fun m k hk => by
      have hw : Below ((w.alloc (.cells #[.pointer (some ⟨g, 0, none⟩)] 24)).alloc (.cells #[.int .i64 x] 3)).heap.size ((w.alloc (.cells #[.pointer (some ⟨g, 0, none⟩)] 24)).alloc (.cells #[.int .i64 x] 3)) (((w.alloc (.cells #[.pointer (some ⟨g, 0, none⟩)] 24)).alloc (.cells #[.int .i64 x] 3)).drewN m) := drewN_below (Below.refl _ _) m
      refine (below1_any w.heap.size (w.heap.size + 1) g k x _ (D2.out.below hw) HG.out hk ?_ ?_ ?_).mono fun e w' ⟨e1, q, e2⟩ => ⟨e1, m + q, ?_⟩
      · exact (hw.cell (p := ⟨w.heap.size, 0, none⟩) (by simp; omega)).trans (by simp)
      · exact (hw.cell (p := ⟨w.heap.size + 1, 0, none⟩) (by simp)).trans (by simp)
      · exact (hw.cell (p := ⟨g, 2, none⟩) (by simp; omega)).trans c2'
      · rw [e2]; exact World.drewN_drewN _ _ _)
  clear c2'
  go_enter Try.func40, Try.ntmps40
  go_wp2_with (go_at_call 50; refine S.out.mono ?_; rintro e w1 ⟨rfl, q, rfl⟩)
  go_ret
  exact ⟨rfl, drewN_below HB.out q⟩
theorem bgBelow_any {B g : Nat} {l : Int} {L : List Nd} {A : Option Addr} {n c : Nat} (x : Int) (w : World) (d : BgA w B g l L (.slice A n c)) (hn : n ≤ 1000000) :
    Calls Try.prog 40 #[.pointer (some ⟨g, 0, none⟩), .int .i64 x] w fun e w' => e = .returned (.int .i64 (ltN L x : Int)) ∧ Below w.heap.size w w' :=
  bgBelow_core x w d.nodes d.bag.good d.cells.2.2 d.lt.2.1 hn
theorem bgUpTo_core {g : Nat} {L : List Nd} {A : Option Addr} {n c : Nat} (x : Int) (w : World) (hN : NodesAt w (.slice A n c) L) (hG : Good L) (c2 : w.cell? ⟨g, 2, none⟩ = some (.slice A n c)) (hg : g < w.heap.size) (hn : n ≤ 1000000) :
    Calls Try.prog 44 #[.pointer (some ⟨g, 0, none⟩), .int .i64 x] w fun e w' => e = .returned (.int .i64 (leN L x : Int)) ∧ Below w.heap.size w w' := by
  have hb0 : Below w.heap.size w ((w.alloc (.cells #[.pointer (some ⟨g, 0, none⟩)] 24)).alloc (.cells #[.int .i64 x] 3)) := ((Below.refl _ _).alloc (Nat.le_refl _) _).alloc (by simp) _
  have D2 := Lib.hid (hN.below hb0)
  have HG := Lib.hid hG
  have HB := Lib.hid hb0
  have hm := (nodes_cells hN).1
  have hlt : leN L x ≤ n := by have := le_le L x; omega
  have c2' := (hb0.cell (p := ⟨g, 2, none⟩) hg).trans c2
  clear hN hG hb0 hm
  have S := Lib.hid (search_any 52 #[.pointer (some ⟨w.heap.size, 0, none⟩), .pointer (some ⟨w.heap.size + 1, 0, none⟩)] n (leN L x) hlt hn ((w.alloc (.cells #[.pointer (some ⟨g, 0, none⟩)] 24)).alloc (.cells #[.int .i64 x] 3))
    (fun _ _ => by kernel_rfl) fun m k hk => by
      have hw : Below ((w.alloc (.cells #[.pointer (some ⟨g, 0, none⟩)] 24)).alloc (.cells #[.int .i64 x] 3)).heap.size ((w.alloc (.cells #[.pointer (some ⟨g, 0, none⟩)] 24)).alloc (.cells #[.int .i64 x] 3)) (((w.alloc (.cells #[.pointer (some ⟨g, 0, none⟩)] 24)).alloc (.cells #[.int .i64 x] 3)).drewN m) := drewN_below (Below.refl _ _) m
      refine (upTo1_any w.heap.size (w.heap.size + 1) g k x _ (D2.out.below hw) HG.out hk ?_ ?_ ?_).mono fun e w' ⟨e1, q, e2⟩ => ⟨e1, m + q, ?_⟩
      · exact (hw.cell (p := ⟨w.heap.size, 0, none⟩) (by simp; omega)).trans (by simp)
      · exact (hw.cell (p := ⟨w.heap.size + 1, 0, none⟩) (by simp)).trans (by simp)
      · exact (hw.cell (p := ⟨g, 2, none⟩) (by simp; omega)).trans c2'
      · rw [e2]; exact World.drewN_drewN _ _ _)
  clear c2'
  go_enter Try.func44, Try.ntmps44
  go_wp2_with (go_at_call 50; refine S.out.mono ?_; rintro e w1 ⟨rfl, q, rfl⟩)
  go_ret
  exact ⟨rfl, drewN_below HB.out q⟩
theorem bgUpTo_any {B g : Nat} {l : Int} {L : List Nd} {A : Option Addr} {n c : Nat} (x : Int) (w : World) (d : BgA w B g l L (.slice A n c)) (hn : n ≤ 1000000) :
    Calls Try.prog 44 #[.pointer (some ⟨g, 0, none⟩), .int .i64 x] w fun e w' => e = .returned (.int .i64 (leN L x : Int)) ∧ Below w.heap.size w w' :=
  bgUpTo_core x w d.nodes d.bag.good d.cells.2.2 d.lt.2.1 hn

set_option maxHeartbeats 1600000 in
theorem weigh_any (A : Option Addr) (n c : Nat) (L : List Nd) (w : World) (h : NodesAt w (.slice A n c) L) (hN : NonNeg L) (hT : sumC L ≤ 72057594037927935) (hn : n ≤ 1000000) :
    Calls Try.prog 43 #[.slice A n c] w fun e w' => e = .returned (.int .i64 (sumC L)) ∧ Below w.heap.size w w' := by
  obtain ⟨hlen, hlc, hcm, hat⟩ := nodes_cells h
  have HL := Lib.hid hlen
  have HA := Lib.hid hat
  have HN := Lib.hid hN
  have HT := Lib.hid hT
  clear hlen hat h hlc hcm hN hT
  go_enter Try.func43, Try.ntmps43
  go_wp2_with fail
  go_loopw [3, 8] (fun t i wr => ∃ k : Nat, k ≤ n ∧ i = .int .i64 k ∧ t = .int .i64 (sumC (L.take k)) ∧ Below w.heap.size w wr) (fun _ i _ => n - (intOf i).toNat)
  case atStart => exact ⟨0, by omega, rfl, rfl, Below.refl ..⟩
  case round =>
    rename_i wr
    obtain ⟨k, hk, rfl, rfl, hb⟩ := hrel
    have t0 : 0 ≤ sumC (L.take k) := sumC_nonneg fun m hm => HN.out m (List.mem_of_mem_take hm)
    have t1 : sumC (L.take k) ≤ 72057594037927935 := by have := sum_take_le HN.out k; have := HT.out; omega
    by_cases hlt : k < n
    · have hk2 : k < L.length := by have := HL.out; omega
      obtain ⟨b, o, rfl, hin⟩ := HA.out (by omega)
      obtain ⟨e0, e1⟩ := (hin.below hb hin.1).2 k hk2
      have hst := Lib.hid (sum_take_step hk2)
      have h0 := HN.out _ (nd_mem hk2)
      have h1 : (L.getD k nz).2 ≤ 72057594037927935 := by have := sumC_mem HN.out (nd_mem hk2); have := HT.out; omega
      have hbl := hin.1
      have hsz := hb.size
      clear hin
      generalize L.getD k nz = r at *
      obtain ⟨id, x⟩ := r
      simp only at e0 e1 h0 h1
      generalize hT2 : sumC (L.take k) = T at *
      have HT2 := Lib.hid hT2
      clear hT2
      go_wp2_with fail
      go_roundw
      case rel => exact ⟨k + 1, by omega, by go_num, by rw [hst.out], hb.alloc hb.size _⟩
      case measure => simp [intOf]; omega
    · have hd : Hid (L.take k = L) := List.take_of_length_le (by have := HL.out; omega)
      go_wp2_with fail
      go_ret
      exact ⟨ret_n (by rw [hd]), hb⟩

end Go.Proofs.Ytfleaaokbjgljaa
