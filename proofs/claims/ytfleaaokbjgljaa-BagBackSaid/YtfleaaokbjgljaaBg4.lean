/- The project's package bag: Items, Kth. -/
import Derived.Test.YtfleaaokbjgljaaBg3
import Derived.Test.YtfleaaokbjgljaaCopy2
namespace Go.Proofs.Ytfleaaokbjgljaa
set_option linter.unusedVariables false
set_option maxRecDepth 100000
open Go.RowKit
attribute [local go_sem ↓] Go.wp_at_zero Go.wp_at_succ

theorem make_full {P : Program} {t e : TypeId} {i : TypeInfo} {z : Value} (ht : P.underlying t = some (.slice e)) (hi : P.info? e = some i) (hz : i.zero = some z) {size bytes : Nat} (hs : i.size = size) (hb : i.bytes = bytes)
    (n k : Nat) (hk : n * size = k) (hbytes : bytes * n ≤ 281474976710656) (h63 : n ≤ 9223372036854775807) (w : World) :
    (Instr.makeSlice t (.int .i64 (n : Int)) (.int .i64 (n : Int))).run P w = .ok (.slice (some ⟨w.heap.size, 0, none⟩) n n) (w.alloc (.cells (blank z k) e)) := by
  subst hk
  have hbi : (i.bytes : Int) * (n : Int) ≤ 281474976710656 := by
    have h : ((bytes * n : Nat) : Int) ≤ 281474976710656 := by omega
    rw [hb]; rwa [Int.natCast_mul] at h
  have h := run_make (P := P) w t e i z ht hi hz .i64 .i64 n n (by omega) (Int.le_refl _) hbi (by omega)
  simp only [Int.toNat_natCast, hs] at h
  exact h
theorem own_of_heap {w : World} {B h N : Nat} {TN : TypeId} {ys : List Value} (hb : B ≤ h) (hN : N ≤ maxLen) (hl : ys.length = N * 2) (hg : w.heap[h]? = some (.cells ys.toArray TN (0, 0))) : w.ownsRow B TN 2 (.slice (some ⟨h, 0, none⟩) N N) N ys :=
  ⟨hl, .inr ⟨h, N, ys.toArray, rfl, hb, hg, Nat.le_refl _, hN, by simp; omega, by simp [← hl]⟩⟩
set_option maxHeartbeats 1600000 in
theorem bgItems_any {B g : Nat} {l : Int} {L : List Nd} {v : Value} (w : World) (d : BgA w B g l L v) (hn : L.length ≤ 1000000) :
    Calls Try.prog 33 #[.pointer (some ⟨g, 0, none⟩)] w (RdOwn L w) := by
  obtain ⟨A, n, c, rfl⟩ := ownNd_slice d.row
  obtain ⟨i0, hi, hz0, hz1, hz2⟩ := info_parts read_info
  have hm := (nodes_cells d.nodes).1
  have hmk := make_full (P := Try.prog) Try.underlying22 hi hz0 hz1 hz2 n (n * 2) rfl (by omega) (by omega)
  have c2 := d.cells.2.2
  have hb0 : Below w.heap.size w (w.alloc (.cells (blank (.agg #[.int .i64 0, .int .i64 0]) (n * 2)) 31)) := (Below.refl _ _).alloc (Nat.le_refl _) _
  have hg := d.lt.2.1
  have c2' := (hb0.cell (p := ⟨g, 2, none⟩) hg).trans c2
  have HB := Lib.hid hb0
  have hsz : (Try.prog.info? 31).map (·.size) = some 2 := by kernel_rfl
  have NA := Lib.hid d.nodes
  rcases Nat.eq_zero_or_pos n with h0 | h0
  · have hL : L = [] := List.eq_nil_of_length_eq_zero (by omega)
    have HL := Lib.hid hL
    subst h0
    have hmk0 : ∀ w, (Instr.makeSlice 22 (.int .i64 0) (.int .i64 0)).run Try.prog w = .ok (.slice (some ⟨w.heap.size, 0, none⟩) 0 0) (w.alloc (.cells (blank (.agg #[.int .i64 0, .int .i64 0]) (0 * 2)) 31)) := hmk
    have hcz := fun w' => run_copy_zero Try.prog w' 22 22 3 31 (some ⟨w.heap.size, 0, none⟩) A 0 0 0 c 2 Try.underlying22 hsz rfl
    clear hm hb0 d hL hmk
    go_enter Try.func33, Try.ntmps33
    go_wp2_with fail
    go_ret
    refine ⟨_, rfl, ?_, HB.out⟩
    rw [HL.out]
    exact World.ownsRow_made w _ 0 (Nat.le_refl _) (Nat.zero_le _) (blank_size _ _)
  · obtain ⟨b, o, rfl, hin⟩ := (nodes_cells d.nodes).2.2.2 (by omega)
    have hbl := hin.1
    have RC : Hid (∀ j v, (nods L)[j]? = some v → (w.alloc (.cells (blank (.agg #[.int .i64 0, .int .i64 0]) (n * 2)) 31)).cell? ((⟨b, o, none⟩ : Addr).add j) = some v) := (hin.below hb0 hbl).news
    have LI : Hid ((nods L).length = n * 2) := by show _ = _; rw [nods_len, hm]
    have LF : Hid ((nods L).length = (blank (.agg #[.int .i64 0, .int .i64 0]) (n * 2)).toList.length) := by show _ = _; rw [LI.out, Array.length_toList, blank_size]
    have L1C : Hid (∀ v ∈ nods L, v.oneCell' = true) := nods_one L
    have HM := Lib.hid hm
    have kh : Hid ((w.alloc (.cells (blank (.agg #[.int .i64 0, .int .i64 0]) (n * 2)) 31)).heap[w.heap.size]? = some (.cells (blank (.agg #[.int .i64 0, .int .i64 0]) (n * 2)).toList.toArray 31 (0, 0))) := by
      show _ = _
      rw [heap_alloc_new, Array.toArray_toList]
    have hn1 : n ≤ 1000000 := by omega
    have hcp := run_copy_all Try.prog (w.alloc (.cells (blank (.agg #[.int .i64 0, .int .i64 0]) (n * 2)) 31)) 22 22 3 31 w.heap.size n c 2 ⟨b, o, none⟩ _ 31 (nods L) Try.underlying22 hsz kh.out LI.out RC.out (by have := LF.out; simpa using this) L1C.out
    clear hm hb0 d hin
    go_enter Try.func33, Try.ntmps33
    go_wp2_with fail
    go_ret
    refine ⟨_, rfl, ?_, below_setRow HB.out (Nat.le_refl _) _⟩
    have hg4 := Lib.hid (setRow_heap (w.alloc (.cells (blank (.agg #[.int .i64 0, .int .i64 0]) (n * 2)) 31)) w.heap.size _ (nods L).toArray _ _ kh.out)
    have q := own_of_heap (TN := 31) (Nat.le_refl w.heap.size) (by unfold maxLen; omega) LI.out hg4.out
    unfold OwnNd
    rw [← HM.out]
    exact q
theorem bgKth_nil (x : Int) (w : World) : Calls Try.prog 15 #[.pointer none, .int .i64 x] w fun e w' => e = .returned (.tuple #[.int .i64 0, .int .i64 1]) ∧ w = w' := by
  go_enter Try.func15, Try.ntmps15
  go_wp2_with fail
  go_ret2
  exact ⟨rfl, rfl⟩
/-- what Kth tells -/
def kthE (L : List Nd) (r : Int) : Int := if L = [] then 7 else if r < 1 ∨ sumC L < r then 2 else 0
def kthV (L : List Nd) (r : Int) : Int := if kthE L r = 0 then kthN L r else 0
theorem kth_empty {L : List Nd} {r : Int} (h : L = []) : kthE L r = 7 ∧ kthV L r = 0 := by
  have e : kthE L r = 7 := if_pos h
  exact ⟨e, by unfold kthV; rw [e]; rfl⟩
theorem kth_arg {L : List Nd} {r : Int} (h : ¬ L = []) (q : r < 1 ∨ sumC L < r) : kthE L r = 2 ∧ kthV L r = 0 := by
  have e : kthE L r = 2 := by unfold kthE; rw [if_neg h, if_pos q]
  exact ⟨e, by unfold kthV; rw [e]; rfl⟩
theorem kth_ok {L : List Nd} {r : Int} (h : ¬ L = []) (q : ¬ (r < 1 ∨ sumC L < r)) : kthE L r = 0 ∧ kthV L r = kthN L r := by
  have e : kthE L r = 0 := by unfold kthE; rw [if_neg h, if_neg q]
  exact ⟨e, by unfold kthV; rw [e]; rfl⟩
theorem ret2_n {a b c d : Int} (h : a = b ∧ c = d) : Ending.returned (.tuple #[.int .i64 a, .int .i64 c]) = .returned (.tuple #[.int .i64 b, .int .i64 d]) := by rw [h.1, h.2]
set_option maxHeartbeats 1600000 in
theorem bgKth_any {B g : Nat} {l : Int} {L : List Nd} {v : Value} (r : Int) (w : World) (d : BgA w B g l L v) (hn : L.length ≤ 1000000) (R0 : -9223372036854775808 ≤ r) (R1 : r ≤ 9223372036854775807) :
    Calls Try.prog 15 #[.pointer (some ⟨g, 0, none⟩), .int .i64 r] w fun e w' => e = .returned (.tuple #[.int .i64 (kthV L r), .int .i64 (kthE L r)]) ∧ ∃ q, w' = w.drewN q := by
  obtain ⟨A, n, c, rfl⟩ := ownNd_slice d.row
  obtain ⟨hm, hc1, hc2, hat⟩ := nodes_cells d.nodes
  obtain ⟨c0, c1, c2⟩ := d.cells
  rcases Nat.eq_zero_or_pos n with h0 | h0
  · have H := Lib.hid (kth_empty (L := L) (r := r) (List.eq_nil_of_length_eq_zero (by omega)))
    subst h0
    clear hm hc1 hc2 hat d
    go_enter Try.func15, Try.ntmps15
    go_wp2_with fail
    go_ret2
    exact ⟨ret2_n ⟨H.out.2.symm, H.out.1.symm⟩, 0, rfl⟩
  · have hL : ¬ L = [] := fun e => by rw [e] at hm; simp at hm; omega
    have hne : ((n : Int) == 0) = false := by simp; omega
    by_cases q1 : r < 1
    · have H := Lib.hid (kth_arg hL (.inl q1))
      clear hm hc1 hc2 hat d
      go_enter Try.func15, Try.ntmps15
      go_wp2_with fail
      go_ret2
      exact ⟨ret2_n ⟨H.out.2.symm, H.out.1.symm⟩, 0, rfl⟩
    · by_cases q2 : sumC L < r
      · have H := Lib.hid (kth_arg hL (.inr q2))
        clear hm hc1 hc2 hat d
        go_enter Try.func15, Try.ntmps15
        go_wp2_with fail
        go_ret2
        exact ⟨ret2_n ⟨H.out.2.symm, H.out.1.symm⟩, 0, rfl⟩
      · have H := Lib.hid (kth_ok hL (show ¬ (r < 1 ∨ sumC L < r) by omega))
        obtain ⟨b, o, rfl, hin⟩ := hat (by omega)
        have HI := Lib.hid hin
        have HM := Lib.hid hm
        have NN := Lib.hid (good_nonneg d.bag.good)
        have TT := Lib.hid d.bag.tot
        have e0 := (hin.2 0 (by omega)).2
        rw [Nat.zero_mul, Nat.add_zero] at e0
        have HS := Lib.hid (show sumC (L.take 1) = (L.getD 0 nz).2 by rw [sum_take_step (L := L) (k := 0) (by omega)]; simp [sumC])
        have hn1 : n ≤ 1000000 := by omega
        have hn0 : (0 : Int) < (n : Int) := by omega
        generalize (L.getD 0 nz).2 = y0 at *
        clear hm hc1 hc2 hat d hin
        go_enter Try.func15, Try.ntmps15
        go_wp2_with fail
        go_quiet (fail)
        go_wp2_with fail
        go_loopw [6, 7] (fun i t wr => ∃ k q : Nat, k < n ∧ i = .int .i64 (k : Int) ∧ t = .int .i64 (sumC (L.take (k + 1))) ∧ sumC (L.take k) < r ∧ wr = w.drewN q) (fun i _ _ => n - (intOf i).toNat)
        case atStart => exact ⟨0, _, h0, rfl, by rw [HS.out], by simp [sumC]; omega, rfl⟩
        case round =>
          rename_i wr
          obtain ⟨k, q, hk, rfl, rfl, hlo, rfl⟩ := hrel
          have hk2 : k < L.length := by have := HM.out; omega
          have s0 : 0 ≤ sumC (L.take (k + 1)) := sumC_nonneg fun m hm => NN.out m (List.mem_of_mem_take hm)
          have s1 : sumC (L.take (k + 1)) ≤ sumC L := sum_take_le NN.out _
          have tt := TT.out
          by_cases qk : sumC (L.take (k + 1)) < r
          · have hk3 : k + 1 < L.length := by
              rcases Nat.lt_or_ge (k + 1) L.length with g | g
              · exact g
              · rw [List.take_of_length_le g] at qk; omega
            have hk4 : k + 1 < n := by have := HM.out; omega
            have e1 := (HI.out.2 (k + 1) hk3).2
            have hst := Lib.hid (sum_take_step hk3)
            have b0 := NN.out _ (nd_mem hk3)
            have b1 := sumC_mem NN.out (nd_mem hk3)
            have QK := Lib.hid qk
            have qk' : (sumC (L.take (k + 1)) < r) := qk
            have k3 : ((k + 1 : Nat) : Int) < (n : Int) := by omega
            have k2 : (k : Int) + 1 < (n : Int) := by omega
            have k5 : (0 : Int) ≤ (k : Int) + 1 := by omega
            generalize (L.getD (k + 1) nz).2 = y at *
            generalize hT : sumC (L.take (k + 1)) = T at *
            have HT := Lib.hid hT
            clear hT hlo hk3
            go_wp2_with fail
            go_roundw
            case rel => exact ⟨k + 1, _, hk4, by go_num, by rw [hst.out], by rw [HT.out]; exact QK.out, rfl⟩
            case measure => simp [intOf]; omega
          · have K := Lib.hid (kth_at L k r NN.out hk2 hlo (by omega))
            have e1 := (HI.out.2 k hk2).1
            have k3 : (k : Int) < (n : Int) := by omega
            have k5 : (0 : Int) ≤ (k : Int) := by omega
            generalize (L.getD k nz).1 = y at *
            generalize sumC (L.take (k + 1)) = T at *
            go_wp2_with fail
            go_ret2
            exact ⟨ret2_n ⟨by rw [H.out.2, K.out], H.out.1.symm⟩, _, rfl⟩

end Go.Proofs.Ytfleaaokbjgljaa
