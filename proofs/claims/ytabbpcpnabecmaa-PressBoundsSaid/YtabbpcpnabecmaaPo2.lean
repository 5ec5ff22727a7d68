/- The project's package pool: Clone, Same and Load of pools that lie in memory; which pools there are, by the document. -/
import Derived.Test.YtabbpcpnabecmaaPo
import Derived.Test.YtabbpcpnabecmaaRo
import Derived.Test.YtabbpcpnabecmaaDsLaw
namespace Go.Proofs.Ytabbpcpnabecmaa
set_option linter.unusedVariables false
set_option maxRecDepth 100000
open Go.RowKit

theorem sumC_take {L : List Nd} (h : NonNeg L) (k : Nat) : sumC (L.take k) ≤ sumC L := by
  have e := sumC_app (L.take k) (L.drop k)
  rw [List.take_append_drop] at e
  have := sumC_nonneg (L := L.drop k) (fun n hn => h n (List.mem_of_mem_drop hn))
  omega
theorem roll_take {l : Int} {L : List Nd} (h : RollC l L) (k : Nat) : RollC l (L.take k) :=
  ⟨h.1, h.2.1.sublist (List.take_sublist k L), fun n hn => h.2.2.1 n (List.mem_of_mem_take hn), fun n hn => h.2.2.2.1 n (List.mem_of_mem_take hn), by have := sumC_take h.2.2.2.1 k; have := h.2.2.2.2; omega⟩
/-- a roll is added node by node -/
theorem add_take {l : Int} {L : List Nd} (h : RollC l L) {k : Nat} (hk : k < L.length) :
    addS l (L.take k) (L.getD k nz).1 (L.getD k nz).2 = L.take (k + 1) ∧ addE l (L.take k) (L.getD k nz).1 (L.getD k nz).2 = 0 := by
  have hm := h.2.2.1 _ (nd_mem hk)
  have e := nd_take hk
  have hs := sumC_app (L.take k) [L.getD k nz]
  rw [← e] at hs
  have s1 : sumC [L.getD k nz] = (L.getD k nz).2 := by simp [sumC]
  have hr := roll_take h (k + 1)
  have hq := hr.2.2.2.2
  have ok := add_ok (l := l) (L := L.take k) hm.1 (show ¬ (L.getD k nz).2 < 0 by omega) (by omega)
  refine ⟨?_, ok.1⟩
  rw [ok.2]
  refine good_uniq _ _ (addW_good (roll_good (roll_take h k)) (by omega)) (roll_good hr) fun id => ?_
  rw [addW_sum, e, sumAt_app]
  simp [sumAt]
theorem poIs_any (kd l : Int) (w : World) : Calls Try.prog 19 #[.int .i64 kd, .int .i64 l] w fun e w' => e = .returned (.bool (isP kd l)) ∧ w = w' := by
  by_cases h : isP kd l = true
  · have H := Lib.hid h
    rcases of_decide_eq_true h with ⟨rfl, h1, h2⟩ | ⟨rfl, h1, h2⟩
    all_goals
      clear h
      go_enter Try.func19, Try.ntmps19
      go_wp2_with fail
      go_ret
      exact ⟨ret_b (by rw [H.out] <;> first | rfl | exact decide_eq_false (by omega) | exact decide_eq_true (by omega)), rfl⟩
  · have H := Lib.hid (Bool.eq_false_iff.2 h)
    have h0 : ¬ ((kd = 1 ∧ 1 ≤ l ∧ l ≤ 16) ∨ (kd = 2 ∧ 1 ≤ l ∧ l ≤ 48)) := of_decide_eq_false H.out
    clear h
    by_cases h1 : kd = 1
    · subst h1
      rcases (show l < 1 ∨ (1 ≤ l ∧ 16 < l) by omega) with q | ⟨q1, q2⟩
      all_goals
        clear h0
        go_enter Try.func19, Try.ntmps19
        go_wp2_with fail
        go_ret
        exact ⟨ret_b (by rw [H.out] <;> first | rfl | exact decide_eq_false (by omega) | exact decide_eq_true (by omega)), rfl⟩
    · have h1' : (kd == 1) = false := by simpa using h1
      by_cases h2 : kd = 2
      · subst h2
        rcases (show l < 1 ∨ (1 ≤ l ∧ 48 < l) by omega) with q | ⟨q1, q2⟩
        all_goals
          clear h0 h1
          go_enter Try.func19, Try.ntmps19
          go_wp2_with fail
          go_ret
          exact ⟨ret_b (by rw [H.out] <;> first | rfl | exact decide_eq_false (by omega) | exact decide_eq_true (by omega)), rfl⟩
      · have h2' : (kd == 2) = false := by simpa using h2
        clear h0 h1 h2
        go_enter Try.func19, Try.ntmps19
        go_wp2_with fail
        go_ret
        exact ⟨ret_b (by rw [H.out] <;> first | rfl | exact decide_eq_false (by omega) | exact decide_eq_true (by omega)), rfl⟩
/-- what Load leaves -/
def LoadPost (kd l : Int) (L : List Nd) (w : World) (e : Ending) (w' : World) : Prop := Below w.heap.size w w' ∧
  ((isP kd l = false ∧ e = .returned (.tuple #[.pointer none, .int .i64 2])) ∨ (isP kd l = true ∧ rollB l L = false ∧ e = .returned (.tuple #[.pointer none, .int .i64 10])) ∨
   (isP kd l = true ∧ rollB l L = true ∧ ∃ p g h, e = .returned (.tuple #[.pointer (some ⟨p, 0, none⟩), .int .i64 0]) ∧ PoA w' w.heap.size p g h kd l L.length L))
set_option maxHeartbeats 3200000 in
theorem poLoad_any (kd l : Int) (A : Option Addr) (m c : Nat) (L : List Nd) (w : World) (hv : NodesAt w (.slice A m c) L) (hB : NBds L) (hm : m ≤ 1000) (L0 : -9223372036854775808 ≤ l) (L1 : l ≤ 9223372036854775807) :
    Calls Try.prog 20 #[.int .i64 kd, .int .i64 l, .slice A m c] w (LoadPost kd l L w) := by
  obtain ⟨hlen, hlc, hcm, hat⟩ := nodes_cells hv
  have HL := Lib.hid hlen
  have HA := Lib.hid hat
  have HV := Lib.hid hv
  have HBB : Hid (NBds L) := hB
  clear hlen hat hv hB hlc hcm
  cases hi : isP kd l
  · have H := Lib.hid hi
    clear hi
    go_enter Try.func20, Try.ntmps20
    go_wp2_with (go_at_call 42; refine (poNew_no kd l _ H.out).mono ?_; rintro e w1 ⟨rfl, hb1⟩)
    go_ret2
    exact ⟨hb1, .inl ⟨H.out, rfl⟩⟩
  · have H := Lib.hid hi
    clear hi
    cases hr : rollB l L
    · have HR := Lib.hid hr
      clear hr
      go_enter Try.func20, Try.ntmps20
      go_wp2_with fail
      refine (poNew_any kd l _ H.out).mono ?_
      rintro e w1 ⟨p, g, h, rfl, hd, hb1⟩
      have RR := Lib.hid (rollRight_any l A m c L w1 (HV.out.below hb1) HBB.out (by omega) L0 L1)
      have HB1 := Lib.hid hb1
      unfold RightPost at RR
      rw [HR.out] at RR
      clear hd hb1
      go_wp2_with (go_at_call 43; refine RR.out.mono ?_; rintro e w2 ⟨rfl, hb2⟩)
      go_ret2
      exact ⟨HB1.out.trans (hb2.mono HB1.out.size), .inr (.inl ⟨H.out, HR.out, rfl⟩)⟩
    · have HR := Lib.hid hr
      have RC := Lib.hid (roll_iff.1 hr)
      clear hr
      go_enter Try.func20, Try.ntmps20
      go_wp2_with fail
      refine (poNew_any kd l _ H.out).mono ?_
      rintro e w1 ⟨p, g, h, rfl, hd, hb1⟩
      have RR := Lib.hid (rollRight_any l A m c L w1 (HV.out.below hb1) HBB.out (by omega) L0 L1)
      have HD := Lib.hid hd
      have HB1 := Lib.hid hb1
      unfold RightPost at RR
      rw [HR.out] at RR
      clear hd hb1
      go_wp2_with (go_at_call 43; refine RR.out.mono ?_; rintro e w2 ⟨rfl, hb2⟩)
      have HD2 := Lib.hid (HD.out.below hb2)
      have HB2 := Lib.hid (HB1.out.trans (hb2.mono HB1.out.size))
      clear hb2
      go_loopw [27] (fun i wr => ∃ (k h : Nat), k ≤ m ∧ i = .int .i64 k ∧ PoA wr w.heap.size p g h kd l k (L.take k) ∧ Below w.heap.size w wr) (fun i _ => m - (intOf i).toNat)
      case atStart => exact ⟨0, h, by omega, rfl, HD2.out, HB2.out⟩
      case round =>
        rename_i wr
        obtain ⟨k, h, hk, rfl, hd, hb⟩ := hrel
        have PD := Lib.hid hd
        have BB := Lib.hid hb
        have hzr := hb.size
        by_cases hlt : k < m
        · have hkl : k < L.length := by have := HL.out; omega
          obtain ⟨bq, o, rfl, hin⟩ := HA.out (by have := HL.out; omega)
          obtain ⟨e0, e1⟩ := (hin.below hb hin.1).2 k hkl
          have hbl := hin.1
          have hbd := HBB.out _ (nd_mem hkl)
          obtain ⟨⟨b0, b1⟩, b2, b3⟩ := hbd
          have AT := Lib.hid (add_take RC.out hkl)
          obtain ⟨x, hx⟩ : ∃ x, x = L.getD k nz := ⟨_, rfl⟩
          rw [← hx] at e0 e1 b0 b1 b2 b3 AT
          obtain ⟨id, cc⟩ := x
          simp only at e0 e1 b0 b1 b2 b3 AT
          have HBA : Hid (Below wr.heap.size wr (wr.alloc (.cells #[.int .i64 id, .int .i64 cc] 46))) := (Below.refl _ _).alloc (Nat.le_refl _) _
          have PA := Lib.hid (PD.out.below HBA.out)
          clear hin hb hd hx
          go_wp2_with fail
          refine (poAdd_any id cc _ PA.out (by omega) b0 b1 b2 b3).mono ?_
          rw [AT.out.1, AT.out.2]
          rintro e w3 ⟨rfl, h2, hd3, hc3, _⟩
          have HD3 := Lib.hid hd3
          have BW3 : Hid (Below w.heap.size w w3) := (BB.out.trans (HBA.out.mono hzr)).trans (hc3.below PD.out.lt.2.1 PD.out.lt.2.2.2.1 (by simp; omega))
          clear hd3 hc3 e0 e1
          go_wp2_with fail
          go_roundw
          case rel => exact ⟨k + 1, h2, by omega, by go_num, HD3.out, BW3.out⟩
          case measure => simp [intOf]; omega
        · have hkm : k = L.length := by have := HL.out; omega
          have PE : Hid (PoA wr w.heap.size p g h kd l L.length L) := by
            have q := PD.out
            rw [hkm, List.take_of_length_le (Nat.le_refl _)] at q
            exact q
          clear hkm hd hb
          go_wp2_with fail
          go_ret2
          exact ⟨BB.out, .inr (.inr ⟨H.out, HR.out, p, g, h, rfl, PE.out⟩)⟩

end Go.Proofs.Ytabbpcpnabecmaa
