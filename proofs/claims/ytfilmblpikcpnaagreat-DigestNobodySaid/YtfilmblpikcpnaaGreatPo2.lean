/- The project's package pool: Clone, Same and Load of pools that lie in memory; which pools there are, by the document. -/
import Derived.Test.YtfilmblpikcpnaaGreatPo
import Derived.Test.YtfilmblpikcpnaaGreatRo
import Derived.Test.YtfilmblpikcpnaaGreatDsLaw
namespace Go.Proofs.YtfilmblpikcpnaaGreat
set_option linter.unusedVariables false
set_option maxRecDepth 100000
open Go.RowKit

theorem sumC_take {L : List Nd} (h : NonNeg L) (k : Nat) : sumC (L.take k) ≤ sumC L := by
  have e := sumC_app (L.take k) (L.drop k)
  rw [List.take_append_drop] at e
  have := sumC_nonneg (L := L.drop k) (fun n hn => h n (List.mem_of_mem_drop hn))
  omega
theorem roll_take {l : Int} {L : List Nd} (h : RollC l L) (k : Nat) : RollC l (L.take k) :=
  ⟨h.1, h.2.1.sublist (List.take_sublist k L), fun n hn => h.2.2.1 n (List.mem_of_mem_take hn), fun n hn => h.2.2.2.1 n (List.mem_of_mem_take hn), by have := sumC_take h.2.2.2.1 k; have := h.2.2.2.2; omega⟩
/-- a roll is added node by node -/
theorem add_take {l : Int} {L : List Nd} (h : RollC l L) {k : Nat} (hk : k < L.length) :
    addS l (L.take k) (L.getD k nz).1 (L.getD k nz).2 = L.take (k + 1) ∧ addE l (L.take k) (L.getD k nz).1 (L.getD k nz).2 = 0 := by
  have hm := h.2.2.1 _ (nd_mem hk)
  have e := nd_take hk
  have hs := sumC_app (L.take k) [L.getD k nz]
  rw [← e] at hs
  have s1 : sumC [L.getD k nz] = (L.getD k nz).2 := by simp [sumC]
  have hr := roll_take h (k + 1)
  have hq := hr.2.2.2.2
  have ok := add_ok (l := l) (L := L.take k) hm.1 (show ¬ (L.getD k nz).2 < 0 by omega) (by omega)
  refine ⟨?_, ok.1⟩
  rw [ok.2]
  refine good_uniq _ _ (addW_good (roll_good (roll_take h k)) (by omega)) (roll_good hr) fun id => ?_
  rw [addW_sum, e, sumAt_app]
  simp [sumAt]
theorem poIs_any (kd l : Int) (w : World) : Calls Tryz.prog 40 #[.int .i64 kd, .int .i64 l] w fun e w' => e = .returned (.bool (isP kd l)) ∧ w = w' := by
  by_cases h : isP kd l = true
  · have H := Lib.hid h
    rcases of_decide_eq_true h with ⟨rfl, h1, h2⟩ | ⟨rfl, h1, h2⟩
    all_goals
      clear h
      go_enter Tryz.func40, Tryz.ntmps40
      go_wp2_with fail
      go_ret
      exact ⟨ret_b (by rw [H.out] <;> first | rfl | exact decide_eq_false (by omega) | exact decide_eq_true (by omega)), rfl⟩
  · have H := Lib.hid (Bool.eq_false_iff.2 h)
    have h0 : ¬ ((kd = 1 ∧ 1 ≤ l ∧ l ≤ 16) ∨ (kd = 2 ∧ 1 ≤ l ∧ l ≤ 48)) := of_decide_eq_false H.out
    clear h
    by_cases h1 : kd = 1
    · subst h1
      rcases (show l < 1 ∨ (1 ≤ l ∧ 16 < l) by omega) with q | ⟨q1, q2⟩
      all_goals
        clear h0
        go_enter Tryz.func40, Tryz.ntmps40
        go_wp2_with fail
        go_ret
        exact ⟨ret_b (by rw [H.out] <;> first | rfl | exact decide_eq_false (by omega) | exact decide_eq_true (by omega)), rfl⟩
    · have h1' : (kd == 1) = false := by simpa using h1
      by_cases h2 : kd = 2
      · subst h2
        rcases (show l < 1 ∨ (1 ≤ l ∧ 48 < l) by omega) with q | ⟨q1, q2⟩
        all_goals
          clear h0 h1
          go_enter Tryz.func40, Tryz.ntmps40
          go_wp2_with fail
          go_ret
          exact ⟨ret_b (by rw [H.out] <;> first | rfl | exact decide_eq_false (by omega) | exact decide_eq_true (by omega)), rfl⟩
      · have h2' : (kd == 2) = false := by simpa using h2
        clear h0 h1 h2
        go_enter Tryz.func40, Tryz.ntmps40
        go_wp2_with fail
        go_ret
        exact ⟨ret_b (by rw [H.out] <;> first | rfl | exact decide_eq_false (by omega) | exact decide_eq_true (by omega)), rfl⟩
set_option maxHeartbeats 3200000 in
theorem poClone_any {B p g h : Nat} {kd l : Int} {n : Nat} {L : List Nd} (w : World) (d : PoA w B p g h kd l n L) (hn : n ≤ 1000) :
    Calls Tryz.prog 55 #[.pointer (some ⟨p, 0, none⟩)] w fun e w' => ∃ p2 g2 h2, e = .returned (.pointer (some ⟨p2, 0, none⟩)) ∧ PoA w' w.heap.size p2 g2 h2 kd l n L ∧ Below w.heap.size w w' := by
  have R := Lib.hid d.roll
  have LN := Lib.hid d.len
  have hp : Hid (p < w.heap.size) := d.lt.1.2
  rcases d.st with ⟨hk, hl, bx, q⟩ | ⟨hk, bx, b, S, q, t, z⟩
  · have HK := Lib.hid hk
    have c0 : w.cell? ⟨p, 0, none⟩ = some (.pointer (some ⟨g, 0, none⟩)) := bx.cellAt 0 (by omega)
    have c1 : w.cell? ⟨p, 1, none⟩ = some (.pointer none) := bx.cellAt 1 (by omega)
    have CL := Lib.hid (fun w1 (hb : Below w.heap.size w w1) => (dsClone_any w1 (q.below hb) hl).mono (R' := fun e w' => ∃ g2 h2, e = .returned (.pointer (some ⟨g2, 0, none⟩)) ∧ DsA w' w.heap.size g2 h2 l L ∧ Below w1.heap.size w1 w' ∧ Below w.heap.size w w') fun e w' ⟨g2, h2, a, b, c⟩ => ⟨g2, h2, a, ⟨own_low b.top hb.size, own_low b.row hb.size, b.ne⟩, c, hb.trans (c.mono hb.size)⟩)
    clear d bx q hk
    go_enter Tryz.func55, Tryz.ntmps55
    go_wp2_with fail
    go_region_held3 (fun w' => w'.cell? ⟨p, 0, none⟩ = some (.pointer (some ⟨g, 0, none⟩)) ∧ w'.cell? ⟨p, 1, none⟩ = some (.pointer none) ∧ Below w.heap.size w w')
      (first | assumption | (exact keep_two (by assumption) hb2 hp.out hp.out) | (exact keep_two (by assumption) ((Below.refl _ _).alloc (Nat.le_refl _) _) hp.out hp.out) | (exact ⟨c0, c1, below_drew _⟩))
      (first
        | (go_at_call 87; refine (CL.out _ (below_of (p := ⟨p, 0, none⟩) (q := ⟨p, 1, none⟩) (x := .pointer (some ⟨g, 0, none⟩)) (y := .pointer none) (by assumption))).mono ?_; rintro e w3 ⟨g2, h2, rfl, hd2, hb2, hb3⟩)
        | (go_at_call 88; refine (pbClone_nil _).mono ?_; rintro e w4 ⟨rfl, rfl⟩))
    go_wp2_with fail
    go_ret
    exact ⟨_, g2, h2, rfl, ⟨R.out, LN.out, .inl ⟨HK.out, hl, own_low (box2 ..) hb3.size, hd2.below ((Below.refl _ _).alloc (Nat.le_refl _) _)⟩⟩, hb3.alloc hb3.size _⟩
  · have HK := Lib.hid hk
    have hb := szc_b4 z hn
    have T := Lib.hid t
    have Z := Lib.hid z
    have c0 : w.cell? ⟨p, 0, none⟩ = some (.pointer none) := bx.cellAt 0 (by omega)
    have c1 : w.cell? ⟨p, 1, none⟩ = some (.pointer (some ⟨g, 0, none⟩)) := bx.cellAt 1 (by omega)
    have CL := Lib.hid (fun w1 (hb1 : Below w.heap.size w w1) => (pbClone_any w1 (Ps.below q hb1) (show b ≤ 40 by omega)).mono (R' := fun e w' => ∃ g2 h2, e = .returned (.pointer (some ⟨g2, 0, none⟩)) ∧ PbA w' w.heap.size g2 h2 l (L.length : Int) (sumC L) b S ∧ Below w1.heap.size w1 w' ∧ Below w.heap.size w w') fun e w' ⟨g2, h2, a, b, c⟩ => ⟨g2, h2, a, Ps.low b hb1.size, c, hb1.trans (c.mono hb1.size)⟩)
    clear d bx q hk t z
    go_enter Tryz.func55, Tryz.ntmps55
    go_wp2_with fail
    go_region_held3 (fun w' => w'.cell? ⟨p, 0, none⟩ = some (.pointer none) ∧ w'.cell? ⟨p, 1, none⟩ = some (.pointer (some ⟨g, 0, none⟩)) ∧ Below w.heap.size w w')
      (first | assumption | (exact keep_two (by assumption) hb2 hp.out hp.out) | (exact keep_two (by assumption) ((Below.refl _ _).alloc (Nat.le_refl _) _) hp.out hp.out) | (exact ⟨c0, c1, below_drew _⟩))
      (first
        | (go_at_call 88; refine (CL.out _ (below_of (p := ⟨p, 0, none⟩) (q := ⟨p, 1, none⟩) (x := .pointer none) (y := .pointer (some ⟨g, 0, none⟩)) (by assumption))).mono ?_; rintro e w3 ⟨g2, h2, rfl, hd2, hb2, hb3⟩)
        | (go_at_call 87; refine (dsClone_nil _).mono ?_; rintro e w4 ⟨rfl, rfl⟩))
    go_wp2_with fail
    go_ret
    exact ⟨_, g2, h2, rfl, ⟨R.out, LN.out, .inr ⟨HK.out, own_low (box2 ..) hb3.size, b, S, Ps.below hd2 ((Below.refl _ _).alloc (Nat.le_refl _) _), T.out, Z.out⟩⟩, hb3.alloc hb3.size _⟩
theorem poSame_nil (w : World) : Calls Tryz.prog 63 #[.pointer none, .pointer none] w fun e w' => e = .returned (.bool true) ∧ w = w' := by
  go_enter Tryz.func63, Tryz.ntmps63
  go_wp2_with fail
  go_ret
  exact ⟨rfl, rfl⟩
theorem poSame_nil1 (p : Nat) (w : World) : Calls Tryz.prog 63 #[.pointer none, .pointer (some ⟨p, 0, none⟩)] w fun e w' => e = .returned (.bool false) ∧ w = w' := by
  have hq : ∀ w, (binOp .eql 78 (.pointer none) (.pointer (some ⟨p, 0, none⟩))).run Tryz.prog w = .ok (.bool false) w := fun _ => by kernel_rfl
  go_enter Tryz.func63, Tryz.ntmps63
  go_wp2_with fail
  go_ret
  exact ⟨rfl, rfl⟩
theorem poSame_nil2 (p : Nat) (w : World) : Calls Tryz.prog 63 #[.pointer (some ⟨p, 0, none⟩), .pointer none] w fun e w' => e = .returned (.bool false) ∧ w = w' := by
  have hq : ∀ w, (binOp .eql 78 (.pointer (some ⟨p, 0, none⟩)) (.pointer none)).run Tryz.prog w = .ok (.bool false) w := fun _ => by kernel_rfl
  go_enter Tryz.func63, Tryz.ntmps63
  go_wp2_with fail
  go_ret
  exact ⟨rfl, rfl⟩
set_option maxHeartbeats 1600000 in
theorem poSame_any {B p g h B2 p2 g2 h2 : Nat} {kd kd2 l : Int} {n n2 : Nat} {L M : List Nd} (w : World) (d : PoA w B p g h kd l n L) (d2 : PoA w B2 p2 g2 h2 kd2 l n2 M) (hn : n ≤ 1000) (hn2 : n2 ≤ 1000) :
    Calls Tryz.prog 63 #[.pointer (some ⟨p, 0, none⟩), .pointer (some ⟨p2, 0, none⟩)] w fun e w' => e = .returned (.bool (sameB L M)) ∧ Below w.heap.size w w' := by
  have D := Lib.hid d
  have D2 := Lib.hid d2
  have N1 := Lib.hid d.len
  have N2 := Lib.hid d2.len
  clear d d2
  go_enter Tryz.func63, Tryz.ntmps63
  go_wp2_with fail
  refine (poL_any _ D.out hn).mono ?_
  rintro e w1 ⟨rfl, q1, rfl⟩
  have E2 := Lib.hid (D2.out.below (drewN_below (Below.refl _ _) q1))
  have E1 := Lib.hid (D.out.below (drewN_below (Below.refl _ _) q1))
  go_wp2_with fail
  refine (poL_any _ E2.out hn2).mono ?_
  rintro e w2 ⟨rfl, q2, rfl⟩
  have F2 := Lib.hid (D2.out.below (drewN_below (Below.refl _ _) (q1 + q2)))
  have F1 := Lib.hid (D.out.below (drewN_below (Below.refl _ _) (q1 + q2)))
  go_wp2_with fail
  refine (poSnap_any _ F1.out hn).mono ?_
  rintro e w3 ⟨A3, m3, c3, rfl, hn3, hb3⟩
  have G2 := Lib.hid (F2.out.below hb3)
  have M3 := Lib.hid (nodes_cells (ownNd_nodes hn3)).1
  have HN3 := Lib.hid (ownNd_nodes hn3)
  have HB3 := Lib.hid hb3
  clear hn3 hb3
  go_wp2_with fail
  refine (poSnap_any _ G2.out hn2).mono ?_
  rintro e w4 ⟨A4, m4, c4, rfl, hn4, hb4⟩
  have M4 := Lib.hid (nodes_cells (ownNd_nodes hn4)).1
  have HN4 := Lib.hid (ownNd_nodes hn4)
  have HN5 := Lib.hid (HN3.out.below hb4)
  have HB4 := Lib.hid hb4
  clear hn4 hb4
  go_wp2_with (go_at_call 92; refine (rollSame_any _ _ _ _ _ _ L M _ HN5.out HN4.out (by have := M3.out; have := N1.out; omega) (by have := M4.out; have := N2.out; omega)).mono ?_; rintro e w5 ⟨rfl, q5, rfl⟩)
  go_ret
  refine ⟨rfl, ?_⟩
  have b2 := (drewN_below (Below.refl w.heap.size w) (q1 + q2))
  exact drewN_below ((b2.trans (HB3.out.mono b2.size)).trans (HB4.out.mono (Nat.le_trans b2.size HB3.out.size))) q5
/-- what Load leaves -/
def LoadPost (kd l : Int) (L : List Nd) (w : World) (e : Ending) (w' : World) : Prop := Below w.heap.size w w' ∧
  ((isP kd l = false ∧ e = .returned (.tuple #[.pointer none, .int .i64 2])) ∨ (isP kd l = true ∧ rollB l L = false ∧ e = .returned (.tuple #[.pointer none, .int .i64 10])) ∨
   (isP kd l = true ∧ rollB l L = true ∧ ∃ p g h, e = .returned (.tuple #[.pointer (some ⟨p, 0, none⟩), .int .i64 0]) ∧ PoA w' w.heap.size p g h kd l L.length L))
set_option maxHeartbeats 3200000 in
theorem poLoad_any (kd l : Int) (A : Option Addr) (m c : Nat) (L : List Nd) (w : World) (hv : NodesAt w (.slice A m c) L) (hB : NBds L) (hm : m ≤ 1000) (L0 : -9223372036854775808 ≤ l) (L1 : l ≤ 9223372036854775807) :
    Calls Tryz.prog 45 #[.int .i64 kd, .int .i64 l, .slice A m c] w (LoadPost kd l L w) := by
  obtain ⟨hlen, hlc, hcm, hat⟩ := nodes_cells hv
  have HL := Lib.hid hlen
  have HA := Lib.hid hat
  have HV := Lib.hid hv
  have HBB : Hid (NBds L) := hB
  clear hlen hat hv hB hlc hcm
  cases hi : isP kd l
  · have H := Lib.hid hi
    clear hi
    go_enter Tryz.func45, Tryz.ntmps45
    go_wp2_with (go_at_call 64; refine (poNew_no kd l _ H.out).mono ?_; rintro e w1 ⟨rfl, hb1⟩)
    go_ret2
    exact ⟨hb1, .inl ⟨H.out, rfl⟩⟩
  · have H := Lib.hid hi
    clear hi
    cases hr : rollB l L
    · have HR := Lib.hid hr
      clear hr
      go_enter Tryz.func45, Tryz.ntmps45
      go_wp2_with fail
      refine (poNew_any kd l _ H.out).mono ?_
      rintro e w1 ⟨p, g, h, rfl, hd, hb1⟩
      have RR := Lib.hid (rollRight_any l A m c L w1 (HV.out.below hb1) HBB.out (by omega) L0 L1)
      have HB1 := Lib.hid hb1
      unfold RightPost at RR
      rw [HR.out] at RR
      clear hd hb1
      go_wp2_with (go_at_call 73; refine RR.out.mono ?_; rintro e w2 ⟨rfl, hb2⟩)
      go_ret2
      exact ⟨HB1.out.trans (hb2.mono HB1.out.size), .inr (.inl ⟨H.out, HR.out, rfl⟩)⟩
    · have HR := Lib.hid hr
      have RC := Lib.hid (roll_iff.1 hr)
      clear hr
      go_enter Tryz.func45, Tryz.ntmps45
      go_wp2_with fail
      refine (poNew_any kd l _ H.out).mono ?_
      rintro e w1 ⟨p, g, h, rfl, hd, hb1⟩
      have RR := Lib.hid (rollRight_any l A m c L w1 (HV.out.below hb1) HBB.out (by omega) L0 L1)
      have HD := Lib.hid hd
      have HB1 := Lib.hid hb1
      unfold RightPost at RR
      rw [HR.out] at RR
      clear hd hb1
      go_wp2_with (go_at_call 73; refine RR.out.mono ?_; rintro e w2 ⟨rfl, hb2⟩)
      have HD2 := Lib.hid (HD.out.below hb2)
      have HB2 := Lib.hid (HB1.out.trans (hb2.mono HB1.out.size))
      clear hb2
      go_loopw [27] (fun i wr => ∃ (k h : Nat), k ≤ m ∧ i = .int .i64 k ∧ PoA wr w.heap.size p g h kd l k (L.take k) ∧ Below w.heap.size w wr) (fun i _ => m - (intOf i).toNat)
      case atStart => exact ⟨0, h, by omega, rfl, HD2.out, HB2.out⟩
      case round =>
        rename_i wr
        obtain ⟨k, h, hk, rfl, hd, hb⟩ := hrel
        have PD := Lib.hid hd
        have BB := Lib.hid hb
        have hzr := hb.size
        by_cases hlt : k < m
        · have hkl : k < L.length := by have := HL.out; omega
          obtain ⟨bq, o, rfl, hin⟩ := HA.out (by have := HL.out; omega)
          obtain ⟨e0, e1⟩ := (hin.below hb hin.1).2 k hkl
          have hbl := hin.1
          have hbd := HBB.out _ (nd_mem hkl)
          obtain ⟨⟨b0, b1⟩, b2, b3⟩ := hbd
          have AT := Lib.hid (add_take RC.out hkl)
          obtain ⟨x, hx⟩ : ∃ x, x = L.getD k nz := ⟨_, rfl⟩
          rw [← hx] at e0 e1 b0 b1 b2 b3 AT
          obtain ⟨id, cc⟩ := x
          simp only at e0 e1 b0 b1 b2 b3 AT
          have HBA : Hid (Below wr.heap.size wr (wr.alloc (.cells #[.int .i64 id, .int .i64 cc] 74))) := (Below.refl _ _).alloc (Nat.le_refl _) _
          have PA := Lib.hid (PD.out.below HBA.out)
          clear hin hb hd hx
          go_wp2_with fail
          refine (poAdd_any id cc _ PA.out (by omega) b0 b1 b2 b3).mono ?_
          rw [AT.out.1, AT.out.2]
          rintro e w3 ⟨rfl, h2, hd3, hc3, _⟩
          have HD3 := Lib.hid hd3
          have BW3 : Hid (Below w.heap.size w w3) := (BB.out.trans (HBA.out.mono hzr)).trans (hc3.below PD.out.lt.2.1 PD.out.lt.2.2.2.1 (by simp; omega))
          clear hd3 hc3 e0 e1
          go_wp2_with fail
          go_roundw
          case rel => exact ⟨k + 1, h2, by omega, by go_num, HD3.out, BW3.out⟩
          case measure => simp [intOf]; omega
        · have hkm : k = L.length := by have := HL.out; omega
          have PE : Hid (PoA wr w.heap.size p g h kd l L.length L) := by
            have q := PD.out
            rw [hkm, List.take_of_length_le (Nat.le_refl _)] at q
            exact q
          clear hkm hd hb
          go_wp2_with fail
          go_ret2
          exact ⟨BB.out, .inr (.inr ⟨H.out, HR.out, p, g, h, rfl, PE.out⟩)⟩

end Go.Proofs.YtfilmblpikcpnaaGreat
