/- The document's answers of package dewpondref05: whether two lists are the same, whether nodes lie one behind the other. -/
import Derived.Test.YtjmglihdndknjaaTwRef
import Derived.Test.YtjmglihdndknjaaTi3
import Derived.Deep.QuietTactic
import Derived.BigQuiet
namespace Go.Proofs.Ytjmglihdndknjaa
set_option linter.unusedVariables false
open Go.RowKit


theorem same_not {T T' : List Int} {k : Nat} (hk : k < T.length) (hk' : k < T'.length) (h : T.getD k 0 ≠ T'.getD k 0) : decide (T = T') = false :=
  decide_eq_false fun e => h (by rw [e])
theorem same_yes {T T' : List Int} {n : Nat} (h1 : T.length = n) (h2 : T'.length = n) (h : T.take n = T'.take n) : decide (T = T') = true :=
  decide_eq_true (by rwa [List.take_of_length_le (by omega), List.take_of_length_le (by omega)] at h)
set_option maxHeartbeats 800000 in
theorem same_any (A A' : Option Addr) (n n' c c' : Nat) (T T' : List Int) (w : World) (h : IntsAt w (.slice A n c) T) (h' : IntsAt w (.slice A' n' c') T') (hn : n ≤ 1000000) (hn' : n' ≤ 1000000) :
    Calls Try.prog 10 #[.slice A n c, .slice A' n' c'] w fun e w' => e = .returned (.bool (decide (T = T'))) ∧ Below w.heap.size w w' := by
  have HL := Lib.hid (ints_cells h).1
  have HL' := Lib.hid (ints_cells h').1
  have HC := Lib.hid (ints_cells h).2
  have HC' := Lib.hid (ints_cells h').2
  clear h h'
  by_cases hnn : n = n'
  · subst hnn
    go_enter Try.func10, Try.ntmps10
    go_wp2_with fail
    go_loopw [5] (fun i wr => ∃ k : Nat, k ≤ n ∧ i = .int .i64 k ∧ T.take k = T'.take k ∧ Below w.heap.size w wr) (fun i _ => n - (intOf i).toNat)
    case atStart => exact ⟨0, by omega, rfl, rfl, Below.refl ..⟩
    case round =>
      rename_i wr
      obtain ⟨k, hk, rfl, heq, hb⟩ := hrel
      have HE := Lib.hid heq
      clear heq
      by_cases hlt : k < n
      · have hk2 : k < T.length := by have := HL.out; omega
        have hk3 : k < T'.length := by have := HL'.out; omega
        obtain ⟨b, o, rfl, hbl, hcell⟩ := HC.out (by omega)
        obtain ⟨b', o', rfl, hbl', hcell'⟩ := HC'.out (by omega)
        have e0 : wr.cell? ⟨b, o + k, none⟩ = some (.int .i64 (T.getD k 0)) := (hb.cell (p := ⟨b, o + k, none⟩) hbl).trans (hcell k hk2)
        have e1 : wr.cell? ⟨b', o' + k, none⟩ = some (.int .i64 (T'.getD k 0)) := (hb.cell (p := ⟨b', o' + k, none⟩) hbl').trans (hcell' k hk3)
        have htk := Lib.hid (take_at hk2)
        have htk' := Lib.hid (take_at hk3)
        have hnot := Lib.hid (same_not hk2 hk3)
        clear hcell hcell'
        generalize T.getD k 0 = t at *
        generalize T'.getD k 0 = t' at *
        by_cases ht : t = t'
        · subst ht
          go_wp2_with fail
          go_quiet (fail)
          go_wp2_with fail
          go_roundw
          case rel => exact ⟨k + 1, by omega, by go_num, by rw [htk.out, htk'.out, HE.out], drewN_below hb _⟩
          case measure => simp [intOf]; omega
        · have hq : (t != t') = true := by simpa using ht
          have HN := Lib.hid (hnot.out ht)
          clear ht
          go_wp2_with fail
          go_quiet (fail)
          go_wp2_with fail
          go_ret
          exact ⟨by rw [HN.out]; rfl, drewN_below hb _⟩
      · have e : k = n := by omega
        subst e
        go_wp2_with fail
        go_ret
        exact ⟨by rw [same_yes HL.out.symm HL'.out.symm HE.out]; rfl, hb⟩
  · have hd : ((n : Int) != (n' : Int)) = true := bne_iff_ne.2 (by omega)
    have HD : Hid (decide (T = T') = false) := decide_eq_false fun e => hnn (by rw [HL.out, HL'.out, e])
    clear hnn
    go_enter Try.func10, Try.ntmps10
    go_wp2_with fail
    go_ret
    exact ⟨by rw [HD]; rfl, Below.refl ..⟩

set_option maxHeartbeats 1600000 in
theorem r5of_yes (l a b : Int) (w : World) (h : OfC l a b) : Calls Try.prog 9 #[.int .i64 l, .int .i64 a, .int .i64 b] w (Told l (fun x => a ≤ x ∧ x ≤ b) (2 * l.toNat) w) := by
  obtain ⟨i0, hi, hz0, hz1, hz2⟩ := info_parts int_info
  obtain ⟨ha, hb, hab⟩ := h
  have HVA := Lib.hid ha
  have HVB := Lib.hid hb
  have hl1 := ha.1
  have hl2 := ha.2.1
  have hu := uni_yes ⟨hl1, hl2⟩
  have b1 : (2 : Int) ^ l.toNat ≤ 281474976710656 := two_le l.toNat 48 (by omega)
  have a2 := ha.2.2
  have b2 := hb.2.2
  clear ha hb
  go_enter Try.func9, Try.ntmps9
  go_wp2_with (first | (go_at_call 27; refine (rIs_any _ _ (by omega) (by omega)).mono ?_; rintro e w1 ⟨rfl, rfl⟩) | (go_at_call 28; refine (rpower_any _ _ (by omega) (by omega)).mono ?_; rintro e w1 ⟨rfl, rfl⟩))
  go_loopw [8, 9] (fun v x wr => ∃ (T : List Int) (z : Int), x = .int .i64 z ∧ OwnI 3 wr w.heap.size v T ∧ OfInv l a b T z ∧ Below w.heap.size w wr) (fun _ x _ => (b + 1 - intOf x).toNat)
  case atStart => exact ⟨[], a, rfl, ownI_nil _ _ _, of_start hab, Below.refl ..⟩
  case round =>
    rename_i wr
    obtain ⟨T, z, rfl, hown, hinv, hbw⟩ := hrel
    have INV := Lib.hid hinv
    have hz1' := hinv.2.2.1
    have hz2' := hinv.2.2.2.1
    have hln := of_len hinv HVA.out HVB.out
    have OW := Lib.hid hown
    have zs := hbw.size
    obtain ⟨A2, m2, c2, rfl⟩ := own_slice hown
    clear hinv hown
    by_cases hlt : z ≤ b
    · have hv : ValC l z := ⟨hl1, hl2, by omega, by omega⟩
      obtain ⟨nl, n1, n2⟩ := leaf_node hv
      have NL := Lib.hid nl
      have N1 := Lib.hid n1
      have N2 := Lib.hid n2
      have nb := right_id nl.1 nl.2
      have nb2 := (node_bd nl).2.2.2.2
      clear nl n1 n2 hv
      obtain ⟨wo, hwo⟩ : ∃ wo : World, wo = wr := ⟨_, rfl⟩
      subst hwo
      go_wp2_with (go_at_call 29; refine (rleaf_any _ _ _ (by omega) (by omega) (by omega) (by omega)).mono ?_; rintro e w1 ⟨rfl, rfl⟩)
      go_loop [10, 12] (fun y h => ∃ id : Int, y = .int .i64 id ∧ h = .int .i64 (hiN l id) ∧ Node l id ∧ loN l id = z ∧ hiN l id ≤ b) (fun y _ => (intOf y).toNat)
      case atStart => exact ⟨_, rfl, by rw [N2.out], NL.out, N1.out, by rw [N2.out]; omega⟩
      case round =>
        obtain ⟨id, rfl, rfl, hn, hlo, hhi⟩ := hrel
        have bd := node_bd hn
        have bi := right_id hn.1 hn.2
        have HN := Lib.hid hn
        have HLO := Lib.hid hlo
        have hzh : z ≤ hiN l id := by omega
        clear hlo
        by_cases hev : id % 2 = 0
        · have hq : (id % 2 == 0) = true := by simpa using hev
          have hnp := node_pair hn (by omega) hev
          have hn2 := Lib.hid hnp.2.1
          have hp1 := hnp.2.1.1
          have he := (end_yes hp1).2.2
          have hlo2 := Lib.hid hnp.2.2.1
          have bd2 := node_bd hnp.2.1
          clear hev hn hnp
          by_cases hgt : b < hiN l (id / 2)
          · have HS := Lib.hid (of_step (id := id) (by rw [HLO.out]; exact INV.out) HN.out hhi (fun _ => hgt))
            go_wp2_with (first | (go_at_call 30; refine (rends_any _ _ _ (by omega) (by omega) (by omega) (by omega)).mono ?_; rintro e w1 ⟨rfl, rfl⟩) | (at_builtin; refine wpList_append_own _ rfl _ _ 22 rfl w.heap.size 3 i0 (.int .i64 0) 1 8 Try.underlying22 hi hz0 hz1 hz2 rfl (by decide) _ T.length (ints T) rfl (World.ownsRow.alloc OW.out _) ⟨wo.heap.size, 0, none⟩ 1 1 [.int .i64 id] rfl rfl (one_new _ _ _ _ rfl) (one_int _) (by unfold maxLen; omega) (by omega) (by simp; omega) ?_))
            intro v' w2 hown2 hgrow _
            have hb2 : Below w.heap.size w w2 := (hbw.alloc zs _).grown hgrow (by simp; omega) (fun g hg => (World.ownsRow.lt OW.out g hg).1)
            have O2 := Lib.hid (ownI_snoc rfl hown2)
            clear hown2 hgrow
            go_wp2_with fail
            go_roundw
            case rel => exact ⟨T ++ [id], _, rfl, O2.out, HS.out, hb2⟩
            case measure => simp [intOf]; omega
          · go_wp2_with (go_at_call 30; refine (rends_any _ _ _ (by omega) (by omega) (by omega) (by omega)).mono ?_; rintro e w1 ⟨rfl, rfl⟩)
            go_round
            case rel => exact ⟨id / 2, rfl, rfl, hn2.out, by rw [hlo2.out, HLO.out], by omega⟩
            case measure => simp [intOf]; omega
        · have hq : (id % 2 == 0) = false := by simpa using hev
          have HS := Lib.hid (of_step (id := id) (by rw [HLO.out]; exact INV.out) HN.out hhi (fun g => absurd g hev))
          clear hev hn
          go_wp2_with (at_builtin; refine wpList_append_own _ rfl _ _ 22 rfl w.heap.size 3 i0 (.int .i64 0) 1 8 Try.underlying22 hi hz0 hz1 hz2 rfl (by decide) _ T.length (ints T) rfl (World.ownsRow.alloc OW.out _) ⟨wo.heap.size, 0, none⟩ 1 1 [.int .i64 id] rfl rfl (one_new _ _ _ _ rfl) (one_int _) (by unfold maxLen; omega) (by omega) (by simp; omega) ?_)
          intro v' w2 hown2 hgrow _
          have hb2 : Below w.heap.size w w2 := (hbw.alloc zs _).grown hgrow (by simp; omega) (fun g hg => (World.ownsRow.lt OW.out g hg).1)
          have O2 := Lib.hid (ownI_snoc rfl hown2)
          clear hown2 hgrow
          go_wp2_with fail
          go_roundw
          case rel => exact ⟨T ++ [id], _, rfl, O2.out, HS.out, hb2⟩
          case measure => simp [intOf]; omega
    · have HE := Lib.hid (of_end INV.out (show b < z by omega))
      have hr := run_laid HE.out.1 HE.out.2 HVA.out HVB.out hab
      have hr1 := hr.1
      have hints := ownI_ints OW.out
      have HI := Lib.hid hints
      have hm : m2 = T.length := (ints_cells hints).1
      have HM := Lib.hid hm
      clear hr hints hm
      go_wp2_with fail
      go_ret2
      exact ⟨A2, c2, T, by rw [← HM.out]; rfl, by rw [← HM.out]; exact HI.out, HE.out.1, HE.out.2, hr1, hbw⟩

end Go.Proofs.Ytjmglihdndknjaa
