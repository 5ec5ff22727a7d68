/- The document's answers of package dewpondref16: Steps. -/
import Derived.Test.YtfmgcabgbnfjlaaGreatRnkRef
import Derived.Test.YtfmgcabgbnfjlaaGreatFoR
import Derived.Deep.QuietTactic
import Derived.BigQuiet
namespace Go.Proofs.YtfmgcabgbnfjlaaGreat
set_option linter.unusedVariables false
set_option maxRecDepth 100000
open Go.RowKit

theorem end_small {l : Int} {L : List Nd} (h : RollC l L) {n : Nd} (hn : n ∈ L) : 0 ≤ hiN l n.1 ∧ hiN l n.1 ≤ 281474976710655 := by
  have z := node_ends h hn
  have u : 1 ≤ l ∧ l ≤ 48 := of_decide_eq_true h.1
  have b := two_le l.toNat 48 (by omega)
  omega
def StepsPost (l : Int) (L : List Nd) (w : World) (e : Ending) (w' : World) : Prop := ∃ A n c, e = .returned (.slice A n c) ∧ OwnI 3 w' w.heap.size (.slice A n c) (stepsN l L) ∧ Below w.heap.size w w'
set_option maxHeartbeats 6400000 in
theorem rRnkSteps_any {l : Int} (A : Option Addr) (n c : Nat) (L : List Nd) (w : World) (h : NodesAt w (.slice A n c) L) (hr : RollC l L) (hn : n ≤ 1000) :
    Calls Tryz.prog 17 #[.int .i64 l, .slice A n c] w (StepsPost l L w) := by
  have u : 1 ≤ l ∧ l ≤ 48 := of_decide_eq_true hr.1
  have HL := Lib.hid (nodes_cells h).1
  have HA := Lib.hid (nodes_cells h).2.2.2
  have NB := Lib.hid (nbds_roll hr)
  have TK := Lib.hid (fun (k : Nat) hk => steps_take l (L := L) (k := k) hk)
  have SL := Lib.hid (steps_len l L)
  have ES := Lib.hid (fun (k : Nat) (hk : k < L.length) => (end_small hr (List.getElem_mem hk) : 0 ≤ hiN l L[k].1 ∧ hiN l L[k].1 ≤ 281474976710655))
  have TB : Hid (∀ k : Nat, ∀ y ∈ stepsN l (L.take k), 0 ≤ y ∧ y ≤ 281474976710655) := fun k y hy => by
    obtain ⟨m, hm, e⟩ := (steps_mem l _ y).1 hy
    have z := end_small hr (List.mem_of_mem_take hm)
    omega
  obtain ⟨i0, hi, hz0, hz1, hz2⟩ := info_parts foInt_info
  clear h hr
  go_enter Tryz.func17, Tryz.ntmps17
  go_wp2_with fail
  go_loopw [5, 6] (fun v i wr => ∃ (m : Nat) (A2 : Option Addr) (q c2 : Nat), m ≤ n ∧ i = .int .i64 m ∧ v = .slice A2 q c2 ∧ OwnI 3 wr w.heap.size (.slice A2 q c2) (stepsN l (L.take m)) ∧ Below w.heap.size w wr) (fun _ i _ => n - (intOf i).toNat)
  case atStart => exact ⟨0, none, 0, 0, by omega, rfl, rfl, ownI_nil _ w w.heap.size, Below.refl _ _⟩
  case round =>
    obtain ⟨m, A2, q, c2, hm, rfl, rfl, ho, hb⟩ := hrel
    have BW := Lib.hid hb
    have OO := Lib.hid ho
    have HQ := Lib.hid (ints_cells (ownI_ints ho)).1
    have HC := Lib.hid (ownI_c ho).cells
    have HLE := Lib.hid (ownI_c ho).le
    have HNI := Lib.hid (ownI_c ho).nil
    have QL : Hid (q ≤ 1000) := by have a := HQ.out; have b := SL.out m; show _ ≤ _; omega
    have TBM := Lib.hid (TB.out m)
    obtain ⟨wo, hwo⟩ : ∃ wo : World, wo = wr := ⟨_, rfl⟩
    subst hwo
    by_cases hlt : m < n
    · have hk2 : m < L.length := by have := HL.out; omega
      obtain ⟨b, o, rfl, hin⟩ := HA.out (by omega)
      obtain ⟨e0, _⟩ := (hin.below BW.out hin.1).2 m hk2
      have HBZ : Hid (b < wo.heap.size) := Nat.lt_of_lt_of_le hin.1 BW.out.size
      have hx := nbds_at NB.out hk2
      have ez := ES.out m hk2
      have ST := Lib.hid (TK.out m hk2)
      have g : L[m] = L.getD m nz := by simp [List.getD_eq_getElem?_getD, hk2]
      rw [g] at ez
      clear hin hb g ho
      generalize (L.getD m nz).1 = id at *
      have EN := Lib.hid (fun w => rends_any l id w (by omega) (by omega) hx.1.1 hx.1.2)
      have k0 : (0 : Int) ≤ (m : Int) := Int.natCast_nonneg _
      have k1 : (m : Int) < (n : Int) := by omega
      generalize hiN l id = z at *
      generalize hT : stepsN l (L.take m) = T at *
      clear hT
      have EZ := Lib.hid ez
      clear ez
      go_wp2_with (go_at_call 37; refine (EN.out _).mono ?_; rintro e w6 ⟨rfl, rfl⟩)
      go_loopw [10] (fun i wq => ∃ k : Nat, k ≤ q ∧ i = .int .i64 k ∧ (∀ j, j < k → T.getD j 0 < z) ∧ wq = wo) (fun i _ => q - (intOf i).toNat)
      case atStart => exact ⟨0, by omega, rfl, fun j h => by omega, rfl⟩
      case round =>
        obtain ⟨wq, hwq⟩ : ∃ wq : World, wq = wr := ⟨_, rfl⟩
        subst hwq
        obtain ⟨k, hk, rfl, hah, rfl⟩ := hrel
        have HAH := Lib.hid hah
        have ZB := Lib.hid BW.out.size
        have BWQ := BW
        clear hah
        by_cases hlk : k < q
        · obtain ⟨b2, o2, rfl, hbl, hcell⟩ := HC.out (by omega)
          have f0 : wq.cell? ⟨b2, o2 + k, none⟩ = some (.int .i64 (T.getD k 0)) := hcell k hlk
          clear hcell
          by_cases ha : T.getD k 0 < z
          · have HA2 := Lib.hid ha
            have hq1000 : q ≤ 1000 := QL.out
            have hd : decide (T.getD k 0 < z) = true := decide_eq_true ha
            obtain ⟨y, hyy⟩ : ∃ y, y = T.getD k 0 := ⟨_, rfl⟩
            rw [← hyy] at f0 hd
            clear ha hyy
            go_wp2_with fail
            go_roundw
            case rel => exact ⟨k + 1, by omega, by go_num, fun j hj => by
              rcases Nat.lt_or_ge j k with q' | q'
              · exact HAH.out j q'
              · obtain rfl : j = k := by omega
                exact HA2.out, by first | rfl | trivial⟩
            case measure => simp [intOf]; omega
          · have WI := Lib.hid (ins_at (T := T) (x := z) (k := k) (by have := HQ.out; omega) HAH.out (.inr ha))
            have hd : decide (T.getD k 0 < z) = false := decide_eq_false ha
            obtain ⟨y, hyy⟩ : ∃ y, y = T.getD k 0 := ⟨_, rfl⟩
            rw [← hyy] at f0 hd WI
            clear ha hyy
            by_cases hyx : y = z
            · subst hyx
              have W2 : Hid (stepsN l (L.take (m + 1)) = T) := ST.out.trans (WI.out.trans (if_pos ⟨by have := HQ.out; omega, rfl⟩))
              have heq : (y == y) = true := by simp
              go_wp2_with fail
              go_roundw
              case rel => exact ⟨m + 1, _, q, c2, by omega, by go_num, rfl, by rw [W2.out]; exact OO.out, BWQ.out⟩
              case measure => simp [intOf]; omega
            · have hne : (y == z) = false := beq_eq_false_iff_ne.2 hyx
              have WW : Hid (stepsN l (L.take (m + 1)) = T.take k ++ z :: T.drop k) := ST.out.trans (WI.out.trans (if_neg (fun q => hyx q.2)))
              have HTL : Hid (k = (T.take k).length) := by show k = _; rw [List.length_take]; have := HQ.out; omega
              have HDL : Hid (q - k = (T.drop k).length) := by show q - k = _; rw [List.length_drop]; have := HQ.out; omega
              have stk := fun w => sl_to Tryz.underlying27 hi hz1 (some ⟨b2, o2, none⟩) q c2 k (by have := HLE.out; omega) w
              have sfk := fun w => sl_from Tryz.underlying27 hi hz1 ⟨b2, o2, none⟩ q c2 k hk w
              have hq1000 := QL.out
              clear hyx
              go_wp2_with (at_builtin; refine push_all _ rfl _ _ rfl _ [] (T.take k) rfl (ownI_nil _ wq wq.heap.size) rfl HTL.out (fun h => by cases h) (cells_take HC.out (by omega)) (by simp; omega) (Nat.le_refl _) ?_)
              intro v1 w1 r1 g1 a1
              obtain ⟨A1, m1, c1, rfl⟩ := own_slice r1
              have HB1 := Lib.hid (below_grown (B := wq.heap.size) g1 (fun g h => by simp [Value.ownBlock] at h) (Nat.le_refl _))
              have R1 : Hid (OwnI 3 w1 wq.heap.size (.slice A1 m1 c1) (T.take k)) := r1
              clear r1 g1 a1
              go_wp2_with (at_builtin; refine push_all _ rfl _ _ rfl _ (T.take k) [z] rfl (World.ownsRow.alloc R1.out (.cells #[.int .i64 z] 3)) rfl rfl (fun h => by cases h) (fun _ => ⟨w1.heap.size, 0, rfl, by simp, fun j hj => by obtain rfl : j = 0 := (by omega); exact new_cell _ _ _ _ rfl⟩) (by rw [← HTL.out]; simp; omega) (by have a := HB1.out.size; simp; omega) ?_)
              intro v2 w2 r2 g2 a2
              obtain ⟨A3, m3, c3, rfl⟩ := own_slice r2
              have HB2 := Lib.hid ((HB1.out.alloc HB1.out.size (.cells #[.int .i64 z] 3)).trans (below_grown (B := wq.heap.size) g2 (fun g h => (World.ownsRow.lt R1.out g h).1) (by have a := HB1.out.size; simp; omega)))
              have R2 : Hid (OwnI 3 w2 wq.heap.size (.slice A3 m3 c3) (T.take k ++ [z])) := r2
              clear r2 g2 a2
              go_wp2_with (at_builtin; refine push_all _ rfl _ _ rfl _ (T.take k ++ [z]) (T.drop k) rfl R2.out rfl HDL.out (fun h => by cases h) ((cells_drop HC.out (by omega) HLE.out).below HB2.out) (by rw [List.length_append, ← HTL.out]; simp; omega) HB2.out.size ?_)
              intro v3 w3 r3 g3 a3
              obtain ⟨A4, m4, c4, rfl⟩ := own_slice r3
              have HB3 := Lib.hid (HB2.out.trans (below_grown (B := wq.heap.size) g3 (fun g h => (World.ownsRow.lt R2.out g h).1) HB2.out.size))
              have R3 : Hid (OwnI 3 w3 wq.heap.size (.slice A4 m4 c4) (stepsN l (L.take (m + 1)))) := by
                show OwnI _ _ _ _ _
                rw [WW.out]
                have q := r3
                first | exact q | (rw [List.append_assoc] at q; exact q) | (rw [List.append_nil] at q; exact q)
              clear r3 g3 a3
              go_wp2_with fail
              go_roundw
              case rel => exact ⟨m + 1, A4, m4, c4, by omega, by go_num, rfl, own_low R3.out ZB.out, BWQ.out.trans (HB3.out.mono ZB.out)⟩
              case measure => simp [intOf]; omega
        · obtain rfl : k = q := by omega
          have WI := Lib.hid (ins_at (T := T) (x := z) (k := k) (by have := HQ.out; omega) HAH.out (.inl HQ.out))
          have hq1000 := QL.out
          cases A2 with
          | none =>
            have hc0 := HNI.out rfl
            subst hc0
            obtain rfl : k = 0 := by have := HLE.out; omega
            obtain rfl : T = [] := List.eq_nil_of_length_eq_zero HQ.out.symm
            have WW : Hid (stepsN l (L.take (m + 1)) = [z]) := ST.out
            have stk := fun w => sl_to Tryz.underlying27 hi hz1 none 0 0 0 (Nat.le_refl _) w
            have sfk := fun w => sl_from_none Tryz.underlying27 hi hz1 w
            go_wp2_with (at_builtin; refine push_all _ rfl _ _ rfl _ [] ([]) rfl (ownI_nil _ wq wq.heap.size) rfl rfl (fun _ => rfl) (fun h0 => absurd h0 (by omega)) (by simp) (Nat.le_refl _) ?_)
            intro v1 w1 r1 g1 a1
            obtain ⟨A1, m1, c1, rfl⟩ := own_slice r1
            have HB1 := Lib.hid (below_grown (B := wq.heap.size) g1 (fun g h => by simp [Value.ownBlock] at h) (Nat.le_refl _))
            have R1 : Hid (OwnI 3 w1 wq.heap.size (.slice A1 m1 c1) ([])) := r1
            clear r1 g1 a1
            go_wp2_with (at_builtin; refine push_all _ rfl _ _ rfl _ ([]) [z] rfl (World.ownsRow.alloc R1.out (.cells #[.int .i64 z] 3)) rfl rfl (fun h => by cases h) (fun _ => ⟨w1.heap.size, 0, rfl, by simp, fun j hj => by obtain rfl : j = 0 := (by omega); exact new_cell _ _ _ _ rfl⟩) (by simp) (by have a := HB1.out.size; simp; omega) ?_)
            intro v2 w2 r2 g2 a2
            obtain ⟨A3, m3, c3, rfl⟩ := own_slice r2
            have HB2 := Lib.hid ((HB1.out.alloc HB1.out.size (.cells #[.int .i64 z] 3)).trans (below_grown (B := wq.heap.size) g2 (fun g h => (World.ownsRow.lt R1.out g h).1) (by have a := HB1.out.size; simp; omega)))
            have R2 : Hid (OwnI 3 w2 wq.heap.size (.slice A3 m3 c3) ([] ++ [z])) := r2
            clear r2 g2 a2
            go_wp2_with (at_builtin; refine push_all _ rfl _ _ rfl _ ([] ++ [z]) ([]) rfl R2.out rfl rfl (fun _ => rfl) (fun h0 => absurd h0 (by omega)) (by simp) HB2.out.size ?_)
            intro v3 w3 r3 g3 a3
            obtain ⟨A4, m4, c4, rfl⟩ := own_slice r3
            have HB3 := Lib.hid (HB2.out.trans (below_grown (B := wq.heap.size) g3 (fun g h => (World.ownsRow.lt R2.out g h).1) HB2.out.size))
            have R3 : Hid (OwnI 3 w3 wq.heap.size (.slice A4 m4 c4) (stepsN l (L.take (m + 1)))) := by
              show OwnI _ _ _ _ _
              rw [WW.out]
              have q := r3
              first | exact q | (rw [List.append_assoc] at q; exact q) | (rw [List.append_nil] at q; exact q)
            clear r3 g3 a3
            go_wp2_with fail
            go_roundw
            case rel => exact ⟨m + 1, A4, m4, c4, by omega, by go_num, rfl, own_low R3.out ZB.out, BWQ.out.trans (HB3.out.mono ZB.out)⟩
            case measure => simp [intOf]; omega
          | some ad =>
            have WW : Hid (stepsN l (L.take (m + 1)) = T.take k ++ [z]) := by
              have q : insS z T = T.take k ++ z :: T.drop k := WI.out.trans (if_neg (fun q => by have := HQ.out; omega))
              rw [List.drop_of_length_le (by have := HQ.out; omega)] at q
              exact ST.out.trans q
            have HTL : Hid (k = (T.take k).length) := by show k = _; rw [List.length_take]; have := HQ.out; omega
            have stk := fun w => sl_to Tryz.underlying27 hi hz1 (some ad) k c2 k (by have := HLE.out; omega) w
            have sfk : ∀ w, (Instr.slice 27 (.slice (some ad) k c2) (some (.int .i64 (k : Int))) none none).run Tryz.prog w = .ok (.slice (some (advA ad c2 k 1)) 0 (c2 - k)) w := fun w => by
              have q := sl_from Tryz.underlying27 hi hz1 ad k c2 k (Nat.le_refl _) w
              rw [Nat.sub_self] at q
              exact q
            go_wp2_with (at_builtin; refine push_all _ rfl _ _ rfl _ [] (T.take k) rfl (ownI_nil _ wq wq.heap.size) rfl HTL.out (fun h => by cases h) (cells_take HC.out (by omega)) (by simp; omega) (Nat.le_refl _) ?_)
            intro v1 w1 r1 g1 a1
            obtain ⟨A1, m1, c1, rfl⟩ := own_slice r1
            have HB1 := Lib.hid (below_grown (B := wq.heap.size) g1 (fun g h => by simp [Value.ownBlock] at h) (Nat.le_refl _))
            have R1 : Hid (OwnI 3 w1 wq.heap.size (.slice A1 m1 c1) (T.take k)) := r1
            clear r1 g1 a1
            go_wp2_with (at_builtin; refine push_all _ rfl _ _ rfl _ (T.take k) [z] rfl (World.ownsRow.alloc R1.out (.cells #[.int .i64 z] 3)) rfl rfl (fun h => by cases h) (fun _ => ⟨w1.heap.size, 0, rfl, by simp, fun j hj => by obtain rfl : j = 0 := (by omega); exact new_cell _ _ _ _ rfl⟩) (by rw [← HTL.out]; simp; omega) (by have a := HB1.out.size; simp; omega) ?_)
            intro v2 w2 r2 g2 a2
            obtain ⟨A3, m3, c3, rfl⟩ := own_slice r2
            have HB2 := Lib.hid ((HB1.out.alloc HB1.out.size (.cells #[.int .i64 z] 3)).trans (below_grown (B := wq.heap.size) g2 (fun g h => (World.ownsRow.lt R1.out g h).1) (by have a := HB1.out.size; simp; omega)))
            have R2 : Hid (OwnI 3 w2 wq.heap.size (.slice A3 m3 c3) (T.take k ++ [z])) := r2
            clear r2 g2 a2
            go_wp2_with (at_builtin; refine push_all _ rfl _ _ rfl _ (T.take k ++ [z]) ([]) rfl R2.out rfl rfl (fun h => by cases h) (fun h0 => absurd h0 (by omega)) (by rw [List.length_append, ← HTL.out]; simp; omega) HB2.out.size ?_)
            intro v3 w3 r3 g3 a3
            obtain ⟨A4, m4, c4, rfl⟩ := own_slice r3
            have HB3 := Lib.hid (HB2.out.trans (below_grown (B := wq.heap.size) g3 (fun g h => (World.ownsRow.lt R2.out g h).1) HB2.out.size))
            have R3 : Hid (OwnI 3 w3 wq.heap.size (.slice A4 m4 c4) (stepsN l (L.take (m + 1)))) := by
              show OwnI _ _ _ _ _
              rw [WW.out]
              have q := r3
              first | exact q | (rw [List.append_assoc] at q; exact q) | (rw [List.append_nil] at q; exact q)
            clear r3 g3 a3
            go_wp2_with fail
            go_roundw
            case rel => exact ⟨m + 1, A4, m4, c4, by omega, by go_num, rfl, own_low R3.out ZB.out, BWQ.out.trans (HB3.out.mono ZB.out)⟩
            case measure => simp [intOf]; omega
    · obtain rfl : m = n := by omega
      have e : L.take m = L := List.take_of_length_le (by have := HL.out; omega)
      rw [e] at OO
      go_wp2_with fail
      go_ret
      exact ⟨A2, q, c2, rfl, OO.out, BW.out⟩

end Go.Proofs.YtfmgcabgbnfjlaaGreat
