/- The document's answers of package dewpondref06: Total, Find, Right, Same. -/
import Derived.Test.YtfilmblpikcpnaaGreatTwRef
import Derived.Test.YtfilmblpikcpnaaGreatRo
namespace Go.Proofs.YtfilmblpikcpnaaGreat
set_option linter.unusedVariables false
open Go.RowKit

set_option maxHeartbeats 1600000 in
theorem rTotal_any (A : Option Addr) (n c : Nat) (L : List Nd) (w : World) (h : NodesAt w (.slice A n c) L) (hB : NBds L) (hn : n ≤ 1000000) :
    Calls Tryz.prog 52 #[.slice A n c] w (TotPost L w) := by
  obtain ⟨hlen, hlc, hcm, hat⟩ := nodes_cells h
  have HL := Lib.hid hlen
  have HA := Lib.hid hat
  have HB := Lib.hid hB
  clear hlen hat hB h hlc hcm
  go_enter Tryz.func52, Tryz.ntmps52
  go_wp2_with fail
  go_loop [4, 5] (fun t i => ∃ k : Nat, k ≤ n ∧ i = .int .i64 k ∧ t = .int .i64 (sumC (L.take k)) ∧ TotC (L.take k)) (fun _ i => n - (intOf i).toNat)
  case atStart => exact ⟨0, by omega, rfl, rfl, tot_nil⟩
  case round =>
    obtain ⟨k, hk, rfl, rfl, htot⟩ := hrel
    have TC := Lib.hid htot
    have t0 : 0 ≤ sumC (L.take k) := sumC_nonneg htot.1
    have t1 : sumC (L.take k) ≤ 72057594037927935 := htot.2
    clear htot
    by_cases hlt : k < n
    · have hk2 : k < L.length := by have := HL.out; omega
      obtain ⟨b, o, rfl, hin⟩ := HA.out (by omega)
      obtain ⟨e0, e1⟩ := hin.2 k hk2
      have hbd := nbds_at HB.out hk2
      obtain ⟨⟨b0, b1⟩, b2, b3⟩ := hbd
      have hst := Lib.hid (fun q0 q1 => tot_step hk2 TC.out q0 q1)
      have hno := Lib.hid (fun q => tot_stop (L := L) hk2 q)
      clear hin
      generalize L.getD k nz = r at *
      obtain ⟨id, x⟩ := r
      simp only at e0 e1 b0 b1 b2 b3
      generalize hT : sumC (L.take k) = T at *
      have HT := Lib.hid hT
      clear hT
      by_cases q0 : x < 0
      · have NO := Lib.hid (tot_no (hno.out (.inl q0)))
        clear hst hno
        go_wp2_with fail
        go_ret2
        exact tot_post NO.out (Below.refl ..)
      · by_cases q1 : 72057594037927935 - T < x
        · have NO := Lib.hid (tot_no (hno.out (.inr (by show _ < T + x; omega))))
          clear hst hno
          go_wp2_with fail
          go_ret2
          exact tot_post NO.out (Below.refl ..)
        · have ST := Lib.hid (hst.out (by omega) (by omega))
          clear hst hno
          go_wp2_with fail
          go_round
          case rel => exact ⟨k + 1, by omega, by go_num, by rw [ST.out.2], ST.out.1⟩
          case measure => simp [intOf]; omega
    · have hd : Hid (L.take k = L) := List.take_of_length_le (by have := HL.out; omega)
      have YES := Lib.hid (tot_yes (L := L) (by have q := TC.out; rw [hd] at q; exact q))
      go_wp2_with fail
      go_ret2
      exact tot_post ⟨by rw [YES.out.1, hd], YES.out.2⟩ (Below.refl ..)
set_option maxHeartbeats 1600000 in
theorem rFind_any (A : Option Addr) (n c : Nat) (L : List Nd) (id : Int) (w : World) (h : NodesAt w (.slice A n c) L) (hn : n ≤ 1000000) :
    Calls Tryz.prog 104 #[.slice A n c, .int .i64 id] w (FindPost L id w) := by
  obtain ⟨hlen, hlc, hcm, hat⟩ := nodes_cells h
  have HL := Lib.hid hlen
  have HA := Lib.hid hat
  clear hlen hat h hlc hcm
  go_enter Tryz.func104, Tryz.ntmps104
  go_wp2_with fail
  go_loop [5] (fun i => ∃ k : Nat, k ≤ n ∧ i = .int .i64 k ∧ (∀ m ∈ L.take k, m.1 ≠ id)) (fun i => n - (intOf i).toNat)
  case atStart => exact ⟨0, by omega, rfl, fun m h => by simp at h⟩
  case round =>
    obtain ⟨k, hk, rfl, hno⟩ := hrel
    have NO := Lib.hid hno
    clear hno
    by_cases hlt : k < n
    · have hk2 : k < L.length := by have := HL.out; omega
      obtain ⟨b, o, rfl, hin⟩ := HA.out (by omega)
      obtain ⟨e0, e1⟩ := hin.2 k hk2
      have hst := Lib.hid (fun q => find_step hk2 NO.out q)
      have hat := Lib.hid (fun q => find_at hk2 NO.out q)
      clear hin
      generalize L.getD k nz = r at *
      obtain ⟨j, x⟩ := r
      simp only at e0 e1
      by_cases q : j = id
      · have AT := Lib.hid (hat.out q)
        have q' : (j == id) = true := by simpa using q
        clear q hat hst
        go_wp2_with fail
        go_ret
        exact find_post AT.out (Below.refl ..)
      · have ST := Lib.hid (hst.out q)
        have q' : (j == id) = false := by simpa using q
        clear q hat hst
        go_wp2_with fail
        go_round
        case rel => exact ⟨k + 1, by omega, by go_num, ST.out⟩
        case measure => simp [intOf]; omega
    · have hd : Hid (L.take k = L) := List.take_of_length_le (by have := HL.out; omega)
      go_wp2_with fail
      go_ret
      exact find_post (find_end (by have q := NO.out; rw [hd] at q; exact q)) (Below.refl ..)
set_option maxHeartbeats 1600000 in
theorem rSame_any (A A2 : Option Addr) (n c n2 c2 : Nat) (L M : List Nd) (w : World) (h : NodesAt w (.slice A n c) L) (h2 : NodesAt w (.slice A2 n2 c2) M) (hn : n ≤ 1000000) (hn2 : n2 ≤ 1000000) :
    Calls Tryz.prog 33 #[.slice A n c, .slice A2 n2 c2] w (SamePost L M w) := by
  obtain ⟨hlen, hlc, hcm, hat⟩ := nodes_cells h
  obtain ⟨hlen2, hlc2, hcm2, hat2⟩ := nodes_cells h2
  have HL := Lib.hid hlen
  have HA := Lib.hid hat
  have HL2 := Lib.hid hlen2
  have HA2 := Lib.hid hat2
  clear hlen hat h hlc hcm hlen2 hat2 h2 hlc2 hcm2
  by_cases hll : n = n2
  · subst hll
    go_enter Tryz.func33, Tryz.ntmps33
    go_wp2_with fail
    go_loopw [5] (fun i wr => ∃ (k q : Nat), k ≤ n ∧ i = .int .i64 k ∧ L.take k = M.take k ∧ wr = w.drewN q) (fun i _ => n - (intOf i).toNat)
    case atStart => exact ⟨0, 0, by omega, rfl, rfl, rfl⟩
    case round =>
      rename_i wr
      obtain ⟨k, q, hk, rfl, hinv, rfl⟩ := hrel
      have INV := Lib.hid hinv
      clear hinv
      by_cases hlt : k < n
      · have hk2 : k < L.length := by have := HL.out; omega
        have hk3 : k < M.length := by have := HL2.out; omega
        obtain ⟨b, o, rfl, hin⟩ := HA.out (by omega)
        obtain ⟨b2, o2, rfl, hin2⟩ := HA2.out (by omega)
        have e0 := (hin.2 k hk2).1
        have e1 := (hin.2 k hk2).2
        have e2 := (hin2.2 k hk3).1
        have e3 := (hin2.2 k hk3).2
        have hst := Lib.hid (fun q => same_step hk2 hk3 INV.out q)
        have hno := Lib.hid (fun q => same_at (L := L) (M := M) (k := k) q)
        have hi0 : (0 : Int) ≤ (k : Int) := Int.natCast_nonneg _
        have hi1 : (k : Int) < (n : Int) := by omega
        clear hin hin2
        generalize L.getD k nz = r at *
        generalize M.getD k nz = s at *
        obtain ⟨i1, x1⟩ := r
        obtain ⟨i2, x2⟩ := s
        simp only at e0 e1 e2 e3
        by_cases qq : i1 = i2 ∧ x1 = x2
        · obtain ⟨rfl, rfl⟩ := qq
          have ST := Lib.hid (hst.out rfl)
          have hne : ∀ w, (binOp .neq 74 (.agg #[.int .i64 i1, .int .i64 x1]) (.agg #[.int .i64 i1, .int .i64 x1])).run Tryz.prog w = .ok (.bool false) w := fun w => by rw [run_neq_nodes]; simp
          clear hst hno
          go_wp2_with fail
          go_quiet (fail)
          go_wp2_with fail
          go_roundw
          case rel => exact ⟨k + 1, _, by omega, by go_num, ST.out, rfl⟩
          case measure => simp [intOf]; omega
        · have NO := Lib.hid (hno.out (fun e => qq (by injection e with e1 e2; exact ⟨e1, e2⟩)))
          have hne : ∀ w, (binOp .neq 74 (.agg #[.int .i64 i1, .int .i64 x1]) (.agg #[.int .i64 i2, .int .i64 x2])).run Tryz.prog w = .ok (.bool true) w := fun w => by rw [run_neq_nodes]; simp; omega
          clear hst hno
          go_wp2_with fail
          go_quiet (fail)
          go_wp2_with fail
          go_ret
          exact same_post NO.out ⟨_, World.drewN_drewN ..⟩
      · go_wp2_with fail
        go_ret
        exact same_post (same_end (by rw [← HL.out, ← HL2.out]) (by have q := INV.out; rwa [show k = L.length by have := HL.out; omega] at q)) ⟨_, rfl⟩
  · have hno := Lib.hid (same_len (L := L) (M := M) (by rw [← HL.out, ← HL2.out]; exact hll))
    have hll' : ((n : Int) != (n2 : Int)) = true := by rw [bne_iff_ne]; omega
    go_enter Tryz.func33, Tryz.ntmps33
    go_wp2_with fail
    go_ret
    exact same_post hno.out ⟨0, rfl⟩
set_option maxHeartbeats 3200000 in
theorem rRight_any (l : Int) (A : Option Addr) (n c : Nat) (L : List Nd) (w : World) (h : NodesAt w (.slice A n c) L) (hB : NBds L) (hn : n ≤ 1000000) (L0 : -9223372036854775808 ≤ l) (L1 : l ≤ 9223372036854775807) :
    Calls Tryz.prog 47 #[.int .i64 l, .slice A n c] w (RightPost l L w) := by
  have HN := Lib.hid h
  obtain ⟨hlen, hlc, hcm, hat⟩ := nodes_cells h
  have HL := Lib.hid hlen
  have HA := Lib.hid hat
  have HB := Lib.hid hB
  clear hlen hat hB h hlc hcm
  go_enter Tryz.func47, Tryz.ntmps47
  go_wp2_with fail
  go_loopw [5] (fun i wr => ∃ (k q : Nat), k ≤ n ∧ i = .int .i64 k ∧ RInv l L k ∧ wr = w.drewN q) (fun i _ => n - (intOf i).toNat)
  case atStart => exact ⟨0, 0, by omega, rfl, rinv_zero l L, rfl⟩
  case round =>
    rename_i wr
    obtain ⟨k, q, hk, rfl, hinv, hw⟩ := hrel
    have INV := Lib.hid hinv
    have hcw : Hid (∀ a, wr.cell? a = w.cell? a) := fun a => by rw [hw]; rfl
    have hbw : Below w.heap.size w wr := by rw [hw]; exact drewN_below (Below.refl ..) _
    have HW := Lib.hid hw
    clear hinv hw
    by_cases hlt : k < n
    · have hk2 : k < L.length := by have := HL.out; omega
      obtain ⟨b, o, rfl, hin⟩ := HA.out (by omega)
      have e0 := (hcw.out _).trans (hin.2 k hk2).1
      have e1 := (hcw.out _).trans (hin.2 k hk2).2
      have hbd := nbds_at HB.out hk2
      obtain ⟨⟨b0, b1⟩, b2, b3⟩ := hbd
      have hst := Lib.hid (fun q0 q1 q2 => rinv_step hk2 INV.out q0 q1 q2)
      have hno := Lib.hid (fun q => rinv_stop (l := l) (L := L) hk2 q)
      have hla : k = 0 ∨ ∃ j, k = j + 1 ∧ wr.cell? ⟨b, o + j * 2, none⟩ = some (.int .i64 (lastN L k)) := by
        cases k with
        | zero => exact .inl rfl
        | succ j => exact .inr ⟨j, rfl, (hcw.out _).trans (hin.2 j (by omega)).1⟩
      have hlz : Hid (k = 0 → lastN L k = 0) := fun e => by subst e; rfl
      have hi0 : (0 : Int) ≤ (k : Int) := Int.natCast_nonneg _
      have hi1 : (k : Int) < (n : Int) := by omega
      clear hin
      generalize L.getD k nz = r at *
      obtain ⟨id, x⟩ := r
      simp only at e0 e1 b0 b1 b2 b3
      generalize lastN L k = T at *
      cases q2 : rightB l id
      · have NO := Lib.hid (roll_no (hno.out (.inr (.inr q2))))
        clear hno hst hla
        go_wp2_with fail
        go_quiet ((go_at_call 58; exact Calls.quiet_of_same ((rright_any _ _ _ L0 L1 b0 b1).mono fun _ _ ⟨a, b⟩ => ⟨a, b.symm⟩)))
        go_wp2_with fail
        go_ret
        exact right_post NO.out (drewN_below hbw _)
      · by_cases q1 : x < 1
        · have NO := Lib.hid (roll_no (hno.out (.inr (.inl q1))))
          have q1' : decide (x < 1) = true := by simpa using q1
          clear hno hst hla
          go_wp2_with fail
          go_quiet ((go_at_call 58; exact Calls.quiet_of_same ((rright_any _ _ _ L0 L1 b0 b1).mono fun _ _ ⟨a, b⟩ => ⟨a, b.symm⟩)))
          go_wp2_with fail
          go_ret
          exact right_post NO.out (drewN_below hbw _)
        · have q1' : decide (x < 1) = false := by simpa using q1
          rcases hla with rfl | ⟨j, hj, e2⟩
          · simp only [Nat.zero_mul, Nat.add_zero] at e0 e1
            have ST := Lib.hid (hst.out (by have := hlz.out rfl; have := right_pos q2; show T < id; omega) (by show 1 ≤ x; omega) q2)
            clear hno hst
            go_wp2_with fail
            go_quiet ((go_at_call 58; exact Calls.quiet_of_same ((rright_any _ _ _ L0 L1 b0 b1).mono fun _ _ ⟨a, b⟩ => ⟨a, b.symm⟩)))
            go_wp2_with fail
            go_roundw
            case rel => exact ⟨1, _, by omega, by go_num, ST.out, by rw [HW.out, World.drewN_drewN]⟩
            case measure => simp [intOf]; omega
          · have hj1 : (k : Int) - 1 = (j : Int) := by omega
            have hk0 : 0 < k := by omega
            have hjn : (j : Int) < (n : Int) := by omega
            have hj0 : (0 : Int) ≤ (j : Int) := Int.natCast_nonneg _
            have w1 : IntKind.i64.wrap ((k : Int) - 1) = (j : Int) := by rw [IntWalk.i64_in _ (by omega)]; exact hj1
            clear hj hlz
            by_cases q0 : id ≤ T
            · have NO := Lib.hid (roll_no (hno.out (.inl q0)))
              have q0' : decide (id ≤ T) = true := by simpa using q0
              clear hno hst hj1
              go_wp2_with fail
              go_quiet ((go_at_call 58; exact Calls.quiet_of_same ((rright_any _ _ _ L0 L1 b0 b1).mono fun _ _ ⟨a, b⟩ => ⟨a, b.symm⟩)))
              go_wp2_with fail
              go_ret
              exact right_post NO.out (drewN_below hbw _)
            · have ST := Lib.hid (hst.out (by show T < id; omega) (by show 1 ≤ x; omega) q2)
              have q0' : decide (id ≤ T) = false := by simpa using q0
              clear hno hst hj1
              go_wp2_with fail
              go_quiet ((go_at_call 58; exact Calls.quiet_of_same ((rright_any _ _ _ L0 L1 b0 b1).mono fun _ _ ⟨a, b⟩ => ⟨a, b.symm⟩)))
              clear w1
              go_wp2_with fail
              go_roundw
              case rel => exact ⟨k + 1, _, by omega, by go_num, ST.out, by rw [HW.out, World.drewN_drewN]⟩
              case measure => simp [intOf]; omega
    · have INV2 := Lib.hid (show RInv l L L.length from by have q := INV.out; rwa [show k = L.length by have := HL.out; omega] at q)
      have HN2 := Lib.hid (HN.out.below hbw)
      have hsz := hbw.size
      cases ht : totB L
      · go_wp2_with (go_at_call 52; refine (rTotal_any _ _ _ _ _ HN2.out HB.out hn).mono ?_; rintro e w1 ⟨rfl, hb1⟩)
        go_ret
        exact right_post (by rw [roll_ends INV2.out _ _ rfl rfl, ht]; rfl) (hbw.trans (hb1.mono hsz))
      · go_wp2_with (first | (go_at_call 52; refine (rTotal_any _ _ _ _ _ HN2.out HB.out hn).mono ?_; rintro e w1 ⟨rfl, hb1⟩) | (go_at_call 78; refine (rIs_any _ _ L0 L1).mono ?_; rintro e w1 ⟨rfl, rfl⟩))
        go_ret
        exact right_post (by rw [roll_ends INV2.out _ _ rfl rfl, ht]; rfl) (hbw.trans (hb1.mono hsz))

end Go.Proofs.YtfilmblpikcpnaaGreat
