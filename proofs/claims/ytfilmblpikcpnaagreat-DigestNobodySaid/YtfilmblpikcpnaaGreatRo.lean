/- The project's package roll: Total, Find, Right, Same. -/
import Derived.Test.YtfilmblpikcpnaaGreatRk
import Derived.Test.YtfilmblpikcpnaaGreatTw
import Derived.Test.YtfilmblpikcpnaaGreatPln
import Derived.Test.YtfilmblpikcpnaaGreatMmy
import Derived.Deep.QuietTactic
import Derived.BigQuiet
import Derived.Laws.StructEq
namespace Go.Proofs.YtfilmblpikcpnaaGreat
set_option linter.unusedVariables false
open Go.RowKit

/-- one round more: the box of the round's node, and what was called -/
theorem round_below {W wr w1 : World} {o : Obj} (hb : Below W.heap.size W wr) (hb1 : Below (wr.alloc o).heap.size (wr.alloc o) w1) : Below W.heap.size W w1 :=
  (hb.alloc hb.size _).trans (hb1.mono (by have := hb.size; simp; omega))
def TotPost (L : List Nd) (w : World) (e : Ending) (w' : World) : Prop := e = .returned (.tuple #[.int .i64 (totN L), .bool (totB L)]) ∧ Below w.heap.size w w'
theorem tot_post {L : List Nd} {w w' : World} {n : Int} {b : Bool} (h : totN L = n ∧ totB L = b) (hb : Below w.heap.size w w') : TotPost L w (.returned (.tuple #[.int .i64 n, .bool b])) w' := by
  obtain ⟨rfl, rfl⟩ := h
  exact ⟨rfl, hb⟩
theorem tot_nil : TotC ([] : List Nd) := ⟨fun n h => by simp at h, by simp [sumC]⟩
set_option maxHeartbeats 1600000 in
theorem total_any (A : Option Addr) (n c : Nat) (L : List Nd) (w : World) (h : NodesAt w (.slice A n c) L) (hB : NBds L) (hn : n ≤ 1000000) :
    Calls Tryz.prog 107 #[.slice A n c] w (TotPost L w) := by
  obtain ⟨hlen, hlc, hcm, hat⟩ := nodes_cells h
  have HL := Lib.hid hlen
  have HA := Lib.hid hat
  have HB := Lib.hid hB
  clear hlen hat hB h hlc hcm
  go_enter Tryz.func107, Tryz.ntmps107
  go_wp2_with fail
  go_loopw [4, 11] (fun t i wr => ∃ k : Nat, k ≤ n ∧ i = .int .i64 k ∧ t = .int .i64 (sumC (L.take k)) ∧ TotC (L.take k) ∧ Below w.heap.size w wr) (fun _ i _ => n - (intOf i).toNat)
  case atStart => exact ⟨0, by omega, rfl, rfl, tot_nil, Below.refl ..⟩
  case round =>
    rename_i wr
    obtain ⟨k, hk, rfl, rfl, htot, hb⟩ := hrel
    have TC := Lib.hid htot
    have t0 : 0 ≤ sumC (L.take k) := sumC_nonneg htot.1
    have t1 : sumC (L.take k) ≤ 72057594037927935 := htot.2
    clear htot
    by_cases hlt : k < n
    · have hk2 : k < L.length := by have := HL.out; omega
      obtain ⟨b, o, rfl, hin⟩ := HA.out (by omega)
      obtain ⟨e0, e1⟩ := (hin.below hb hin.1).2 k hk2
      have hbd := nbds_at HB.out hk2
      obtain ⟨⟨b0, b1⟩, b2, b3⟩ := hbd
      have hst := Lib.hid (fun q0 q1 => tot_step hk2 TC.out q0 q1)
      have hno := Lib.hid (fun q => tot_stop (L := L) hk2 q)
      have hbl := hin.1
      have hsz := hb.size
      clear hin
      generalize L.getD k nz = r at *
      obtain ⟨id, x⟩ := r
      simp only at e0 e1 b0 b1 b2 b3
      generalize hT : sumC (L.take k) = T at *
      have HT := Lib.hid hT
      clear hT
      by_cases q : 0 ≤ x ∧ T + x ≤ 72057594037927935
      · obtain ⟨q0, q1⟩ := q
        obtain ⟨s1, s2⟩ := sum_yes (a := T) (b := x) (by omega)
        go_wp2_with (go_at_call 122; refine (add_any _ _ _ (by omega) (by omega) (by omega) (by omega)).mono ?_; rintro e w1 ⟨rfl, hb1⟩)
        go_roundw
        case rel => exact ⟨k + 1, by omega, by go_num, by rw [(hst.out q0 q1).2], (hst.out q0 q1).1, round_below hb hb1⟩
        case measure => simp [intOf]; omega
      · have NO := Lib.hid (tot_no (hno.out (by omega)))
        by_cases q0 : 0 ≤ x ∧ T + x ≤ 9223372036854775807
        · obtain ⟨s1, s2⟩ := sum_yes (a := T) (b := x) (by omega)
          have q1 : 72057594037927935 < T + x := by omega
          clear q hst hno
          go_wp2_with (go_at_call 122; refine (add_any _ _ _ (by omega) (by omega) (by omega) (by omega)).mono ?_; rintro e w1 ⟨rfl, hb1⟩)
          go_ret2
          exact tot_post NO.out (round_below hb hb1)
        · obtain ⟨s1, s2⟩ := sum_no (a := T) (b := x) (by omega)
          clear q q0 hst hno
          go_wp2_with (go_at_call 122; refine (add_any _ _ _ (by omega) (by omega) (by omega) (by omega)).mono ?_; rintro e w1 ⟨rfl, hb1⟩)
          go_ret2
          exact tot_post NO.out (round_below hb hb1)
    · have hd : Hid (L.take k = L) := List.take_of_length_le (by have := HL.out; omega)
      have YES := Lib.hid (tot_yes (L := L) (by have q := TC.out; rw [hd] at q; exact q))
      go_wp2_with fail
      go_ret2
      exact tot_post ⟨by rw [YES.out.1, hd], YES.out.2⟩ hb
def FindPost (L : List Nd) (id : Int) (w : World) (e : Ending) (w' : World) : Prop := e = .returned (.int .i64 (findN L id)) ∧ Below w.heap.size w w'
theorem find_post {L : List Nd} {id x : Int} {w w' : World} (h : findN L id = x) (hb : Below w.heap.size w w') : FindPost L id w (.returned (.int .i64 x)) w' := by
  subst h
  exact ⟨rfl, hb⟩
theorem find_step {L : List Nd} {k : Nat} {id : Int} (hk : k < L.length) (h : ∀ n ∈ L.take k, n.1 ≠ id) (he : ¬ (L.getD k nz).1 = id) : ∀ n ∈ L.take (k + 1), n.1 ≠ id := by
  intro n hn
  rw [nd_take hk] at hn
  rcases List.mem_append.1 hn with hn | hn
  · exact h n hn
  · simp only [List.mem_singleton] at hn; subst hn; exact he
def RightPost (l : Int) (L : List Nd) (w : World) (e : Ending) (w' : World) : Prop := e = .returned (.bool (rollB l L)) ∧ Below w.heap.size w w'
theorem right_post {l : Int} {L : List Nd} {b : Bool} {w w' : World} (h : rollB l L = b) (hb : Below w.heap.size w w') : RightPost l L w (.returned (.bool b)) w' := by
  subst h
  exact ⟨rfl, hb⟩
set_option maxHeartbeats 1600000 in
theorem rollRight_any (l : Int) (A : Option Addr) (n c : Nat) (L : List Nd) (w : World) (h : NodesAt w (.slice A n c) L) (hB : NBds L) (hn : n ≤ 1000000) (L0 : -9223372036854775808 ≤ l) (L1 : l ≤ 9223372036854775807) :
    Calls Tryz.prog 73 #[.int .i64 l, .slice A n c] w (RightPost l L w) := by
  have HN := Lib.hid h
  obtain ⟨hlen, hlc, hcm, hat⟩ := nodes_cells h
  have HL := Lib.hid hlen
  have HA := Lib.hid hat
  have HB := Lib.hid hB
  clear hlen hat hB h hlc hcm
  have r1 := right_one l
  have R1 := Lib.hid r1
  clear r1
  go_enter Tryz.func73, Tryz.ntmps73
  go_wp2_with fail
  go_loopw [5, 12] (fun t i wr => ∃ k : Nat, k ≤ n ∧ i = .int .i64 k ∧ t = .int .i64 (lastN L k) ∧ RInv l L k ∧ Below w.heap.size w wr) (fun _ i _ => n - (intOf i).toNat)
  case atStart => exact ⟨0, by omega, rfl, rfl, rinv_zero l L, Below.refl ..⟩
  case round =>
    rename_i wr
    obtain ⟨k, hk, rfl, rfl, hinv, hb⟩ := hrel
    have INV := Lib.hid hinv
    clear hinv
    by_cases hlt : k < n
    · have hk2 : k < L.length := by have := HL.out; omega
      obtain ⟨b, o, rfl, hin⟩ := HA.out (by omega)
      obtain ⟨e0, e1⟩ := (hin.below hb hin.1).2 k hk2
      have hbd := nbds_at HB.out hk2
      obtain ⟨⟨b0, b1⟩, b2, b3⟩ := hbd
      have hst := Lib.hid (fun q0 q1 q2 => rinv_step hk2 INV.out q0 q1 q2)
      have hno := Lib.hid (fun q => rinv_stop (l := l) (L := L) hk2 q)
      have hla : Hid (lastN L (k + 1) = (L.getD k nz).1) := rfl
      have hbl := hin.1
      have hsz := hb.size
      clear hin
      generalize L.getD k nz = r at *
      obtain ⟨id, x⟩ := r
      simp only at e0 e1 b0 b1 b2 b3
      generalize lastN L k = T at *
      by_cases q0 : id ≤ T
      · have NO := Lib.hid (roll_no (hno.out (.inl q0)))
        clear hno hst
        go_wp2_with fail
        go_ret
        exact right_post NO.out (hb.alloc hb.size _)
      · by_cases q1 : x < 1
        · have NO := Lib.hid (roll_no (hno.out (.inr (.inl q1))))
          clear hno hst
          go_wp2_with fail
          go_ret
          exact right_post NO.out (hb.alloc hb.size _)
        · cases q2 : rightB l id
          · have NO := Lib.hid (roll_no (hno.out (.inr (.inr q2))))
            clear hno hst
            go_wp2_with (go_at_call 106; refine (right_any _ _ _ L0 L1 b0 b1).mono ?_; rintro e w1 ⟨rfl, rfl⟩)
            go_ret
            exact right_post NO.out (hb.alloc hb.size _)
          · have ST := Lib.hid (hst.out (by omega) (by omega) q2)
            clear hno hst
            go_wp2_with (go_at_call 106; refine (right_any _ _ _ L0 L1 b0 b1).mono ?_; rintro e w1 ⟨rfl, rfl⟩)
            go_roundw
            case rel => exact ⟨k + 1, by omega, by go_num, by rw [hla.out], ST.out, hb.alloc hb.size _⟩
            case measure => simp [intOf]; omega
    · have INV2 := Lib.hid (show RInv l L L.length from by have q := INV.out; rwa [show k = L.length by have := HL.out; omega] at q)
      have HN2 := Lib.hid (HN.out.below hb)
      cases ht : totB L
      · go_wp2_with (go_at_call 107; refine (total_any _ _ _ _ _ HN2.out HB.out hn).mono ?_; rintro e w1 ⟨rfl, hb1⟩)
        go_ret
        exact right_post (by rw [roll_ends INV2.out _ _ rfl rfl, ht]; rfl) (hb.trans (hb1.mono hb.size))
      · go_wp2_with (first | (go_at_call 107; refine (total_any _ _ _ _ _ HN2.out HB.out hn).mono ?_; rintro e w1 ⟨rfl, hb1⟩) | (go_at_call 106; refine (right_any _ _ _ L0 L1 (by omega) (by omega)).mono ?_; rintro e w1 ⟨rfl, rfl⟩))
        go_ret
        exact right_post (by rw [roll_ends INV2.out _ _ rfl R1.out, ht]; rfl) (hb.trans (hb1.mono hb.size))
/-- two nodes held against each other -/
theorem run_neq_nodes (i1 x1 i2 x2 : Int) (w : World) : (binOp .neq 74 (.agg #[.int .i64 i1, .int .i64 x1]) (.agg #[.int .i64 i2, .int .i64 x2])).run Tryz.prog w = .ok (.bool (!(i1 == i2 && x1 == x2))) w := by
  have i3 := fun (a b : Int) (w : World) => run_equalIn_int (P := Tryz.prog) w 9998 3 .i64 .i64 a b Tryz.underlying3
  rw [run_neq_struct, run_equalIn_agg _ _ _ _ _ (by kernel_rfl) (by kernel_rfl)]
  unfold Program.fieldsOf
  rw [Tryz.underlying74]
  have p0 : ∀ (a b : Value) w, (part 3 #[a, b] 0).run Tryz.prog w = .ok a w := fun _ _ _ => by kernel_rfl
  have p1 : ∀ (a b : Value) w, (part 3 #[a, b] 1).run Tryz.prog w = .ok b w := fun _ _ _ => by kernel_rfl
  simp only [Op.eqFields, Sem.run_bind, Sem.run_ite, p0, p1, Result.andThen_ok, i3]
  by_cases h1 : i1 = i2 <;> by_cases h2 : x1 = x2 <;> simp [h1, h2, Result.andThen]
def SamePost (L M : List Nd) (w : World) (e : Ending) (w' : World) : Prop := e = .returned (.bool (sameB L M)) ∧ ∃ q, w' = w.drewN q
theorem same_post {L M : List Nd} {b : Bool} {w w' : World} (h : sameB L M = b) (hb : ∃ q, w' = w.drewN q) : SamePost L M w (.returned (.bool b)) w' := by
  subst h
  exact ⟨rfl, hb⟩
set_option maxHeartbeats 1600000 in
theorem equal_any (A A2 : Option Addr) (n c n2 c2 : Nat) (L M : List Nd) (w : World) (h : NodesAt w (.slice A n c) L) (h2 : NodesAt w (.slice A2 n2 c2) M) (hn : n ≤ 1000000) (hn2 : n2 ≤ 1000000) :
    Calls Tryz.prog 120 #[.slice A n c, .slice A2 n2 c2] w (SamePost L M w) := by
  obtain ⟨hlen, hlc, hcm, hat⟩ := nodes_cells h
  obtain ⟨hlen2, hlc2, hcm2, hat2⟩ := nodes_cells h2
  have HL := Lib.hid hlen
  have HA := Lib.hid hat
  have HL2 := Lib.hid hlen2
  have HA2 := Lib.hid hat2
  clear hlen hat h hlc hcm hlen2 hat2 h2 hlc2 hcm2
  by_cases hll : n = n2
  · subst hll
    go_enter Tryz.func120, Tryz.ntmps120
    go_wp2_with fail
    go_loopw [13] (fun i wr => ∃ (k q : Nat), k ≤ n ∧ i = .int .i64 k ∧ L.take k = M.take k ∧ wr = w.drewN q) (fun i _ => n - (intOf i).toNat)
    case atStart => exact ⟨0, 0, by omega, rfl, rfl, rfl⟩
    case round =>
      rename_i wr
      obtain ⟨k, q, hk, rfl, hinv, rfl⟩ := hrel
      have INV := Lib.hid hinv
      clear hinv
      by_cases hlt : k < n
      · have hk2 : k < L.length := by have := HL.out; omega
        have hk3 : k < M.length := by have := HL2.out; omega
        obtain ⟨b, o, rfl, hin⟩ := HA.out (by omega)
        obtain ⟨b2, o2, rfl, hin2⟩ := HA2.out (by omega)
        have e0 := (hin.2 k hk2).1
        have e1 := (hin.2 k hk2).2
        have e2 := (hin2.2 k hk3).1
        have e3 := (hin2.2 k hk3).2
        have hst := Lib.hid (fun q => same_step hk2 hk3 INV.out q)
        have hno := Lib.hid (fun q => same_at (L := L) (M := M) (k := k) q)
        have hi0 : (0 : Int) ≤ (k : Int) := Int.natCast_nonneg _
        have hi1 : (k : Int) < (n : Int) := by omega
        clear hin hin2
        generalize L.getD k nz = r at *
        generalize M.getD k nz = s at *
        obtain ⟨i1, x1⟩ := r
        obtain ⟨i2, x2⟩ := s
        simp only at e0 e1 e2 e3
        by_cases qq : i1 = i2 ∧ x1 = x2
        · obtain ⟨rfl, rfl⟩ := qq
          have ST := Lib.hid (hst.out rfl)
          have hne : ∀ w, (binOp .neq 74 (.agg #[.int .i64 i1, .int .i64 x1]) (.agg #[.int .i64 i1, .int .i64 x1])).run Tryz.prog w = .ok (.bool false) w := fun w => by rw [run_neq_nodes]; simp
          clear hst hno
          go_wp2_with fail
          go_quiet (fail)
          go_wp2_with fail
          go_roundw
          case rel => exact ⟨k + 1, _, by omega, by go_num, ST.out, rfl⟩
          case measure => simp [intOf]; omega
        · have NO := Lib.hid (hno.out (fun e => qq (by injection e with e1 e2; exact ⟨e1, e2⟩)))
          have hne : ∀ w, (binOp .neq 74 (.agg #[.int .i64 i1, .int .i64 x1]) (.agg #[.int .i64 i2, .int .i64 x2])).run Tryz.prog w = .ok (.bool true) w := fun w => by rw [run_neq_nodes]; simp; omega
          clear hst hno
          go_wp2_with fail
          go_quiet (fail)
          go_wp2_with fail
          go_ret
          exact same_post NO.out ⟨_, World.drewN_drewN ..⟩
      · go_wp2_with fail
        go_ret
        exact same_post (same_end (by rw [← HL.out, ← HL2.out]) (by have q := INV.out; rwa [show k = L.length by have := HL.out; omega] at q)) ⟨_, rfl⟩
  · have hno := Lib.hid (same_len (L := L) (M := M) (by rw [← HL.out, ← HL2.out]; exact hll))
    have hll' : ((n : Int) != (n2 : Int)) = true := by rw [bne_iff_ne]; omega
    go_enter Tryz.func120, Tryz.ntmps120
    go_wp2_with fail
    go_ret
    exact same_post hno.out ⟨0, rfl⟩
set_option maxHeartbeats 400000 in
theorem rollSame_any (A A2 : Option Addr) (n c n2 c2 : Nat) (L M : List Nd) (w : World) (h : NodesAt w (.slice A n c) L) (h2 : NodesAt w (.slice A2 n2 c2) M) (hn : n ≤ 1000000) (hn2 : n2 ≤ 1000000) :
    Calls Tryz.prog 92 #[.slice A n c, .slice A2 n2 c2] w (SamePost L M w) := by
  have H1 := Lib.hid h
  have H2 := Lib.hid h2
  clear h h2
  go_enter Tryz.func92, Tryz.ntmps92
  go_wp2_with (go_at_call 120; refine (equal_any _ _ _ _ _ _ _ _ _ H1.out H2.out hn hn2).mono ?_; rintro e w1 ⟨rfl, q, rfl⟩)
  go_ret
  exact ⟨rfl, q, rfl⟩

end Go.Proofs.YtfilmblpikcpnaaGreat
