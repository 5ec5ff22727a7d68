/- The library's slices.Equal, slices.Grow and slices.Concat at readings: as at nodes (made of those texts by exchange of names). -/
import Derived.Test.YtfleaaokbjgljaaMmy
import Derived.Test.YtfleaaokbjgljaaPln
import Derived.Test.YtfleaaokbjgljaaRk
import Derived.Lib.SliceRun
import Derived.Lib.AppendZeros
import Derived.Laws.AppendOwnNone
import Derived.Laws.StructEq
import Derived.Deep.QuietTactic
import Derived.BigQuiet
import Derived.Deep.RegionHeld3
import Derived.Deep.RegionWith
import Derived.Deep.DrawnRows
import Derived.WalkSpells
import Derived.StillTactics
namespace Go.Proofs.Ytfleaaokbjgljaa
set_option linter.unusedVariables false
open Go.RowKit
attribute [local go_sem ↓] Go.wp_at_zero Go.wp_at_succ

theorem read_info : (Try.prog.info? 31).map (fun i => (i.zero, i.size, i.bytes)) = some (some (.agg #[.int .i64 0, .int .i64 0]), 2, 16) := by kernel_rfl
def RdOwn (S : List Nd) (w : World) (e : Ending) (w' : World) : Prop := ∃ v, e = .returned v ∧ OwnNd 31 w' w.heap.size v S ∧ Below w.heap.size w w'
def RdPost (S : List Nd) (w : World) (e : Ending) (w' : World) : Prop := ∃ v, e = .returned v ∧ NodesAt w' v S ∧ Below w.heap.size w w'
theorem run_neq_reads (i1 x1 i2 x2 : Int) (w : World) : (binOp .neq 31 (.agg #[.int .i64 i1, .int .i64 x1]) (.agg #[.int .i64 i2, .int .i64 x2])).run Try.prog w = .ok (.bool (!(i1 == i2 && x1 == x2))) w := by
  have i3 := fun (a b : Int) (w : World) => run_equalIn_int (P := Try.prog) w 9998 3 .i64 .i64 a b Try.underlying3
  rw [run_neq_struct, run_equalIn_agg _ _ _ _ _ (by kernel_rfl) (by kernel_rfl)]
  unfold Program.fieldsOf
  rw [Try.underlying31]
  have p0 : ∀ (a b : Value) w, (part 3 #[a, b] 0).run Try.prog w = .ok a w := fun _ _ _ => by kernel_rfl
  have p1 : ∀ (a b : Value) w, (part 3 #[a, b] 1).run Try.prog w = .ok b w := fun _ _ _ => by kernel_rfl
  simp only [Op.eqFields, Sem.run_bind, Sem.run_ite, p0, p1, Result.andThen_ok, i3]
  by_cases h1 : i1 = i2 <;> by_cases h2 : x1 = x2 <;> simp [h1, h2, Result.andThen]
def RSame (L M : List Nd) (w : World) (e : Ending) (w' : World) : Prop := e = .returned (.bool (sameB L M)) ∧ ∃ q, w' = w.drewN q
theorem rsame_post {L M : List Nd} {b : Bool} {w w' : World} (h : sameB L M = b) (hb : ∃ q, w' = w.drewN q) : RSame L M w (.returned (.bool b)) w' := by
  subst h
  exact ⟨rfl, hb⟩
set_option maxHeartbeats 1600000 in
theorem rdEqual_any (A A2 : Option Addr) (n c n2 c2 : Nat) (L M : List Nd) (w : World) (h : NodesAt w (.slice A n c) L) (h2 : NodesAt w (.slice A2 n2 c2) M) (hn : n ≤ 1000000) (hn2 : n2 ≤ 1000000) :
    Calls Try.prog 45 #[.slice A n c, .slice A2 n2 c2] w (RSame L M w) := by
  obtain ⟨hlen, hlc, hcm, hat⟩ := nodes_cells h
  obtain ⟨hlen2, hlc2, hcm2, hat2⟩ := nodes_cells h2
  have HL := Lib.hid hlen
  have HA := Lib.hid hat
  have HL2 := Lib.hid hlen2
  have HA2 := Lib.hid hat2
  clear hlen hat h hlc hcm hlen2 hat2 h2 hlc2 hcm2
  by_cases hll : n = n2
  · subst hll
    go_enter Try.func45, Try.ntmps45
    go_wp2_with fail
    go_loopw [13] (fun i wr => ∃ (k q : Nat), k ≤ n ∧ i = .int .i64 k ∧ L.take k = M.take k ∧ wr = w.drewN q) (fun i _ => n - (intOf i).toNat)
    case atStart => exact ⟨0, 0, by omega, rfl, rfl, rfl⟩
    case round =>
      rename_i wr
      obtain ⟨k, q, hk, rfl, hinv, rfl⟩ := hrel
      have INV := Lib.hid hinv
      clear hinv
      by_cases hlt : k < n
      · have hk2 : k < L.length := by have := HL.out; omega
        have hk3 : k < M.length := by have := HL2.out; omega
        obtain ⟨b, o, rfl, hin⟩ := HA.out (by omega)
        obtain ⟨b2, o2, rfl, hin2⟩ := HA2.out (by omega)
        have e0 := (hin.2 k hk2).1
        have e1 := (hin.2 k hk2).2
        have e2 := (hin2.2 k hk3).1
        have e3 := (hin2.2 k hk3).2
        have hst := Lib.hid (fun q => same_step hk2 hk3 INV.out q)
        have hno := Lib.hid (fun q => same_at (L := L) (M := M) (k := k) q)
        have hi0 : (0 : Int) ≤ (k : Int) := Int.natCast_nonneg _
        have hi1 : (k : Int) < (n : Int) := by omega
        clear hin hin2
        generalize L.getD k nz = r at *
        generalize M.getD k nz = s at *
        obtain ⟨i1, x1⟩ := r
        obtain ⟨i2, x2⟩ := s
        simp only at e0 e1 e2 e3
        by_cases qq : i1 = i2 ∧ x1 = x2
        · obtain ⟨rfl, rfl⟩ := qq
          have ST := Lib.hid (hst.out rfl)
          have hne : ∀ w, (binOp .neq 31 (.agg #[.int .i64 i1, .int .i64 x1]) (.agg #[.int .i64 i1, .int .i64 x1])).run Try.prog w = .ok (.bool false) w := fun w => by rw [run_neq_reads]; simp
          clear hst hno
          go_wp2_with fail
          go_quiet (fail)
          go_wp2_with fail
          go_roundw
          case rel => exact ⟨k + 1, _, by omega, by go_num, ST.out, rfl⟩
          case measure => simp [intOf]; omega
        · have NO := Lib.hid (hno.out (fun e => qq (by injection e with e1 e2; exact ⟨e1, e2⟩)))
          have hne : ∀ w, (binOp .neq 31 (.agg #[.int .i64 i1, .int .i64 x1]) (.agg #[.int .i64 i2, .int .i64 x2])).run Try.prog w = .ok (.bool true) w := fun w => by rw [run_neq_reads]; simp; omega
          clear hst hno
          go_wp2_with fail
          go_quiet (fail)
          go_wp2_with fail
          go_ret
          exact rsame_post NO.out ⟨_, World.drewN_drewN ..⟩
      · go_wp2_with fail
        go_ret
        exact rsame_post (same_end (by rw [← HL.out, ← HL2.out]) (by have q := INV.out; rwa [show k = L.length by have := HL.out; omega] at q)) ⟨_, rfl⟩
  · have hno := Lib.hid (same_len (L := L) (M := M) (by rw [← HL.out, ← HL2.out]; exact hll))
    have hll' : ((n : Int) != (n2 : Int)) = true := by rw [bne_iff_ne]; omega
    go_enter Try.func45, Try.ntmps45
    go_wp2_with fail
    go_ret
    exact rsame_post hno.out ⟨0, rfl⟩
set_option maxHeartbeats 1600000 in
theorem rdGrow_any (x : Int) (w : World) (h0 : 0 ≤ x) (h1 : x ≤ 2000000) :
    Calls Try.prog 56 #[.slice none 0 0, .int .i64 x] w fun e w' => ∃ v, e = .returned v ∧ OwnNd 31 w' w.heap.size v [] ∧ Below w.heap.size w w' := by
  obtain ⟨n, rfl⟩ := Int.eq_ofNat_of_zero_le h0
  obtain ⟨i0, hi, hz0, hz1, hz2⟩ := info_parts read_info
  clear h0
  rcases Nat.eq_zero_or_pos n with h | h
  · subst h
    go_enter Try.func56, Try.ntmps56
    go_wp2_with fail
    go_ret
    exact ⟨_, rfl, ownNd_nil .., Below.refl ..⟩
  · have hrz := Lib.run_append_nil_zeros (P := Try.prog) w 22 3 22 31 i0 (.agg #[.int .i64 0, .int .i64 0]) .i64 .i64 Try.underlying22 Try.underlying3 hi hz0 n h (by rw [hz1]; omega) (by omega) (by rw [hz2]; omega)
    have hrz' : (Builtin.append_ #[22, 3] 22 #[.slice none 0 0, .int .i64 (n : Int)]).run Try.prog w = .ok (.slice (some ⟨w.heap.size, 0, none⟩) n (grownCap w n 0 31)) (w.drew.alloc (.cells (Builtin.zeroCells (Value.cells (.agg #[.int .i64 0, .int .i64 0])) n ++ Builtin.zeroCells (Value.cells (.agg #[.int .i64 0, .int .i64 0])) (grownCap w n 0 31 - n)) 31)) := hrz
    have HR := Lib.hid hrz'
    have hcap := grownCap_ge w n 0 31
    have hcm := grownCap_le_maxLen w n 0 31 (by unfold maxLen; omega)
    have HO := Lib.hid (World.ownsRow_made (base := w.heap.size) (e := 31) (size := 2) w.drew (Builtin.zeroCells (Value.cells (.agg #[.int .i64 0, .int .i64 0])) n ++ Builtin.zeroCells (Value.cells (.agg #[.int .i64 0, .int .i64 0])) (grownCap w n 0 31 - n)) (grownCap w n 0 31) (Nat.le_refl _) hcm (by
      rw [Array.size_append, size_zeroCells, size_zeroCells]
      have e : (Value.cells (.agg #[.int .i64 0, .int .i64 0])).size = 2 := rfl
      rw [e]
      omega))
    have hs0 := sl_to (P := Try.prog) Try.underlying22 hi hz1 none 0 0 0 (Nat.le_refl _)
    clear hrz hrz'
    generalize (Builtin.zeroCells (Value.cells (.agg #[.int .i64 0, .int .i64 0])) n ++ Builtin.zeroCells (Value.cells (.agg #[.int .i64 0, .int .i64 0])) (grownCap w n 0 31 - n)) = Z at *
    generalize grownCap w n 0 31 = cap at *
    have hs1 := sl_to (P := Try.prog) Try.underlying22 hi hz1 (some ⟨w.heap.size, 0, none⟩) n cap 0 (Nat.zero_le _)
    go_enter Try.func56, Try.ntmps56
    go_wp2_with (at_builtin; refine Lib.wpList_append_run _ rfl _ _ _ _ rfl _ _ rfl rfl _ _ HR.out ?_)
    go_ret
    exact ⟨_, rfl, HO.out, ((Below.refl _ _).drew).alloc (Nat.le_refl _) _⟩
set_option maxHeartbeats 3200000 in
theorem rdConcat_any (N : Nat) (A1 A2 : Option Addr) (n1 c1 n2 c2 : Nat) (L M : List Nd) (w : World) (h1 : NodesAt w (.slice A1 n1 c1) L) (h2 : NodesAt w (.slice A2 n2 c2) M) (hn1 : n1 ≤ 1000000) (hn2 : n2 ≤ 1000000)
    (e0 : w.cell? ⟨N, 0, none⟩ = some (.slice A1 n1 c1)) (e1 : w.cell? ⟨N, 1, none⟩ = some (.slice A2 n2 c2)) :
    Calls Try.prog 53 #[.slice (some ⟨N, 0, none⟩) 2 2] w (RdOwn (L ++ M) w) := by
  obtain ⟨i0, hi, hz0, hz1, hz2⟩ := info_parts read_info
  have HL := Lib.hid (nodes_cells h1).1
  have HM := Lib.hid (nodes_cells h2).1
  have H1 := Lib.hid h1
  have H2 := Lib.hid h2
  have NL := Lib.hid (show (nods L).length = n1 * 2 by rw [nods_len, (nodes_cells h1).1])
  have NM := Lib.hid (show (nods M).length = n2 * 2 by rw [nods_len, (nodes_cells h2).1])
  have hL2 : L.length ≤ 1000000 := by rw [← (nodes_cells h1).1]; exact hn1
  have hN := World.block_lt_of_cell? w _ e0
  dsimp only at hN
  clear h1 h2
  go_enter Try.func53, Try.ntmps53
  go_wp2_with fail
  go_loop [3, 11] (fun s i => (i = .int .i64 0 ∧ s = .int .i64 0) ∨ (i = .int .i64 1 ∧ s = .int .i64 (n1 : Int)) ∨ (i = .int .i64 2 ∧ s = .int .i64 ((n1 : Int) + (n2 : Int)))) (fun _ i => 2 - (intOf i).toNat)
  case atStart => exact .inl ⟨rfl, rfl⟩
  case round =>
    rcases hrel with ⟨rfl, rfl⟩ | ⟨rfl, rfl⟩ | ⟨rfl, rfl⟩
    · go_wp2_with fail
      go_round
      case rel => exact .inr (.inl ⟨rfl, rfl⟩)
      case measure => simp [intOf]
    · go_wp2_with fail
      go_round
      case rel => exact .inr (.inr ⟨rfl, rfl⟩)
      case measure => simp [intOf]
    · go_wp2_with fail
      refine (rdGrow_any _ _ (by omega) (by omega)).mono ?_
      rintro e w1 ⟨v, rfl, hown0, hb0⟩
      go_wp2_with fail
      go_loopw [6, 27] (fun v i wr => ∃ X, OwnNd 31 wr w.heap.size v X ∧ Below w.heap.size w wr ∧ ((i = .int .i64 0 ∧ [] = X) ∨ (i = .int .i64 1 ∧ L = X) ∨ (i = .int .i64 2 ∧ L ++ M = X))) (fun _ i _ => 2 - (intOf i).toNat)
      case atStart => exact ⟨[], hown0, hb0, .inl ⟨rfl, rfl⟩⟩
      case round =>
        rename_i wr
        obtain ⟨X, hown, hb, hcase⟩ := hrel
        have f0 := (hb.cell (p := ⟨N, 0, none⟩) hN).trans e0
        have f1 := (hb.cell (p := ⟨N, 1, none⟩) hN).trans e1
        rcases hcase with ⟨rfl, rfl⟩ | ⟨rfl, rfl⟩ | ⟨rfl, rfl⟩
        · have OWN := Lib.hid hown
          clear hown hown0
          cases A1 with
          | none =>
            have hnn := nodes_none H1.out
            rw [hnn.1, hnn.2.1] at f0
            clear hnn
            obtain ⟨A3, m3, c3, rfl⟩ := ownNd_slice OWN.out
            go_wp2_with (at_builtin; refine wpList_append_own_none rfl (.tmp 31) (.tmp 32) 22 rfl w.heap.size 31 i0 2 Try.underlying22 hi _ 0 [] rfl OWN.out rfl ?_)
            go_roundw
            case rel => exact ⟨L, by have q := OWN.out; rw [(nodes_none H1.out).2.2]; exact q, hb, .inr (.inl ⟨rfl, rfl⟩)⟩
            case measure => simp [intOf]
          | some a1 =>
            have AT1 := Lib.hid (nodes_cells H1.out).2.2.2
            obtain ⟨A3, m3, c3, rfl⟩ := ownNd_slice OWN.out
            go_wp2_with (at_builtin; refine wpList_append_own _ rfl (.tmp 31) (.tmp 32) 22 rfl w.heap.size 31 i0 (.agg #[.int .i64 0, .int .i64 0]) 2 16 Try.underlying22 hi hz0 hz1 hz2 rfl (by decide) _ 0 [] rfl OWN.out a1 n1 c1 (nods L) rfl NL.out (AT1.out.news hb) (nods_one L) (by unfold maxLen; omega) (by omega) hb.size ?_)
            intro v' w3 hown2 hgrow _
            have hb3 : Below w.heap.size w w3 := hb.grown hgrow hb.size (fun g hg => (World.ownsRow.lt OWN.out g hg).1)
            have HO2 : Hid (OwnNd 31 w3 w.heap.size v' (L)) := by have q := hown2; rw [HL.out] at q; show OwnNd _ _ _ _ _; simpa [OwnNd] using q
            clear hown2 hgrow
            go_wp2_with fail
            go_roundw
            case rel => exact ⟨L, HO2.out, hb3, .inr (.inl ⟨rfl, rfl⟩)⟩
            case measure => simp [intOf]
        · have OWN := Lib.hid hown
          clear hown hown0
          cases A2 with
          | none =>
            have hnn := nodes_none H2.out
            rw [hnn.1, hnn.2.1] at f1
            clear hnn
            obtain ⟨A3, m3, c3, rfl⟩ := ownNd_slice OWN.out
            go_wp2_with (at_builtin; refine wpList_append_own_none rfl (.tmp 31) (.tmp 32) 22 rfl w.heap.size 31 i0 2 Try.underlying22 hi _ L.length (nods L) rfl OWN.out rfl ?_)
            go_roundw
            case rel => exact ⟨L ++ M, by have q := OWN.out; rw [(nodes_none H2.out).2.2, List.append_nil]; exact q, hb, .inr (.inr ⟨rfl, rfl⟩)⟩
            case measure => simp [intOf]
          | some a2 =>
            have AT2 := Lib.hid (nodes_cells H2.out).2.2.2
            obtain ⟨A3, m3, c3, rfl⟩ := ownNd_slice OWN.out
            go_wp2_with (at_builtin; refine wpList_append_own _ rfl (.tmp 31) (.tmp 32) 22 rfl w.heap.size 31 i0 (.agg #[.int .i64 0, .int .i64 0]) 2 16 Try.underlying22 hi hz0 hz1 hz2 rfl (by decide) _ L.length (nods L) rfl OWN.out a2 n2 c2 (nods M) rfl NM.out (AT2.out.news hb) (nods_one M) (by unfold maxLen; omega) (by omega) hb.size ?_)
            intro v' w3 hown2 hgrow _
            have hb3 : Below w.heap.size w w3 := hb.grown hgrow hb.size (fun g hg => (World.ownsRow.lt OWN.out g hg).1)
            have HO2 : Hid (OwnNd 31 w3 w.heap.size v' (L ++ M)) := by have q := hown2; rw [HM.out] at q; exact ownNd_app q
            clear hown2 hgrow
            go_wp2_with fail
            go_roundw
            case rel => exact ⟨L ++ M, HO2.out, hb3, .inr (.inr ⟨rfl, rfl⟩)⟩
            case measure => simp [intOf]
        · have HR := Lib.hid hown
          clear hown hown0
          go_wp2_with fail
          go_ret
          exact ⟨_, rfl, HR.out, hb⟩

end Go.Proofs.Ytfleaaokbjgljaa
