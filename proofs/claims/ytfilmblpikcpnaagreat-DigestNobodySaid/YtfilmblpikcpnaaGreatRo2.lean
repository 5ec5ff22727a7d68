/- The project's package roll: lists of nodes put in order by merging. -/
import Derived.Test.YtfilmblpikcpnaaGreatMmy
import Derived.Test.YtfilmblpikcpnaaGreatRk
import Derived.Lib.SliceRun
import Derived.Deep.RegionHeld3
import Derived.Deep.RegionWith
import Derived.Deep.DrawnRows
import Derived.WalkSpells
import Derived.StillTactics
namespace Go.Proofs.YtfilmblpikcpnaaGreat
set_option linter.unusedVariables false
open Go.RowKit
attribute [local go_sem ↓] Go.wp_at_zero Go.wp_at_succ

theorem node_info : (Tryz.prog.info? 74).map (fun i => (i.zero, i.size, i.bytes)) = some (some (.agg #[.int .i64 0, .int .i64 0]), 2, 16) := by kernel_rfl
/-- what a call that makes a row leaves -/
def RowPost (S : List Nd) (w : World) (e : Ending) (w' : World) : Prop := ∃ v, e = .returned v ∧ NodesAt w' v S ∧ Below w.heap.size w w'
/-- .. a row of its own -/
def RowOwn (S : List Nd) (w : World) (e : Ending) (w' : World) : Prop := ∃ v, e = .returned v ∧ OwnNd 74 w' w.heap.size v S ∧ Below w.heap.size w w'
theorem row_post {S : List Nd} {w : World} {e : Ending} {w' : World} (h : RowOwn S w e w') : RowPost S w e w' := by
  obtain ⟨v, a, b, c⟩ := h
  exact ⟨v, a, ownNd_nodes b, c⟩
theorem sortedLess_any (a b : Nd) (w : World) :
    Calls Tryz.prog 131 #[.agg #[.int .i64 a.1, .int .i64 a.2], .agg #[.int .i64 b.1, .int .i64 b.2]] w fun e w' => e = .returned (.bool (idA a b)) ∧ Below w.heap.size w w' := by
  obtain ⟨a1, a2⟩ := a
  obtain ⟨b1, b2⟩ := b
  by_cases h : a1 < b1
  · have H := Lib.hid (idA_yes (a := (a1, a2)) (b := (b1, b2)) h)
    go_enter Tryz.func131, Tryz.ntmps131
    go_wp2_with fail
    go_ret
    exact ⟨by rw [H.out]; rfl, ((Below.refl _ _).alloc (Nat.le_refl _) _).alloc (by simp) _⟩
  · have H := Lib.hid (idA_no (a := (a1, a2)) (b := (b1, b2)) h)
    go_enter Tryz.func131, Tryz.ntmps131
    go_wp2_with fail
    go_ret
    exact ⟨by rw [H.out]; rfl, ((Below.refl _ _).alloc (Nat.le_refl _) _).alloc (by simp) _⟩
set_option maxHeartbeats 1600000 in
theorem cloneNd_own (A : Option Addr) (n c : Nat) (L : List Nd) (w : World) (h : NodesAt w (.slice A n c) L) (hn : n ≤ 1000000) :
    Calls Tryz.prog 147 #[.slice A n c] w (RowOwn L w) := by
  obtain ⟨hlen, hlc, hcm, hat⟩ := nodes_cells h
  have HL := Lib.hid hlen
  have HA := Lib.hid hat
  clear hlen hat h hlc hcm
  obtain ⟨i0, hi, hz0, hz1, hz2⟩ := info_parts node_info
  have q22 : ∀ (w : World) (a : Option Addr) (n c n' c' : Nat), (binOp .eql 32 (.slice a n c) (.slice none n' c')).run Tryz.prog w = .ok (.bool a.isNone) w := fun w a n c n' c' => Lib.run_eql_slice_nil w _ _ a n c n' c' Tryz.underlying32
  rcases Nat.eq_zero_or_pos n with h0 | h0
  · have hL0 : L = [] := List.eq_nil_of_length_eq_zero (by rw [← HL.out]; exact h0)
    subst hL0
    cases A with
    | none =>
      go_enter Tryz.func147, Tryz.ntmps147
      go_wp2_with fail
      go_ret
      exact ⟨_, rfl, ownNd_nil .., Below.refl ..⟩
    | some a =>
      subst h0
      go_enter Tryz.func147, Tryz.ntmps147
      go_wp2_with (at_builtin; refine wpList_append_own _ rfl _ _ 32 rfl w.heap.size 74 i0 (.agg #[.int .i64 0, .int .i64 0]) 2 16 Tryz.underlying32 hi hz0 hz1 hz2 rfl (by decide) _ _ _ rfl (World.ownsRow_made w #[] 0 (Nat.le_refl _) (Nat.zero_le _) rfl) a 0 c [] rfl rfl ?qc1 ?qc2 ?qc3 ?qc4 ?qc5 ?qc6)
      case qc1 => intro j u hj; simp at hj
      case qc2 => intro u hu; simp at hu
      case qc3 => unfold maxLen; omega
      case qc4 => omega
      case qc5 => simp
      intro v' w1 hown hgrow hnil
      go_wp2
      go_ret
      exact ⟨v', rfl, (by simpa [OwnNd, nods] using hown), ((Below.refl _ w).alloc (Nat.le_refl _) _).grown hgrow (by simp) (by intro k hk; simp [Value.ownBlock] at hk; omega)⟩
  · obtain ⟨b, o, rfl, hin⟩ := HA.out (by have := HL.out; omega)
    have HI := Lib.hid hin
    have hbl := hin.1
    have NL := Lib.hid (show (nods L).length = n * 2 by rw [nods_len]; have := HL.out; omega)
    clear hin
    go_enter Tryz.func147, Tryz.ntmps147
    go_wp2_with (at_builtin; refine wpList_append_own _ rfl _ _ 32 rfl w.heap.size 74 i0 (.agg #[.int .i64 0, .int .i64 0]) 2 16 Tryz.underlying32 hi hz0 hz1 hz2 rfl (by decide) _ _ _ rfl (World.ownsRow_made w #[] 0 (Nat.le_refl _) (Nat.zero_le _) rfl) ⟨b, o, none⟩ n c (nods L) rfl NL.out ?pc1 ?pc2 ?pc3 ?pc4 ?pc5 ?pc6)
    case pc1 => exact (HI.out.below ((Below.refl _ w).alloc (Nat.le_refl _) _) hbl).news
    case pc2 => exact nods_one L
    case pc3 => unfold maxLen; omega
    case pc4 => omega
    case pc5 => simp
    intro v' w1 hown hgrow hnil
    go_wp2
    go_ret
    exact ⟨v', rfl, (by have q := hown; rw [HL.out] at q; simpa [OwnNd] using q), ((Below.refl _ w).alloc (Nat.le_refl _) _).grown hgrow (by simp) (by intro k hk; simp [Value.ownBlock] at hk; omega)⟩
theorem cloneNd_any (A : Option Addr) (n c : Nat) (L : List Nd) (w : World) (h : NodesAt w (.slice A n c) L) (hn : n ≤ 1000000) :
    Calls Tryz.prog 147 #[.slice A n c] w (RowPost L w) := (cloneNd_own A n c L w h hn).mono fun _ _ q => row_post q

end Go.Proofs.YtfilmblpikcpnaaGreat
