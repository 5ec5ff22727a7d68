/- The project's sample.All: the readings that all come as, or the place of the first that is none. -/
import Derived.Test.YtondnligmagomaaSm3
import Derived.Test.YtondnligmagomaaRow
namespace Go.Proofs.Ytondnligmagomaa
set_option linter.unusedVariables false
open Go.RowKit

/-- n readings, laid out one behind the other -/
def flat (a x : Nat → Int) : Nat → List Value
  | 0 => []
  | n + 1 => flat a x n ++ [.int .i64 (a n), .int .i64 (x n)]
theorem flat_len (a x : Nat → Int) (n : Nat) : (flat a x n).length = 2 * n := by
  induction n with
  | zero => rfl
  | succ n ih => simp [flat, ih]; omega
theorem flat_at (a x : Nat → Int) (n : Nat) : ∀ k, k < n → (flat a x n).getD (2 * k) undef = .int .i64 (a k) ∧ (flat a x n).getD (2 * k + 1) undef = .int .i64 (x k) := by
  induction n with
  | zero => intro k h; omega
  | succ n ih =>
    intro k h
    have hl := flat_len a x n
    simp only [flat, List.getD_eq_getElem?_getD]
    by_cases e : k < n
    · have := ih k e
      simp only [List.getD_eq_getElem?_getD] at this
      rw [List.getElem?_append_left (by omega), List.getElem?_append_left (by omega)]
      exact this
    · have : k = n := by omega
      subst this
      rw [List.getElem?_append_right (by omega), List.getElem?_append_right (by omega), hl]
      simp
/-- all below n may be readings -/
def Goods (a x : Nat → Int) (n : Nat) : Prop := ∀ k, k < n → RdC (a k) (x k)
theorem goods_step {a x : Nat → Int} {n : Nat} (h : Goods a x n) (g : RdC (a n) (x n)) : Goods a x (n + 1) := fun k hk => by
  by_cases e : k < n
  · exact h k e
  · have : k = n := by omega
    subst this; exact g
/-- what All answers -/
def AllPost (a x : Nat → Int) (n : Nat) (w : World) (e : Ending) (w' : World) : Prop :=
  (∃ V, Goods a x n ∧ e = .returned (.tuple #[V, .int .i64 n, .bool true]) ∧ w'.ownsRow w.heap.size 23 2 V n (flat a x n) ∧ Below w.heap.size w w') ∨
  (∃ j : Nat, j < n ∧ Goods a x j ∧ ¬ RdC (a j) (x j) ∧ e = .returned (.tuple #[.slice none 0 0, .int .i64 j, .bool false]) ∧ Below w.heap.size w w')

theorem rd_info : (Try.prog.info? 23).map (fun i => (i.zero, i.size, i.bytes)) = some (some (.agg #[.int .i64 0, .int .i64 0]), 2, 16) := by kernel_rfl
set_option maxHeartbeats 1600000 in
theorem smAll_any (A : Option Addr) (n c : Nat) (f : Nat → Value) (a x : Nat → Int) (w : World) (hn : n ≤ 300) (hc : Cells w A n f) (hf : ∀ k, k < n → ComesAs (f k) (rdV (a k) (x k)) (rdX (a k) (x k)) (rdB (a k) (x k))) :
    Calls Try.prog 14 #[.slice A n c] w (AllPost a x n w) := by
  obtain ⟨i0, hi, hz0, hz1, hz2⟩ := info_parts rd_info
  have hm := fun w => make_room (P := Try.prog) Try.underlying41 hi hz0 hz1 hz2 n (by omega) (by omega) w
  have HC := Lib.hid hc
  have HF := Lib.hid hf
  clear hc hf
  go_enter Try.func14, Try.ntmps14
  go_wp2_with fail
  clear hm
  go_loopw [5, 15] (fun v i wr => ∃ j : Nat, j ≤ n ∧ Goods a x j ∧ i = .int .i64 j ∧ wr.ownsRow w.heap.size 23 2 v j (flat a x j) ∧ Below w.heap.size w wr) (fun _ i _ => n - (intOf i).toNat)
  case atStart => exact ⟨0, by omega, fun k h => by omega, rfl, room_own (Nat.le_refl _) (by unfold maxLen; omega), (Below.refl _ _).alloc (Nat.le_refl _) _⟩
  case round =>
    rename_i wr
    obtain ⟨j, hj, hg, rfl, hown, hb⟩ := hrel
    have G := Lib.hid hg
    clear hg
    by_cases hlj : j < n
    · obtain ⟨b, o, rfl, hlt, hcell⟩ := HC.out (by omega)
      have hcj : wr.cell? ⟨b, o + j, none⟩ = some (f j) := (hb.cell (p := ⟨b, o + j, none⟩) hlt).trans (hcell j hlj)
      clear hcell
      have HO := Lib.hid (HF.out j hlj)
      by_cases hr : RdC (a j) (x j)
      · have hs := Lib.hid (goods_step G.out hr)
        have HP : ComesAs (f j) (a j) (x j) true := by have := HO.out; rwa [(rd_yes hr).1, (rd_yes hr).2.1, (rd_yes hr).2.2] at this
        clear hr
        go_wp2_with fail
        refine (HP.out _).mono ?_
        rintro e w1 ⟨rfl, hb1⟩
        have hown1 := own_below hown hb1
        have z1 := hb.size
        have z2 := hb1.size
        go_wp2_with (at_builtin; refine wpList_append_own _ rfl _ _ 41 rfl w.heap.size 23 i0 (.agg #[.int .i64 0, .int .i64 0]) 2 16 Try.underlying41 hi hz0 hz1 hz2 rfl (by decide) _ _ _ rfl ((hown1.alloc _).alloc _) ⟨w1.heap.size + 1, 0, none⟩ 1 1 [.int .i64 (a j), .int .i64 (x j)] rfl rfl ?c1 ?c2 ?c3 ?c4 ?c5 ?_)
        case c1 => exact two_new _ _ _ _ _ (by simp)
        case c2 => exact two_cell _ _
        case c3 => unfold maxLen; omega
        case c4 => omega
        case c5 => simp; omega
        intro v' w2 hown2 hgrow _
        have hb2 : Below w.heap.size w w2 := (((hb.trans (hb1.mono (by omega))).alloc (by omega) _).alloc (by simp; omega) _).grown hgrow (by simp; omega) (fun g hg => (hown.lt g hg).1)
        clear hown1 hgrow hown hb hb1
        go_wp2_with fail
        go_roundw
        case rel => exact ⟨j + 1, by omega, hs.out, by go_num, hown2, hb2⟩
        case measure => simp [intOf]; omega
      · have HP : ComesAs (f j) 0 0 false := by have := HO.out; rwa [(rd_no hr).1, (rd_no hr).2.1, (rd_no hr).2.2] at this
        have HN := Lib.hid hr
        clear hr
        go_wp2_with fail
        refine (HP.out _).mono ?_
        rintro e w1 ⟨rfl, hb1⟩
        have z1 := hb.size
        have z2 := hb1.size
        go_wp2_with fail
        go_ret3
        exact .inr ⟨j, hlj, G.out, HN.out, rfl, (hb.trans (hb1.mono (by omega))).alloc (by omega) _⟩
    · have hjn : j = n := by omega
      subst hjn
      have hown' := hown
      rcases hown.2 with ⟨rfl, rfl⟩ | ⟨g, cap, cur, rfl, _⟩
      · clear hown
        go_wp2_with fail
        go_ret3
        exact .inl ⟨_, G.out, rfl, hown', hb⟩
      · clear hown
        go_wp2_with fail
        go_ret3
        exact .inl ⟨_, G.out, rfl, hown', hb⟩

end Go.Proofs.Ytondnligmagomaa
