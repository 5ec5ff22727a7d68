/- The document's answers of package dewpondref05: one run more. -/
import Derived.Test.YtjmglihdndknjaaTiRef
import Derived.Test.YtjmglihdndknjaaTiMem2
import Derived.IntWalk
import Derived.Laws.AppendOwnNone
namespace Go.Proofs.Ytjmglihdndknjaa
set_option linter.unusedVariables false
open Go.RowKit

theorem run_info : (Try.prog.info? 54).map (fun i => (i.zero, i.size, i.bytes)) = some (some (.agg #[.int .i64 0, .int .i64 0]), 2, 16) := by kernel_rfl
def WithPost (m : Int) (L : List Rn) (x y : Int) (w : World) (e : Ending) (w' : World) : Prop :=
  ∃ v L', e = .returned v ∧ RunsAt w' v L' ∧ Runs m L' ∧ (∀ z, InR L' z ↔ InR L z ∨ (x ≤ z ∧ z ≤ y)) ∧ L'.length ≤ L.length + 1 ∧ Below w.heap.size w w'
set_option maxHeartbeats 3200000 in
theorem with_any (A : Option Addr) (n c : Nat) (L : List Rn) (x y m : Int) (w : World) (h : RunsAt w (.slice A n c) L) (hr : Runs m L) (hm : m ≤ 281474976710656) (hx : 0 ≤ x ∧ x ≤ y ∧ y < m) (hn : n ≤ 1000000) :
    Calls Try.prog 49 #[.slice A n c, .agg #[.int .i64 x, .int .i64 y]] w (WithPost m L x y w) := by
  obtain ⟨i0, hi, hz0, hz1, hz2⟩ := info_parts run_info
  have HL := Lib.hid (runs_cells h).1
  have HC := Lib.hid (runs_cells h).2
  have HR := Lib.hid hr
  have HX := Lib.hid hx
  have hPr : Hid (∀ k, ∀ p ∈ L.take k, p.1 ≤ p.2) := fun k p hp => (hr.1 p (List.mem_of_mem_take hp)).2.1
  clear h hr hx
  go_enter Try.func49, Try.ntmps49
  go_wp2_with fail
  go_loopw [5, 6, 7] (fun va vb i wr => ∃ (k : Nat) (xl xh : Int) (P Q : List Rn), k ≤ n ∧ i = .int .i64 k ∧ WithAt 54 w.heap.size w wr va vb (xl, xh) P Q ∧ WInv m (L.take k) (x, y) P (xl, xh) Q) (fun _ _ i _ => n - (intOf i).toNat)
  case atStart => exact ⟨0, x, y, [], [], by omega, rfl, WithAt.start _ w x y, w_start HX.out⟩
  case round =>
    rename_i wr
    obtain ⟨k, xl, xh, P, Q, hk, rfl, hat, hinv⟩ := hrel
    have INV := Lib.hid hinv
    have AT := Lib.hid hat
    have x0 : 0 ≤ xl := hinv.low
    have x1 : xl ≤ xh := hinv.mid
    have x2 : xh < m := hinv.top
    have hpl : P.length ≤ n := by have := hinv.len; simp at this; omega
    have hql : Q.length ≤ n := by have := hinv.len; simp at this; omega
    obtain ⟨c0, c1, f0, f1⟩ := hat.cells
    have zs := hat.below.size
    have zr := hat.room
    obtain ⟨A1, m1, d1, rfl⟩ := own_slice hat.a
    obtain ⟨A2, m2, d2, rfl⟩ := own_slice hat.b
    clear hinv hat
    by_cases hlt : k < n
    · have hk2 : k < L.length := by have := HL.out; omega
      obtain ⟨b, o, rfl, hbl, hcell⟩ := HC.out (by omega)
      have e0 : wr.cell? ⟨b, o + k * 2, none⟩ = some (.int .i64 (L.getD k rz).1) := (AT.out.below.cell (p := ⟨b, o + k * 2, none⟩) hbl).trans (hcell k hk2).1
      have e1 : wr.cell? ⟨b, o + k * 2 + 1, none⟩ = some (.int .i64 (L.getD k rz).2) := (AT.out.below.cell (p := ⟨b, o + k * 2 + 1, none⟩) hbl).trans (hcell k hk2).2
      have htk := Lib.hid (take_atr hk2)
      have hrr := HR.out.1 _ (getDr_mem hk2)
      have hgp := Lib.hid (gap_at HR.out.2 hk2)
      have hce := Lib.hid (hcell k hk2)
      clear hcell
      generalize L.getD k rz = r at *
      obtain ⟨rl, rh⟩ := r
      simp only at e0 e1 hrr
      have hrrH := Lib.hid hrr
      obtain ⟨r0, r1, r2⟩ := hrr
      have w1 : IntKind.i64.wrap (rh + 1) = rh + 1 := IntWalk.i64_in _ (by omega)
      have w2 : IntKind.i64.wrap (xh + 1) = xh + 1 := IntWalk.i64_in _ (by omega)
      by_cases q1 : rh + 1 < xl
      · have WA := Lib.hid (w_ahead INV.out (e := (rl, rh)) r1 hgp.out (hPr k) q1)
        go_wp2_with fail
        go_quiet (fail)
        clear w1 w2
        go_wp2_with (at_builtin; refine wpList_append_own_at _ rfl _ _ 49 rfl (w.heap.size + 1) 54 i0 (.agg #[.int .i64 0, .int .i64 0]) 2 16 Try.underlying49 hi hz0 hz1 hz2 rfl (by decide) _ P.length (pairs P) rfl (World.ownsRow.alloc (AT.out.drew _).a _) ⟨wr.heap.size, 0, none⟩ 1 1 [.int .i64 rl, .int .i64 rh] rfl rfl (two_new _ _ _ _ _ (by simp)) (two_cell _ _) (by unfold maxLen; omega) (by omega) (by simp; omega) ?_)
        intro v' w3 hown2 hgrow _ hat2
        have AT2 := Lib.hid ((AT.out.drew _).growA (ownP_snoc hown2) hgrow hat2)
        clear hown2 hgrow hat2 c0 c1 f0 f1 e0 e1
        go_wp2_with fail
        go_roundw
        case rel => exact ⟨k + 1, xl, xh, P ++ [(rl, rh)], Q, by omega, by go_num, AT2.out, by rw [htk.out]; exact WA.out⟩
        case measure => simp [intOf]; omega
      · by_cases q2 : xh + 1 < rl
        · have WA := Lib.hid (w_behind INV.out (e := (rl, rh)) r1 hgp.out q2)
          go_wp2_with fail
          go_quiet (fail)
          go_wp2_with fail
          go_quiet (fail)
          clear w1 w2
          go_wp2_with (at_builtin; refine wpList_append_own_at _ rfl _ _ 49 rfl (w.heap.size + 1) 54 i0 (.agg #[.int .i64 0, .int .i64 0]) 2 16 Try.underlying49 hi hz0 hz1 hz2 rfl (by decide) _ Q.length (pairs Q) rfl (World.ownsRow.alloc (AT.out.drew _).b _) ⟨wr.heap.size, 0, none⟩ 1 1 [.int .i64 rl, .int .i64 rh] rfl rfl (two_new _ _ _ _ _ (by simp)) (two_cell _ _) (by unfold maxLen; omega) (by omega) (by simp; omega) ?_)
          intro v' w3 hown2 hgrow _ hat2
          have AT2 := Lib.hid ((AT.out.drew _).growB (ownP_snoc hown2) hgrow hat2)
          clear hown2 hgrow hat2 c0 c1 f0 f1 e0 e1
          go_wp2_with fail
          go_roundw
          case rel => exact ⟨k + 1, xl, xh, P, Q ++ [(rl, rh)], by omega, by go_num, AT2.out, by rw [htk.out]; exact WA.out⟩
          case measure => simp [intOf]; omega
        · by_cases q3 : rl < xl
          · by_cases q4 : xh < rh
            · have WA := Lib.hid (w_touch INV.out (e := (rl, rh)) hrrH.out hgp.out (hPr k) q1 q2 (lo := rl) (hi := rh) (by simp only; omega) (by simp only; omega))
              go_wp2_with fail
              go_quiet (fail)
              go_wp2_with fail
              go_quiet (fail)
              clear w1 w2
              go_wp2_with fail
              go_quiet (fail)
              go_wp2_with fail
              generalize hwq : World.setCell _ _ _ = wq
              have AT3 := Lib.hid (hwq ▸ (AT.out.drew _).set0 rl)
              clear hwq c0 c1 f0 f1 e0 e1
              obtain ⟨c0, c1, f0, f1⟩ := AT3.out.cells
              have e0 := (AT3.out.below.cell (p := ⟨b, o + k * 2, none⟩) hbl).trans hce.out.1
              have e1 := (AT3.out.below.cell (p := ⟨b, o + k * 2 + 1, none⟩) hbl).trans hce.out.2
              go_quiet (fail)
              go_wp2_with fail
              go_roundw
              case rel => exact ⟨k + 1, rl, rh, P, Q, by omega, by go_num, (AT3.out.drew _).set1 rh, by rw [htk.out]; exact WA.out⟩
              case measure => simp [intOf]; omega
            · have WA := Lib.hid (w_touch INV.out (e := (rl, rh)) hrrH.out hgp.out (hPr k) q1 q2 (lo := rl) (hi := xh) (by simp only; omega) (by simp only; omega))
              go_wp2_with fail
              go_quiet (fail)
              go_wp2_with fail
              go_quiet (fail)
              clear w1 w2
              go_wp2_with fail
              go_quiet (fail)
              go_wp2_with fail
              generalize hwq : World.setCell _ _ _ = wq
              have AT3 := Lib.hid (hwq ▸ (AT.out.drew _).set0 rl)
              clear hwq c0 c1 f0 f1 e0 e1
              obtain ⟨c0, c1, f0, f1⟩ := AT3.out.cells
              have e0 := (AT3.out.below.cell (p := ⟨b, o + k * 2, none⟩) hbl).trans hce.out.1
              have e1 := (AT3.out.below.cell (p := ⟨b, o + k * 2 + 1, none⟩) hbl).trans hce.out.2
              go_quiet (fail)
              go_wp2_with fail
              go_roundw
              case rel => exact ⟨k + 1, rl, xh, P, Q, by omega, by go_num, AT3.out.drew _, by rw [htk.out]; exact WA.out⟩
              case measure => simp [intOf]; omega
          · by_cases q4 : xh < rh
            · have WA := Lib.hid (w_touch INV.out (e := (rl, rh)) hrrH.out hgp.out (hPr k) q1 q2 (lo := xl) (hi := rh) (by simp only; omega) (by simp only; omega))
              go_wp2_with fail
              go_quiet (fail)
              go_wp2_with fail
              go_quiet (fail)
              clear w1 w2
              go_wp2_with fail
              go_quiet (fail)
              go_wp2_with fail
              go_quiet (fail)
              go_wp2_with fail
              go_roundw
              case rel => exact ⟨k + 1, xl, rh, P, Q, by omega, by go_num, (AT.out.drew _).set1 rh, by rw [htk.out]; exact WA.out⟩
              case measure => simp [intOf]; omega
            · have WA := Lib.hid (w_touch INV.out (e := (rl, rh)) hrrH.out hgp.out (hPr k) q1 q2 (lo := xl) (hi := xh) (by simp only; omega) (by simp only; omega))
              go_wp2_with fail
              go_quiet (fail)
              go_wp2_with fail
              go_quiet (fail)
              clear w1 w2
              go_wp2_with fail
              go_quiet (fail)
              go_wp2_with fail
              go_quiet (fail)
              go_wp2_with fail
              go_roundw
              case rel => exact ⟨k + 1, xl, xh, P, Q, by omega, by go_num, AT.out.drew _, by rw [htk.out]; exact WA.out⟩
              case measure => simp [intOf]; omega
    · have hd : Hid (L.take k = L) := List.take_of_length_le (by have := HL.out; omega)
      have WE := Lib.hid (w_end (P := L) HR.out (by have q := INV.out; rw [hd] at q; exact q))
      have hb2 : wr.ownsRow (w.heap.size + 1) 54 2 (.slice A2 m2 d2) Q.length (pairs Q) := AT.out.b
      rcases hb2.2 with ⟨e2, e3⟩ | ⟨g, cap, cur, e2, hbg, hgh, _⟩
      · injection e2 with s1 s2 s3
        subst s1 s2 s3
        obtain rfl : Q = [] := List.eq_nil_of_length_eq_zero e3
        clear hb2 e3
        go_wp2_with (at_builtin; refine wpList_append_own_at _ rfl _ _ 49 rfl (w.heap.size + 1) 54 i0 (.agg #[.int .i64 0, .int .i64 0]) 2 16 Try.underlying49 hi hz0 hz1 hz2 rfl (by decide) _ P.length (pairs P) rfl (World.ownsRow.alloc AT.out.a _) ⟨wr.heap.size, 0, none⟩ 1 1 [.int .i64 xl, .int .i64 xh] rfl rfl (two_new _ _ _ _ _ (by simp)) (two_cell _ _) (by unfold maxLen; omega) (by omega) (by simp; omega) ?_)
        intro v' w3 hown2 hgrow _ hat2
        have AT2 := Lib.hid (AT.out.growA (ownP_snoc hown2) hgrow hat2)
        obtain ⟨A3, m3, d3, rfl⟩ := own_slice hown2
        clear hgrow hat2 c0 c1 f0 f1
        go_wp2_with (at_builtin; refine wpList_append_own_none rfl _ _ 49 rfl (w.heap.size + 1) 54 i0 2 Try.underlying49 hi (.slice A3 m3 d3) (P.length + 1) (pairs P ++ [.int .i64 xl, .int .i64 xh]) rfl hown2 rfl ?_)
        go_ret
        exact ⟨_, _, rfl, ownP_runs AT2.out.a, by have q := WE.out.1; rwa [List.append_nil] at q, by have q := WE.out.2.1; rwa [List.append_nil] at q, by have q := WE.out.2.2; rwa [List.append_nil] at q, AT2.out.below⟩
      · have hgl := lt_of_block hgh
        injection e2 with s1 s2 s3
        subst s1 s2 s3
        clear hb2
        go_wp2_with (at_builtin; refine wpList_append_own_at _ rfl _ _ 49 rfl (w.heap.size + 1) 54 i0 (.agg #[.int .i64 0, .int .i64 0]) 2 16 Try.underlying49 hi hz0 hz1 hz2 rfl (by decide) _ P.length (pairs P) rfl (World.ownsRow.alloc AT.out.a _) ⟨wr.heap.size, 0, none⟩ 1 1 [.int .i64 xl, .int .i64 xh] rfl rfl (two_new _ _ _ _ _ (by simp)) (two_cell _ _) (by unfold maxLen; omega) (by omega) (by simp; omega) ?_)
        intro v' w3 hown2 hgrow _ hat2
        have AT2 := Lib.hid (AT.out.growA (ownP_snoc hown2) hgrow hat2)
        have z3 := AT2.out.room
        obtain ⟨A3, m3, d3, rfl⟩ := own_slice hown2
        clear hgrow hat2 c0 c1 f0 f1
        go_wp2_with (at_builtin; refine wpList_append_own_at _ rfl _ _ 49 rfl (w.heap.size + 1) 54 i0 (.agg #[.int .i64 0, .int .i64 0]) 2 16 Try.underlying49 hi hz0 hz1 hz2 rfl (by decide) (.slice A3 m3 d3) (P.length + 1) (pairs P ++ [.int .i64 xl, .int .i64 xh]) rfl hown2 ⟨g, 0, none⟩ Q.length _ (pairs Q) rfl (pairs_len Q) (World.ownsRow.cells AT2.out.b rfl) (pairs_one Q) (by unfold maxLen; omega) (by omega) (by omega) ?_)
        intro v2 w4 hown4 hgrow4 _ _
        have hb4 : Below w.heap.size w w4 := AT2.out.below.trans ⟨hgrow4.os, hgrow4.tape, hgrow4.output, hgrow4.size, fun k hk => hgrow4.block k (by omega) (fun q => by have := (World.ownsRow.lt hown2 k q.symm).1; omega)⟩
        have O4 := Lib.hid (ownP_join hown4)
        clear hown2 hown4 hgrow4
        go_wp2_with fail
        go_ret
        exact ⟨v2, _, rfl, ownP_runs O4.out, WE.out.1, WE.out.2.1, WE.out.2.2, hb4⟩

end Go.Proofs.Ytjmglihdndknjaa
