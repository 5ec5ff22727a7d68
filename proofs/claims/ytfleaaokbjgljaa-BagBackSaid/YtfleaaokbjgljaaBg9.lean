/- The project's package bag: Pour, Image, Wider, Same. -/
import Derived.Test.YtfleaaokbjgljaaBg8
import Derived.Deep.RegionWith
import Derived.Deep.AppendLies
namespace Go.Proofs.Ytfleaaokbjgljaa
set_option linter.unusedVariables false
set_option maxRecDepth 100000
open Go.RowKit
attribute [local go_sem ↓] Go.wp_at_zero Go.wp_at_succ

theorem bgPour_nil (q : Option Addr) (w : World) : Calls Try.prog 25 #[.pointer none, .pointer q] w fun e w' => e = .returned (.int .i64 1) ∧ w = w' := by
  go_enter Try.func25, Try.ntmps25
  go_wp2_with fail
  go_ret
  exact ⟨rfl, rfl⟩
theorem bgPour_none (p : Nat) (w : World) : Calls Try.prog 25 #[.pointer (some ⟨p, 0, none⟩), .pointer none] w fun e w' => e = .returned (.int .i64 1) ∧ w = w' := by
  go_enter Try.func25, Try.ntmps25
  go_wp2_with fail
  go_ret
  exact ⟨rfl, rfl⟩
theorem pour_fin {B g N : Nat} {l t : Int} {L S : List Nd} {v v5 : Value} {w w3 : World} (D : BgA w B g l L v) (D3 : BgA w3 B g l L v) (HB : Below w.heap.size w w3) (own : OwnNd 31 w3 N v5 S) (hN : w.heap.size ≤ N) (BC : BagC l S) (PT : sumC S = t) :
    BgPost B g l S 0 v w (.returned (.int .i64 0)) ((w3.setCell ⟨g, 2, none⟩ v5).setCell ⟨g, 1, none⟩ (.int .i64 t)) := by
  have hl := D.lt
  have T1 := (D3.top.stored 2 v5).1
  have T2 := (T1.stored 1 (.int .i64 t)).1
  have hne : v5.ownBlock ≠ some g := fun e => by
    have := (own.lt g e).1
    omega
  refine ⟨v5, rfl, ⟨BC, by rw [PT]; exact T2, ownsRow_setCell_other (ownsRow_setCell_other (own_low own (by omega)) (a := ⟨g, 2, none⟩) hne _) (a := ⟨g, 1, none⟩) hne _, by decide⟩, ((Kp.of HB).set _ (fun _ => .inl rfl)).set _ (fun _ => .inl rfl), ?_⟩
  exact fun b e => .inr (by have := (own.lt b e).1; omega)
set_option maxHeartbeats 3200000 in
theorem bgPour_any {B B2 g g2 : Nat} {l m : Int} {L M : List Nd} {v v2 : Value} (w : World) (d : BgA w B g l L v) (d2 : BgA w B2 g2 m M v2) (hn : L.length ≤ 100000) (hn2 : M.length ≤ 100000) :
    Calls Try.prog 25 #[.pointer (some ⟨g, 0, none⟩), .pointer (some ⟨g2, 0, none⟩)] w (BgPost B g l (pourS l m L M) (pourE l m L M) v w) := by
  have D := Lib.hid d
  have D2 := Lib.hid d2
  obtain ⟨c0, c1, c2⟩ := d.cells
  obtain ⟨e0, e1, e2⟩ := d2.cells
  have t1 := d.bag.tot0
  have t2 := d2.bag.tot0
  by_cases q : l = m
  · subst q
    by_cases q2 : 72057594037927935 < sumC L + sumC M
    · have H := pour_full (l := l) q2
      rw [H.1, H.2]
      have tb : togB (sumC L) (sumC M) = false := decide_eq_false (by omega)
      have hg := Lib.hid d.lt.2.1
      have hg2 := Lib.hid d2.lt.2.1
      clear d d2 H
      generalize sumC L = T at *
      generalize sumC M = U at *
      go_enter Try.func25, Try.ntmps25
      go_wp2_with fail
      go_quiet (fail)
      have f1 : (w.drewN nq).cell? ⟨g, 1, none⟩ = some (.int .i64 T) := c1
      have f2 : (w.drewN nq).cell? ⟨g2, 1, none⟩ = some (.int .i64 U) := e1
      have HB := Lib.hid (drewN_below (Below.refl w.heap.size w) nq)
      have hgx : Hid (g < (w.drewN nq).heap.size) := hg.out
      have hgy : Hid (g2 < (w.drewN nq).heap.size) := hg2.out
      clear c0 c1 c2 e0 e1 e2 hg hg2
      generalize w.drewN nq = X at *
      go_wp2_with fail
      go_region_held3 (fun w' => w'.cell? ⟨g, 1, none⟩ = some (.int .i64 T) ∧ w'.cell? ⟨g2, 1, none⟩ = some (.int .i64 U) ∧ Below X.heap.size X w')
        (first | assumption | (exact held2 (by assumption) (by assumption) hgx.out hgy.out) | (exact held2N (by assumption) _) | (exact ⟨f1, f2, below_drew _⟩))
        (first | (go_at_call 39; refine (together_any _ _ _ (by omega) (by omega) (by omega) (by omega)).mono ?_; rintro e w1 ⟨rfl, hb1⟩))
      rename_i hH
      have hbb := HB.out.trans (hH.2.2.mono HB.out.size)
      go_wp2_with fail
      go_ret
      exact ⟨_, rfl, D.out.below hbb, Kp.of hbb, At2.refl _ _⟩
    · have H := pour_ok (l := l) q2
      rw [H.1, H.2]
      have tb : togB (sumC L) (sumC M) = true := decide_eq_true (by omega)
      have tn : togN (sumC L) (sumC M) = sumC L + sumC M := if_pos (by omega)
      have hg := Lib.hid d.lt.2.1
      have hg2 := Lib.hid d2.lt.2.1
      obtain ⟨A, n, c, rfl⟩ := ownNd_slice d.row
      obtain ⟨A2, n2, k2, rfl⟩ := ownNd_slice d2.row
      have BC := Lib.hid (d.bag.pours d2.bag q2)
      have PT := Lib.hid (pours_tot M L)
      have MG := Lib.hid (fun (w1 : World) (hb : Below w.heap.size w w1) => merged_any A A2 n c n2 k2 L M w1 (d.nodes.below hb) (d2.nodes.below hb) d.bag.good d2.bag.good (by omega) (by have := (nodes_cells d.nodes).1; omega) (by have := (nodes_cells d2.nodes).1; omega))
      clear d d2 H
      generalize sumC L = T at *
      generalize sumC M = U at *
      go_enter Try.func25, Try.ntmps25
      go_wp2_with fail
      go_quiet (fail)
      have f1 : (w.drewN nq).cell? ⟨g, 1, none⟩ = some (.int .i64 T) := c1
      have f2 : (w.drewN nq).cell? ⟨g2, 1, none⟩ = some (.int .i64 U) := e1
      have HB := Lib.hid (drewN_below (Below.refl w.heap.size w) nq)
      have hgx : Hid (g < (w.drewN nq).heap.size) := hg.out
      have hgy : Hid (g2 < (w.drewN nq).heap.size) := hg2.out
      clear c0 c1 c2 e0 e1 e2 hg hg2
      generalize w.drewN nq = X at *
      go_wp2_with fail
      go_region_held3 (fun w' => w'.cell? ⟨g, 1, none⟩ = some (.int .i64 T) ∧ w'.cell? ⟨g2, 1, none⟩ = some (.int .i64 U) ∧ Below X.heap.size X w')
        (first | assumption | (exact held2 (by assumption) (by assumption) hgx.out hgy.out) | (exact held2N (by assumption) _) | (exact ⟨f1, f2, below_drew _⟩))
        (first | (go_at_call 39; refine (together_any _ _ _ (by omega) (by omega) (by omega) (by omega)).mono ?_; rintro e w1 ⟨rfl, hb1⟩))
      rename_i hH
      have hbb := Lib.hid (HB.out.trans (hH.2.2.mono HB.out.size))
      have DD := Lib.hid (D.out.below hbb.out)
      have DD2 := Lib.hid (D2.out.below hbb.out)
      have u2 := DD.out.cells.2.2
      have x2 := DD2.out.cells.2.2
      clear hH f1 f2 hgx hgy
      rw [tb, tn] at *
      go_wp2_with fail
      have F : ∀ w3, Below w1.heap.size (World.drew w1) w3 → BgA w3 B g l L (.slice A n c) ∧ Below w.heap.size w w3 := fun w3 hb => by
        have a : BgA (World.drew w1) B g l L (.slice A n c) := DD.out.below (below_drew _)
        exact ⟨a.below hb, hbb.out.drew.trans (hb.mono hbb.out.size)⟩
      have HF := Lib.hid F
      clear F DD DD2
      go_region_law (first | (go_simp; go_at_call 46; refine (MG.out _ (by first | exact hbb.out.drew | exact hbb.out)).mono ?_; rintro e w3 ⟨v', rfl, hown, hb3⟩; have HOWN := Lib.hid hown; obtain ⟨A5, m5, c5, rfl⟩ := ownNd_slice hown; clear hown; have q3 := (HF.out w3 hb3).1.cells.2.2; have g3 := (HF.out w3 hb3).1.free 2; have q4 := (HF.out w3 hb3).1.cells.2.1; have g4 := (HF.out w3 hb3).1.free 1))
      all_goals
        go_wp2_with fail
        go_ret
        exact pour_fin D.out (HF.out w3 hb3).1 (HF.out w3 hb3).2 HOWN.out (by have := hbb.out.size; exact this) BC.out PT.out
  · have H := pour_other (L := L) (M := M) q
    rw [H.1, H.2]
    have q' : (l == m) = false := by simpa using q
    clear d d2 H
    go_enter Try.func25, Try.ntmps25
    go_wp2_with fail
    go_quiet (fail)
    go_wp2_with fail
    go_ret
    exact ⟨_, rfl, D.out.below (drewN_below (Below.refl _ _) _), Kp.of (drewN_below (Below.refl _ _) _), At2.refl _ _⟩

end Go.Proofs.Ytfleaaokbjgljaa
