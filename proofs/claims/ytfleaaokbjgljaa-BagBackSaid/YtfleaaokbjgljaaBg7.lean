/- The project's package bag: one more value behind a rising list; two such lists made one. -/
import Derived.Test.YtfleaaokbjgljaaBg6
namespace Go.Proofs.Ytfleaaokbjgljaa
set_option linter.unusedVariables false
set_option maxRecDepth 100000
open Go.RowKit
attribute [local go_sem ↓] Go.wp_at_zero Go.wp_at_succ

/-- what behind leaves -/
def BehPost (TR : TypeId) (B : Nat) (v : Value) (F : List Nd) (w : World) (e : Ending) (w' : World) : Prop :=
  ∃ v', e = .returned v' ∧ OwnNd TR w' B v' F ∧ Kp (fun k => v.ownBlock = some k) w w' ∧ At w v v'
theorem grown_kp2 {w w2 w3 : World} {v : Value} (hb : Below w.heap.size w w2) (h : w2.grownBy w3 v.ownBlock) : Kp (fun k => v.ownBlock = some k) w w3 :=
  (Kp.of hb).trans (Kp.grown h) fun k _ e => e.symm
set_option maxHeartbeats 3200000 in
theorem behind_any {B : Nat} {v : Value} {F : List Nd} (r1 r2 : Int) (w : World) (own : OwnNd 31 w B v F) (hB : B ≤ w.heap.size) (hn : F.length ≤ 1000000) (R0 : 1 ≤ r2) (hs : ∀ y ∈ F, 0 ≤ y.2 ∧ y.2 + r2 ≤ 72057594037927935) :
    Calls Try.prog 47 #[v, .agg #[.int .i64 r1, .int .i64 r2]] w (BehPost 31 B v (addN F (r1, r2)) w) := by
  obtain ⟨i0, hi, hz0, hz1, hz2⟩ := info_parts read_info
  have hr2 : ¬ (r1, r2).2 = 0 := by show ¬ r2 = 0; omega
  have hb1 : Below w.heap.size w (w.alloc (.cells #[.int .i64 r1, .int .i64 r2] 31)) := (Below.refl _ _).alloc (Nat.le_refl _) _
  rcases List.eq_nil_or_concat F with rfl | ⟨P, y, rfl⟩
  · have HR := Lib.hid own
    have HA := Lib.hid (add_nil hr2)
    rcases ownNd_form own with ⟨rfl, _⟩ | ⟨g, cap, rfl, _, _, _, _, _⟩
    all_goals
      clear own hs
      go_enter Try.func47, Try.ntmps47
      go_wp2_with fail
      go_quiet (fail)
      go_wp2_with (at_builtin; refine wpList_append_own_at _ rfl (.tmp 32) (.tmp 34) 22 rfl B 31 i0 (.agg #[.int .i64 0, .int .i64 0]) 2 16 Try.underlying22 hi hz0 hz1 hz2 rfl (by decide) _ 0 [] rfl (World.ownsRow.alloc (World.ownsRow.alloc HR.out _) _) ⟨w.heap.size + 1, 0, none⟩ 1 1 [.int .i64 r1, .int .i64 r2] rfl rfl (two_new _ _ _ _ _ (by simp)) (two_cell _ _) (by unfold maxLen; omega) (by omega) (by simp; omega) ?_)
      intro v' w3 hown3 hgrow3 _ hat3
      have hz : w.heap.size + 2 ≤ w3.heap.size := by have := hgrow3.size; simp at this; omega
      go_wp2_with fail
      go_ret
      refine ⟨v', rfl, ?_, grown_kp2 ((drewN_below hb1 _).alloc (by simp) _) hgrow3, hat3.imp (fun e => e) fun e => ⟨_, e, by omega⟩⟩
      rw [HA.out]
      exact hown3
  · rw [List.concat_eq_append] at *
    obtain ⟨y1, y2⟩ := y
    have HR := Lib.hid own
    obtain ⟨h, cap, n, rfl, hhB, hh, hnn, hin⟩ : ∃ h cap n, v = .slice (some ⟨h, 0, none⟩) n cap ∧ B ≤ h ∧ h < w.heap.size ∧ n = P.length + 1 ∧ NdIn w h 0 (P ++ [(y1, y2)]) := by
      rcases ownNd_form own with ⟨_, q⟩ | ⟨h, cap, q1, q2, q3, q4, q5, q6⟩
      · simp at q
      · exact ⟨h, cap, _, q1, q2, q3, by simp, q6⟩
    have hm := (nodes_cells (ownNd_nodes own)).1
    have HRn : Hid (w.ownsRow B 31 2 (.slice (some ⟨h, 0, none⟩) n cap) n (nods (P ++ [(y1, y2)]))) := by have q := own; unfold OwnNd at q; rw [← hm] at q; exact q
    have rc := row_cells own (k := P.length) (by simp)
    have eg : (P ++ [(y1, y2)]).getD P.length nz = (y1, y2) := by simp [List.getD_eq_getElem?_getD]
    rw [eg] at rc
    obtain ⟨u0, u1, g0, g1⟩ := rc
    dsimp only at u0 u1
    have bs := hs (y1, y2) (by simp)
    dsimp only at bs
    have HM := Lib.hid hm
    generalize hp : P.length = p at *
    have HP := Lib.hid hp
    have k1 : (n : Int) - 1 = (p : Int) := by omega
    have k2 : (p : Int) < (n : Int) := by omega
    have k0 : (0 : Int) ≤ (p : Int) := Int.natCast_nonneg _
    have hn1 : n ≤ 1000000 := by rw [hm]; exact hn
    have hnp := Lib.hid hnn
    have ne1 : ¬ w.heap.size = h := by omega
    clear hp hm hn hs own hin eg hnn
    by_cases q : y1 = r1
    · subst q
      have HA := Lib.hid (add_same (F := P) hr2 (show (y1, y2).1 = (y1, r2).1 from rfl))
      clear hr2
      have w1 : (w.alloc (.cells #[.int .i64 y1, .int .i64 r2] 31)).cell? ⟨h, p * 2, none⟩ = some (.int .i64 y1) := (hb1.cell (p := ⟨h, p * 2, none⟩) hh).trans u0
      have w2 : (w.alloc (.cells #[.int .i64 y1, .int .i64 r2] 31)).cell? ⟨h, p * 2 + 1, none⟩ = some (.int .i64 y2) := (hb1.cell (p := ⟨h, p * 2 + 1, none⟩) hh).trans u1
      have w3 : (w.alloc (.cells #[.int .i64 y1, .int .i64 r2] 31)).frozen? ⟨h, p * 2 + 1, none⟩ = false := (hb1.frozen (p := ⟨h, p * 2 + 1, none⟩) hh).trans g1
      have s0 : (w.alloc (.cells #[.int .i64 y1, .int .i64 r2] 31)).cell? ⟨w.heap.size, 0, none⟩ = some (.int .i64 y1) := by simp
      have s1 : (w.alloc (.cells #[.int .i64 y1, .int .i64 r2] 31)).cell? ⟨w.heap.size, 1, none⟩ = some (.int .i64 r2) := by simp
      have HB1 := Lib.hid hb1
      have R1 := Lib.hid (HRn.out.alloc (.cells #[.int .i64 y1, .int .i64 r2] 31))
      clear u0 u1 g0 g1 hb1
      go_enter Try.func47, Try.ntmps47
      go_wp2_with fail
      generalize w.alloc (.cells #[.int .i64 y1, .int .i64 r2] 31) = W at *
      go_quiet (fail)
      go_wp2_with fail
      have w1' : (W.drewN nq).cell? ⟨h, p * 2, none⟩ = some (.int .i64 y1) := w1
      have w2' : (W.drewN nq).cell? ⟨h, p * 2 + 1, none⟩ = some (.int .i64 y2) := w2
      have w3' : (W.drewN nq).frozen? ⟨h, p * 2 + 1, none⟩ = false := w3
      have s1' : (W.drewN nq).cell? ⟨w.heap.size, 1, none⟩ = some (.int .i64 r2) := s1
      have HBd := Lib.hid (drewN_below HB1.out nq)
      have Rd : Hid ((W.drewN nq).ownsRow B 31 2 (.slice (some ⟨h, 0, none⟩) n cap) n (nods (P ++ [(y1, y2)]))) := R1.out
      clear w1 w2 w3 s0 s1 R1 HB1
      generalize W.drewN nq = X at *
      have hd : ∀ a, ({ heap := X.heap, tape := X.tape, drawn := X.drawn + 1, os := X.os, output := X.output } : World).cell? a = X.cell? a := fun _ => rfl
      go_still_tail 10, (by kernel_rfl)
      change wpList _ _ _ _ _ (World.drew X)
      clear hd
      have v2 : (World.drew X).cell? ⟨h, p * 2 + 1, none⟩ = some (.int .i64 y2) := w2'
      have v3 : (World.drew X).frozen? ⟨h, p * 2 + 1, none⟩ = false := w3'
      have HBe : Hid (Below w.heap.size w (World.drew X)) := HBd.out.drew
      have Re : Hid ((World.drew X).ownsRow B 31 2 (.slice (some ⟨h, 0, none⟩) n cap) n (nods (P ++ [(y1, y2)]))) := Rd.out
      clear w1' w2' w3' s1' HBd Rd
      generalize World.drew X = Y at *
      have ST := Lib.hid (Re.out.stored (p * 2 + 1) (.int .i64 (y2 + r2)))
      have KP := Lib.hid ((Kp.of (F := fun k => (Value.slice (some ⟨h, 0, none⟩) n cap).ownBlock = some k) HBe.out).set (b := h) (o := p * 2 + 1) (.int .i64 (y2 + r2)) (fun _ => rfl))
      go_wp2_with fail
      go_ret
      refine ⟨_, rfl, ?_, KP.out, .inl rfl⟩
      rw [HA.out]
      have e : nods (P ++ [(y1, y2 + r2)]) = (nods (P ++ [(y1, y2)])).set (p * 2 + 1) (.int .i64 (y2 + r2)) := by
        have a := nods_set4 (P ++ [(y1, y2)]) (k := P.length) (by simp) (y2 + r2)
        rw [← HP.out, ← a]
        congr 1
        simp [List.getD_eq_getElem?_getD, List.set_append_right]
      unfold OwnNd
      rw [e, List.length_append, HP.out, show p + [(y1, y2 + r2)].length = n by have := k1; simp; omega]
      exact ST.out.1
    · have HA := Lib.hid (add_else (F := P) hr2 (show ¬ (y1, y2).1 = (r1, r2).1 from q))
      have q' : (y1 == r1) = false := by simpa using q
      clear hr2
      have w1 : (w.alloc (.cells #[.int .i64 r1, .int .i64 r2] 31)).cell? ⟨h, p * 2, none⟩ = some (.int .i64 y1) := (hb1.cell (p := ⟨h, p * 2, none⟩) hh).trans u0
      have s0 : (w.alloc (.cells #[.int .i64 r1, .int .i64 r2] 31)).cell? ⟨w.heap.size, 0, none⟩ = some (.int .i64 r1) := by simp
      have s1 : (w.alloc (.cells #[.int .i64 r1, .int .i64 r2] 31)).cell? ⟨w.heap.size, 1, none⟩ = some (.int .i64 r2) := by simp
      have HB1 := Lib.hid hb1
      have R1 := Lib.hid (HRn.out.alloc (.cells #[.int .i64 r1, .int .i64 r2] 31))
      have hzW : (w.alloc (.cells #[.int .i64 r1, .int .i64 r2] 31)).heap.size = w.heap.size + 1 := by simp
      clear u0 u1 g0 g1 hb1
      go_enter Try.func47, Try.ntmps47
      go_wp2_with fail
      generalize w.alloc (.cells #[.int .i64 r1, .int .i64 r2] 31) = W at *
      go_quiet (fail)
      have s0' : (W.drewN nq).cell? ⟨w.heap.size, 0, none⟩ = some (.int .i64 r1) := s0
      have s1' : (W.drewN nq).cell? ⟨w.heap.size, 1, none⟩ = some (.int .i64 r2) := s1
      have HBd := Lib.hid (drewN_below HB1.out nq)
      have hzX : Hid ((W.drewN nq).heap.size = w.heap.size + 1) := hzW
      have Rd : Hid ((W.drewN nq).ownsRow B 31 2 (.slice (some ⟨h, 0, none⟩) n cap) n (nods (P ++ [(y1, y2)]))) := R1.out
      clear w1 s0 s1 R1 HB1 hzW
      generalize W.drewN nq = X at *
      go_wp2_with (at_builtin; refine wpList_append_own_at _ rfl (.tmp 32) (.tmp 34) 22 rfl B 31 i0 (.agg #[.int .i64 0, .int .i64 0]) 2 16 Try.underlying22 hi hz0 hz1 hz2 rfl (by decide) _ n (nods (P ++ [(y1, y2)])) rfl (World.ownsRow.alloc Rd.out _) ⟨X.heap.size, 0, none⟩ 1 1 [.int .i64 r1, .int .i64 r2] rfl rfl (two_new _ _ _ _ _ rfl) (two_cell _ _) (by unfold maxLen; omega) (by omega) (by have := hzX.out; simp; omega) ?_)
      intro v' w3 hown3 hgrow3 _ hat3
      have hz : w.heap.size + 2 ≤ w3.heap.size := by have a := hgrow3.size; have b := hzX.out; simp at a; omega
      go_wp2_with fail
      go_ret
      refine ⟨v', rfl, ?_, grown_kp2 (HBd.out.alloc (by have := hzX.out; omega) _) hgrow3, hat3.imp (fun e => e) fun e => ⟨_, e, by have := hzX.out; omega⟩⟩
      rw [HA.out]
      unfold OwnNd
      rw [nods_app, List.length_append, ← HM.out]
      exact hown3

end Go.Proofs.Ytfleaaokbjgljaa
