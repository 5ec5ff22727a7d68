/- The project's package bag: Add. -/
import Derived.Test.YtfleaaokbjgljaaBg5
namespace Go.Proofs.Ytfleaaokbjgljaa
set_option linter.unusedVariables false
set_option maxRecDepth 100000
open Go.RowKit
attribute [local go_sem ↓] Go.wp_at_zero Go.wp_at_succ

/-- what a call leaves that may change a bag -/
def BgPost (B g : Nat) (l : Int) (M : List Nd) (n : Int) (v : Value) (w : World) (e : Ending) (w' : World) : Prop :=
  ∃ v', e = .returned (.int .i64 n) ∧ BgA w' B g l M v' ∧ Kp (bgF g v) w w' ∧ At2 w v v'
theorem bgAdd_nil (a b : Int) (w : World) : Calls Try.prog 12 #[.pointer none, .int .i64 a, .int .i64 b] w fun e w' => e = .returned (.int .i64 1) ∧ w = w' := by
  go_enter Try.func12, Try.ntmps12
  go_wp2_with fail
  go_ret
  exact ⟨rfl, rfl⟩
set_option maxHeartbeats 3200000 in
theorem bgAdd_any {B g : Nat} {l : Int} {L : List Nd} {v : Value} (x cc : Int) (w : World) (d : BgA w B g l L v) (hn : L.length ≤ 100000) (A0 : -9223372036854775808 ≤ x) (A1 : x ≤ 9223372036854775807) (B0 : -9223372036854775808 ≤ cc) (B1 : cc ≤ 9223372036854775807) :
    Calls Try.prog 12 #[.pointer (some ⟨g, 0, none⟩), .int .i64 x, .int .i64 cc] w (BgPost B g l (bagS l L x cc) (bagE l L x cc) v w) := by
  obtain ⟨A, n, c, rfl⟩ := ownNd_slice d.row
  have D := Lib.hid d
  obtain ⟨c0, c1, c2⟩ := d.cells
  have hu := d.bag.uni
  have hT := d.bag.tot0
  rcases bag_cases (l := l) L x cc with q | ⟨q, q1⟩ | ⟨q, q1, q2⟩ | ⟨q, q1, q2⟩
  · have H := bag_range (L := L) (c := cc) q
    rw [H.1, H.2]
    clear d H
    go_enter Try.func12, Try.ntmps12
    go_wp2_with (go_at_call 38; refine (leaf_any _ _ _ (by omega) (by omega) (by omega) (by omega)).mono ?_; rintro e w1 ⟨rfl, rfl⟩)
    go_ret
    exact ⟨_, rfl, D.out, Kp.refl .., At2.refl _ _⟩
  · have H := bag_zero (L := L) q q1
    rw [H.1, H.2]
    clear d H
    go_enter Try.func12, Try.ntmps12
    go_wp2_with (go_at_call 38; refine (leaf_any _ _ _ (by omega) (by omega) (by omega) (by omega)).mono ?_; rintro e w1 ⟨rfl, rfl⟩)
    go_ret
    exact ⟨_, rfl, D.out, Kp.refl .., At2.refl _ _⟩
  · have H := bag_full (L := L) q q1 q2
    rw [H.1, H.2]
    have t2 : togB (sumC L) cc = false := decide_eq_false (by omega)
    clear d H
    generalize sumC L = T at *
    go_enter Try.func12, Try.ntmps12
    go_wp2_with (first | (go_at_call 38; refine (leaf_any _ _ _ (by omega) (by omega) (by omega) (by omega)).mono ?_; rintro e w1 ⟨rfl, rfl⟩) | (go_at_call 39; refine (together_any _ _ _ (by omega) (by omega) (by omega) (by omega)).mono ?_; rintro e w1 ⟨rfl, hb1⟩))
    go_ret
    exact ⟨_, rfl, D.out.below hb1, Kp.of hb1, At2.refl _ _⟩
  · have H := bag_ok (L := L) q q1 q2
    rw [H.1, H.2]
    have t2 : togB (sumC L) cc = true := decide_eq_true (by omega)
    have t1 : togN (sumC L) cc = sumC L + cc := if_pos (by omega)
    have BC := Lib.hid (d.bag.ins (leafB_iff.1 q) q1 q2)
    have IT := Lib.hid (insW_tot L x cc)
    have hm := Lib.hid (nodes_cells d.nodes).1
    have hnn : n ≤ 100000 := by have := hm.out; omega
    have hlt := lt_le L x
    have hg := d.lt.2.1
    have ft := d.free 1
    clear d H
    go_enter Try.func12, Try.ntmps12
    go_wp2_with (first | (go_at_call 38; refine (leaf_any _ _ _ (by omega) (by omega) (by omega) (by omega)).mono ?_; rintro e w1 ⟨rfl, rfl⟩))
    refine (together_any _ _ _ (by omega) (by omega) (by omega) (by omega)).mono ?_
    rintro e w1 ⟨rfl, hb1⟩
    rw [t1, t2]
    have D1 := Lib.hid (D.out.below hb1)
    obtain ⟨d0, d1, d2⟩ := D1.out.cells
    have f1 := D1.out.free 1
    have S1 := Lib.hid (D1.out.top.stored 1 (.int .i64 (sumC L + cc)))
    have TOP : Hid ((w1.setCell ⟨g, 1, none⟩ (.int .i64 (sumC L + cc))).ownsRow B 67 3 (.slice (some ⟨g, 0, none⟩) 1 1) 1 [.int .i64 l, .int .i64 (sumC L + cc), .slice A n c]) := S1.out.1
    have ROW : Hid (OwnNd 31 (w1.setCell ⟨g, 1, none⟩ (.int .i64 (sumC L + cc))) B (.slice A n c) L) := ownsRow_setCell_other D1.out.row (a := ⟨g, 1, none⟩) (fun e => (D1.out.lt.2.2 g e).2.2 rfl) _
    have KP : Hid (Kp (bgF g (.slice A n c)) w (w1.setCell ⟨g, 1, none⟩ (.int .i64 (sumC L + cc)))) := (Kp.of hb1).set _ (fun _ => .inl rfl)
    have hz : w.heap.size ≤ (w1.setCell ⟨g, 1, none⟩ (.int .i64 (sumC L + cc))).heap.size := by have := hb1.size; simp; omega
    have e2 := TOP.out.cellAt 2 (by omega)
    clear c0 c1 c2 hb1 ft
    go_wp2_with fail
    generalize w1.setCell ⟨g, 1, none⟩ (.int .i64 (sumC L + cc)) = w2 at *
    clear d0 d1 d2 f1
    have hg2 : g < w2.heap.size := by omega
    refine (bgBelow_core x w2 (ownNd_nodes ROW.out) D.out.bag.good e2 hg2 (by omega)).mono ?_
    rintro e w3 ⟨rfl, hb3⟩
    have T3 := Lib.hid (own_below TOP.out hb3)
    have R3 : Hid (OwnNd 31 w3 B (.slice A n c) L) := own_below ROW.out hb3
    have K3 := Lib.hid (KP.out.trans (Kp.of (F := bgF g (.slice A n c)) hb3) (fun _ _ h => h))
    have hz3 := hb3.size
    have e3 := T3.out.cellAt 2 (by omega)
    clear e2 hb3
    have ADD : Hid (∀ (k : Nat) w', k ≤ L.length → insW L x cc = L.take k ++ (x, cc) :: L.drop k → BPutPost 67 31 B g (.int .i64 l) (.int .i64 (sumC L + cc)) (.slice A n c) (L.take k ++ (x, cc) :: L.drop k) w3 (.returned (.tuple #[])) w' → BgPost B g l (insW L x cc) 0 (.slice A n c) w (.returned (.int .i64 0)) w') := by
      rintro k w' hk hi ⟨v', _, top, row, kp, hat⟩
      refine ⟨v', rfl, ⟨BC.out, by rw [IT.out]; exact top, by rw [hi]; exact row, by decide⟩, K3.out.trans kp (fun _ _ h => h), ?_⟩
      exact fun b e => (at_two hat b e).imp id (fun q => by omega)
    generalize hk : ltN L x = k at *
    have HKK := Lib.hid hk.symm
    clear hk
    have k0 : (0 : Int) ≤ (k : Int) := Int.natCast_nonneg _
    by_cases hkn : k < n
    · have k1 : (k : Int) < (n : Int) := by omega
      have hkl : k < L.length := by have := hm.out; omega
      obtain ⟨h, cap, ra, hin⟩ : ∃ h cap, Value.slice A n c = .slice (some ⟨h, 0, none⟩) n cap ∧ NdIn w3 h 0 L := by
        rcases ownNd_form R3.out with ⟨a, b⟩ | ⟨h, cap, a, _, _, _, _, b⟩
        · rw [b] at hkl; simp at hkl
        · exact ⟨h, cap, by rw [a, hm.out], b⟩
      simp only [Value.slice.injEq, true_and] at ra
      obtain ⟨rfl, rfl⟩ := ra
      have rc := row_cells R3.out hkl
      obtain ⟨u0, u1, g0, g1⟩ := rc
      by_cases hx : (L.getD k nz).1 = x
      · have hs : Hid (insW L x cc = L.set k (x, (L.getD k nz).2 + cc)) := by
          show _ = _
          have q := ins_there (c := cc) D.out.bag.good (x := x) (by rw [← HKK.out]; exact hkl) (by rw [← HKK.out]; exact hx)
          rw [← HKK.out] at q
          exact q
        have PW := Lib.hid (nods_set4 L hkl ((L.getD k nz).2 + cc))
        have bd := D.out.bag.bds _ (nd_mem hkl)
        have hsum := sumC_mem (good_nonneg D.out.bag.good) (nd_mem hkl)
        have R3o : Hid (w3.ownsRow B 31 2 (.slice (some ⟨h, 0, none⟩) n c) n (nods L)) := by have q := R3.out; unfold OwnNd at q; rw [← hm.out] at q; exact q
        have DONE : Hid (BgPost B g l (insW L x cc) 0 (.slice (some ⟨h, 0, none⟩) n c) w (.returned (.int .i64 0)) (w3.setCell ⟨h, k * 2 + 1, none⟩ (.int .i64 ((L.getD k nz).2 + cc)))) := by
          have S := R3o.out.stored (k * 2 + 1) (.int .i64 ((L.getD k nz).2 + cc))
          have hgh : g ≠ h := by
            rcases own_apart T3.out R3o.out (by decide) with q | q
            · simp [Value.ownBlock] at q
            · intro e; subst e; exact q rfl
          refine ⟨_, rfl, ⟨BC.out, by rw [IT.out]; exact ownsRow_setCell_other T3.out (a := ⟨h, k * 2 + 1, none⟩) (by simp [Value.ownBlock]; exact hgh) _, ?_, by decide⟩, K3.out.set _ (fun _ => .inr rfl), At2.refl _ _⟩
          rw [hs.out, ← hx]
          unfold OwnNd
          rw [PW.out, List.length_set, ← hm.out]
          exact S.1
        rw [hx] at u0
        clear hin hx
        generalize (L.getD k nz).2 = y at *
        generalize sumC L = T at *
        clear ADD
        go_wp2_with fail
        go_ret
        exact DONE.out
      · have hs : Hid (insW L x cc = L.take k ++ (x, cc) :: L.drop k) := by
          show _ = _
          have q := ins_new (c := cc) D.out.bag.good (x := x) (fun _ => by rw [← HKK.out]; exact hx)
          rw [← HKK.out] at q
          exact q
        have hx' : ((L.getD k nz).1 == x) = false := by simpa using hx
        clear hin hx
        generalize (L.getD k nz).1 = y at *
        go_wp2_with (go_at_call 41; refine (bgPut_mid k x cc w3 T3.out R3.out (by omega) (by omega)).mono ?_; rintro e w4 hp; obtain rfl := hp.choose_spec.1)
        go_ret
        exact ADD.out k _ (by omega) hs.out hp
    · have hs : Hid (insW L x cc = L.take k ++ (x, cc) :: L.drop k) := by
        show _ = _
        have q := ins_new (c := cc) D.out.bag.good (x := x) (fun g => absurd g (by rw [← HKK.out]; have := hm.out; omega))
        rw [← HKK.out] at q
        exact q
      have k1 : ¬ (k : Int) < (n : Int) := by omega
      go_wp2_with (go_at_call 41; refine (bgPut_mid k x cc w3 T3.out R3.out (by omega) (by omega)).mono ?_; rintro e w4 hp; obtain rfl := hp.choose_spec.1)
      go_ret
      exact ADD.out k _ (by omega) hs.out hp

end Go.Proofs.Ytfleaaokbjgljaa
