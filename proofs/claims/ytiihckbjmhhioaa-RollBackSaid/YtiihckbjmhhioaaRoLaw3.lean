/- The walks of the statements RollFolds and RollBack of layer roll: for every input each returns true, and nothing that was there before is changed. -/
import Derived.Test.YtiihckbjmhhioaaRoLaw
namespace Go.Proofs.Ytiihckbjmhhioaa
set_option linter.unusedVariables false
open Go.RowKit

/-- what Fold hands out of L: L folded, or nothing -/
def Res (L F : List Nd) : Prop := (foldB L = true ∧ FoldOf L F) ∨ (foldB L = false ∧ F = [])
theorem Res.inv {L F : List Nd} (h : Res L F) (hb : foldB L = true) : FInv L F := by
  rcases h with ⟨_, h⟩ | ⟨g, _⟩
  · exact h.inv (foldC_iff.1 hb).1.1
  · rw [hb] at g; simp at g
theorem Res.uniq {L F G : List Nd} (a : Res L F) (b : Res L G) : F = G := by
  cases hb : foldB L
  · rcases a with ⟨g, _⟩ | ⟨_, rfl⟩
    · rw [hb] at g; simp at g
    · rcases b with ⟨g, _⟩ | ⟨_, rfl⟩
      · rw [hb] at g; simp at g
      · rfl
  · exact fold_same (a.inv hb) (b.inv hb) fun _ => rfl
theorem Res.len {L F : List Nd} (h : Res L F) : F.length ≤ L.length := by
  cases hb : foldB L
  · rcases h with ⟨g, _⟩ | ⟨_, rfl⟩
    · rw [hb] at g; simp at g
    · simp
  · exact (h.inv hb).len
theorem mem_le_sum {F : List Nd} (h : NonNeg F) {n : Nd} (hn : n ∈ F) : n.2 ≤ sumC F := by
  induction F with
  | nil => simp at hn
  | cons m F ih =>
    have h0 := sumC_nonneg (L := F) fun x hx => h x (by simp [hx])
    have h1 := h m (by simp)
    rcases List.mem_cons.1 hn with rfl | hn
    · simp only [sumC]; omega
    · have := ih (fun x hx => h x (by simp [hx])) hn
      simp only [sumC]; omega
theorem Res.bds {L F : List Nd} (h : Res L F) (hB : NBds L) : NBds F := by
  intro n hn
  cases hb : foldB L
  · rcases h with ⟨g, _⟩ | ⟨_, rfl⟩
    · rw [hb] at g; simp at g
    · simp at hn
  · have i := h.inv hb
    have hc := i.foldC (foldC_iff.1 hb)
    obtain ⟨m, hm, e⟩ := i.mem n hn
    have h1 := (hB m hm).1
    have h2 := i.good.pos n hn
    have h3 := mem_le_sum hc.1.1 hn
    have h4 := hc.1.2
    rw [e] at h1
    exact ⟨h1, by omega, by omega⟩
theorem res_of {L : List Nd} {w w' : World} {e : Ending} (q : FoldPost L w e w') :
    ∃ F A m c, e = .returned (.tuple #[.slice A m c, .bool (foldB L)]) ∧ Res L F ∧ NodesAt w' (.slice A m c) F ∧ m ≤ L.length ∧ Below w.heap.size w w' := by
  rcases q with ⟨g, rfl, hb⟩ | ⟨g, F, A, c, rfl, hF, hn, hb⟩
  · exact ⟨[], none, 0, 0, by rw [g], .inr ⟨g, rfl⟩, nodes_nil _, by omega, hb⟩
  · have r : Res L F := .inl ⟨g, hF⟩
    exact ⟨F, A, F.length, c, by rw [g], r, hn, r.len, hb⟩
theorem nbds_of_app {L M : List Nd} (a : NBds L) (b : NBds M) : NBds (L ++ M) := nbds_app a b
/-- handed in the other way round -/
theorem res_swap {L M S T : List Nd} (a : Res (L ++ M) S) (b : Res (M ++ L) T) : S = T := by
  cases hb : foldB (L ++ M)
  · have hb2 : foldB (M ++ L) = false := by rw [← foldB_swap]; exact hb
    rcases a with ⟨g, _⟩ | ⟨_, rfl⟩
    · rw [hb] at g; simp at g
    · rcases b with ⟨g, _⟩ | ⟨_, rfl⟩
      · rw [hb2] at g; simp at g
      · rfl
  · have hb2 : foldB (M ++ L) = true := by rw [← foldB_swap]; exact hb
    exact fold_same (a.inv hb) (b.inv hb2) fun id => by rw [sumAt_app, sumAt_app]; omega
theorem res_none {L F : List Nd} (h : Res L F) (hb : foldB L = false) : F = [] := by
  rcases h with ⟨g, _⟩ | ⟨_, e⟩
  · rw [hb] at g; simp at g
  · exact e
/-- folded again -/
theorem res_again {L S F : List Nd} (a : Res L S) (hb : foldB L = true) (f : Res S F) : foldB S = true ∧ F = S := by
  have i := a.inv hb
  have hc := i.foldC (foldC_iff.1 hb)
  have hS := foldC_iff.2 hc
  refine ⟨hS, ?_⟩
  have j := f.inv hS
  exact good_uniq F S j.good i.good j.at_
theorem res_parts {L M : List Nd} (hb : foldB (L ++ M) = true) : foldB L = true ∧ foldB M = true := by
  have := foldC_app (foldC_iff.1 hb)
  exact ⟨foldC_iff.2 this.1, foldC_iff.2 this.2⟩
theorem res_both {L M S P Q B : List Nd} (a : Res (L ++ M) S) (hb : foldB (L ++ M) = true) (p : Res L P) (q : Res M Q) (b : Res (P ++ Q) B) : foldB (P ++ Q) = true ∧ B = S := by
  obtain ⟨h1, h2⟩ := res_parts hb
  have ip := p.inv h1
  have iq := q.inv h2
  have hc := foldC_iff.2 (foldC_two ip iq (foldC_iff.1 hb))
  refine ⟨hc, ?_⟩
  have ib := b.inv hc
  have ia := a.inv hb
  refine fold_same (L := P ++ Q) (M := L ++ M) ib ia fun id => ?_
  rw [sumAt_app, sumAt_app, ip.at_, iq.at_]
theorem res_tot {L M S P Q : List Nd} (a : Res (L ++ M) S) (hb : foldB (L ++ M) = true) (p : Res L P) (q : Res M Q) : totB S = true ∧ totN S = totN P + totN Q ∧ 0 ≤ totN P ∧ totN P ≤ 72057594037927935 ∧ 0 ≤ totN Q ∧ totN Q ≤ 72057594037927935 := by
  obtain ⟨h1, h2⟩ := res_parts hb
  have ip := p.inv h1
  have iq := q.inv h2
  have ia := a.inv hb
  have cs := (ia.foldC (foldC_iff.1 hb)).1
  have cp := (ip.foldC (foldC_iff.1 h1)).1
  have cq := (iq.foldC (foldC_iff.1 h2)).1
  have n1 := sumC_nonneg cp.1
  have n2 := sumC_nonneg cq.1
  have u1 := cp.2
  have u2 := cq.2
  rw [(tot_yes cs).1, (tot_yes cp).1, (tot_yes cq).1]
  refine ⟨(tot_yes cs).2, ?_, n1, u1, n2, u2⟩
  rw [ia.sum, ip.sum, iq.sum, sumC_app]
/-- are there such a universe, and all Ids up to place k nodes of it? -/
def allB (l : Int) (S : List Nd) (k : Nat) : Bool := uniB l && (S.take k).all fun n => rightB l n.1
theorem all_zero (l : Int) (S : List Nd) : allB l S 0 = uniB l := by simp [allB]
theorem all_next {l : Int} {S : List Nd} {k : Nat} (hk : k < S.length) : allB l S (k + 1) = (allB l S k && rightB l (S.getD k nz).1) := by
  unfold allB
  rw [nd_take hk, List.all_append]
  simp [Bool.and_assoc]
theorem all_end {L S : List Nd} {l : Int} (a : Res L S) (hb : foldB L = true) : allB l S S.length = rollB l S := by
  have i := a.inv hb
  have hc := (i.foldC (foldC_iff.1 hb)).1
  have g := good_roll (l := l) i.good hc
  unfold allB
  rw [List.take_of_length_le (Nat.le_refl _)]
  cases h : rollB l S
  · rw [Bool.and_eq_false_iff]
    cases hu : uniB l
    · exact .inl rfl
    · right
      cases ha : S.all fun n => rightB l n.1
      · rfl
      · exfalso
        have := roll_yes (g.2 ⟨hu, List.all_eq_true.1 ha⟩)
        rw [h] at this; simp at this
  · have := g.1 (roll_iff.1 h)
    rw [this.1, Bool.true_and, List.all_eq_true]
    exact this.2
set_option maxHeartbeats 3200000 in
set_option maxRecDepth 100000 in
theorem walk_rollFolds (A1 : Option Addr) (n1 c1 : Nat) (L : List Nd) (A2 : Option Addr) (n2 c2 : Nat) (M : List Nd) (B1 : NBds L) (m1 : n1 ≤ 9223372036854775807) (B2 : NBds M) (m2 : n2 ≤ 9223372036854775807) (w : World) (H1 : NodesAt w (.slice A1 n1 c1) L) (H2 : NodesAt w (.slice A2 n2 c2) M) :
    Calls Try.prog 5 #[.slice A1 n1 c1, .slice A2 n2 c2] w fun e w' => e = .returned (.bool true) ∧ Below w.heap.size w w' := by
  have HA := Lib.hid H1
  have HB := Lib.hid H2
  have HL := Lib.hid (nodes_cells H1).1
  have HM := Lib.hid (nodes_cells H2).1
  have BA := Lib.hid B1
  have BB := Lib.hid B2
  clear H1 H2 B1 B2
  by_cases hn1 : 100 < n1
  · go_enter Try.func5, Try.ntmps5
    go_wp2_with (go_at_call 8; refine (roAlive_any _).mono ?_; rintro e w1 ⟨rfl, hb1⟩)
    go_ret
    exact ⟨rfl, hb1⟩
  · by_cases hn2 : 100 < n2
    · go_enter Try.func5, Try.ntmps5
      go_wp2_with (go_at_call 8; refine (roAlive_any _).mono ?_; rintro e w1 ⟨rfl, hb1⟩)
      go_ret
      exact ⟨rfl, hb1⟩
    · have hLM : Hid ((L ++ M).length ≤ 200) := by show _ ≤ _; rw [List.length_append]; have := HL.out; have := HM.out; omega
      have hL : Hid (L.length ≤ 100) := by show _ ≤ _; have := HL.out; omega
      go_enter Try.func5, Try.ntmps5
      go_wp2_with fail
      refine ((fold_any _ _ _ L _ HA.out BA.out (by omega)).mono fun _ _ q => res_of q).mono ?_
      rintro e w1 ⟨F1, P1, k1, d1, rfl, r1, t1, l1, b1⟩
      have R1 := Lib.hid r1
      have T1 := Lib.hid t1
      have hk1 : k1 ≤ 100 := by have := hL.out; omega
      clear r1 t1 l1
      go_wp2_with fail
      refine ((rFold_any _ _ _ L _ (HA.out.below b1) BA.out (by omega)).mono fun _ _ q => res_of q).mono ?_
      rintro e w2 ⟨F2, P2, k2, d2, rfl, r2, t2, l2, b2⟩
      obtain rfl := R1.out.uniq r2
      have T2 := Lib.hid t2
      have T1b := Lib.hid (T1.out.below b2)
      have hk2 : k2 ≤ 100 := by have := hL.out; omega
      have b12 : Below w.heap.size w w2 := b1.trans (b2.mono b1.size)
      clear r2 t2 l2 b1 b2 T1
      go_wp2_with fail
      refine ((join_any _ _ _ _ _ _ L M _ (HA.out.below b12) (HB.out.below b12) BA.out BB.out (by omega) (by omega)).mono fun _ _ q => res_of q).mono ?_
      rintro e w3 ⟨F3, P3, k3, d3, rfl, r3, t3, l3, b3⟩
      have R3 := Lib.hid r3
      have T3 := Lib.hid t3
      have T1c := Lib.hid (T1b.out.below b3)
      have T2c := Lib.hid (T2.out.below b3)
      have hk3 : k3 ≤ 200 := by have := hLM.out; omega
      have b13 : Below w.heap.size w w3 := b12.trans (b3.mono b12.size)
      clear r3 t3 l3 b3 b12 T1b T2
      go_wp2_with fail
      refine ((rJoin_any _ _ _ _ _ _ L M _ (HA.out.below b13) (HB.out.below b13) BA.out BB.out (by omega) (by omega)).mono fun _ _ q => res_of q).mono ?_
      rintro e w4 ⟨F4, P4, k4, d4, rfl, r4, t4, l4, b4⟩
      obtain rfl := R3.out.uniq r4
      have T4 := Lib.hid t4
      have T1d := Lib.hid (T1c.out.below b4)
      have T2d := Lib.hid (T2c.out.below b4)
      have T3d := Lib.hid (T3.out.below b4)
      have hk4 : k4 ≤ 200 := by have := hLM.out; omega
      have b14 : Below w.heap.size w w4 := b13.trans (b4.mono b13.size)
      have s1 := same_self F1
      have s3 := same_self F3
      clear r4 t4 l4 b4 b13 T1c T2c T3
      go_wp2_with fail
      refine (rSame_any _ _ _ _ _ _ F1 F1 _ T1d.out T2d.out (by omega) (by omega)).mono ?_
      rintro e w5 ⟨rfl, q5, rfl⟩
      go_wp2_with fail
      refine (rSame_any _ _ _ _ _ _ F3 F3 _ (by exact T3d.out) (by exact T4.out) (by omega) (by omega)).mono ?_
      rintro e w6 ⟨rfl, q6, rfl⟩
      go_wp2_with (go_at_call 8; refine (roAlive_any _).mono ?_; rintro e w7 ⟨rfl, hb7⟩)
      go_ret
      exact ⟨rfl, (drewN_below b14 _).trans (hb7.mono b14.size)⟩

end Go.Proofs.Ytiihckbjmhhioaa
