/- The project's package bins: Even. -/
import Derived.Test.YtnhagdlpidgkcaaGreatBiP2
import Derived.Test.YtnhagdlpidgkcaaGreatQuQ
import Derived.Test.YtnhagdlpidgkcaaGreatBiR
import Derived.Test.YtnhagdlpidgkcaaGreatComp
import Derived.Sort.OwnSortedInts
namespace Go.Proofs.YtnhagdlpidgkcaaGreat
set_option linter.unusedVariables false
set_option maxRecDepth 100000
open Go.RowKit Go.Sort Go.Shelf
/-- some parts of all, rounded up: the parts' rest tells -/
theorem biPu {s i p : Int} (s1 : 1 ≤ s) (s2 : s ≤ 72057594037927935) (i1 : 1 ≤ i) (ip : i ≤ p) : (s * i % p = 0 ∧ partUpN s i p = s * i / p) ∨ (0 < s * i % p ∧ partUpN s i p = s * i / p + 1) := by
  have pc : partC s i p := ⟨by omega, by omega, by omega⟩
  have m1 : s * i ≤ s * p := Int.mul_le_mul_of_nonneg_left ip (by omega)
  have m2 : s * p < 9223372036854775808 * p := Int.mul_lt_mul_of_pos_right (by omega) (by omega)
  have lt : s * i < 9223372036854775808 * p := by omega
  have pn : partN s i p = s * i / p := by rw [(part_yes pc).1]; exact if_pos lt
  have q1 : s * i / p ≤ s := Int.ediv_le_of_le_mul (by omega) m1
  have r0 := Int.emod_nonneg (s * i) (show p ≠ 0 by omega)
  have rr := (part_yes pc).2.1
  cases hr : partR s i p
  · rw [hr] at rr
    refine .inl ⟨?_, by rw [(partUp_flat hr).1, pn]⟩
    unfold quotR at rr
    have := rr.symm
    simp only [decide_eq_true lt, Bool.true_and] at this
    simpa using this
  · rw [hr] at rr
    have rn : s * i % p ≠ 0 := by
      unfold quotR at rr
      simp only [Bool.true_eq, Bool.and_eq_true] at rr
      exact of_decide_eq_true rr.2
    exact .inr ⟨by omega, by rw [(partUp_more hr (by rw [pn]; omega)).1, pn]⟩
theorem biPu_mono {s i p : Int} (s1 : 1 ≤ s) (s2 : s ≤ 72057594037927935) (i1 : 1 ≤ i) (ip : i + 1 ≤ p) : partUpN s i p ≤ partUpN s (i + 1) p := by
  have a := biPu s1 s2 i1 (show i ≤ p by omega)
  have b := biPu s1 s2 (i := i + 1) (by omega) ip
  have le : s * i ≤ s * (i + 1) := Int.mul_le_mul_of_nonneg_left (by omega) (by omega)
  have d := Int.ediv_le_ediv (show 0 < p by omega) le
  have e1 := Int.mul_ediv_add_emod (s * i) p
  have e2 := Int.mul_ediv_add_emod (s * (i + 1)) p
  generalize s * (i + 1) = y at *
  generalize s * i = x at *
  by_cases q : x / p = y / p
  · rw [q] at a e1
    generalize p * (y / p) = z at *
    omega
  · omega
/-- the ranks of the even parts -/
def biRk (L : List Nd) (t : Int) (m : Nat) : List Int := (List.range m).map fun i : Nat => shR L ((i : Int) + 1) t
theorem biRk_snoc (L : List Nd) (t : Int) (m : Nat) : biRk L t (m + 1) = biRk L t m ++ [shR L ((m : Int) + 1) t] := range_snoc (fun i : Nat => shR L ((i : Int) + 1) t) m
theorem biRk_len (L : List Nd) (t : Int) (m : Nat) : (biRk L t m).length = m := by simp [biRk]
theorem biSh {L : List Nd} {i t : Int} (s1 : 1 ≤ sumC L) (s2 : sumC L ≤ 72057594037927935) (i1 : 1 ≤ i) (it : i ≤ t) : shE L i t = 0 ∧ shR L i t = partUpN (sumC L) i t ∧ 1 ≤ shR L i t ∧ shR L i t ≤ sumC L := by
  have pu := partUp_in s1 s2 i1 it
  have e : shR L i t = partUpN (sumC L) i t := by unfold shR; rw [if_neg (by omega)]
  exact ⟨by unfold shE; rw [if_neg (by omega), if_neg (by omega)], e, by omega, by omega⟩
theorem biRk_in {L : List Nd} {t : Int} {m : Nat} (s1 : 1 ≤ sumC L) (s2 : sumC L ≤ 72057594037927935) (hm : (m : Int) < t) : ∀ r ∈ biRk L t m, 1 ≤ r ∧ r ≤ sumC L := fun r hr => by
  unfold biRk at hr
  obtain ⟨i, hi, rfl⟩ := List.mem_map.1 hr
  have := List.mem_range.1 hi
  exact (biSh s1 s2 (by omega) (by omega)).2.2
theorem biMn {L : List Nd} : ∀ {R : List Int}, (∀ r ∈ R, 1 ≤ r ∧ r ≤ sumC L) → mnE L R = 0
  | [], _ => rfl
  | r :: R, h => by
    have a := h r (by simp)
    simp only [mnE]
    rw [if_pos (wrE_yes a.1 a.2)]
    exact biMn fun x hx => h x (by simp [hx])
theorem biEv_at {l t : Int} {L : List Nd} {m j : Nat} (h : j < m) : ((biRk L t m).map (atN l L)).toArray[j]! = atN l L (shR L ((j : Int) + 1) t) := by
  simp [biRk, h]
theorem biLast (T : List Int) (x : Int) : (T ++ [x]).getD ((T ++ [x]).length - 1) 0 = x := by
  simp [List.getD_eq_getElem?_getD]
/-- each once, rising: just what is left when runs of alike ones are one each -/
theorem biEv_step {l t : Int} {L : List Nd} (hr : RollC l L) (s1 : 1 ≤ sumC L) {m : Nat} (hm : (m : Int) < t) : ∀ k, k ≤ m → Lib.compactUpTo ((biRk L t m).map (atN l L)).toArray k = evF l L t k ∧ (0 < k → 0 < (evF l L t k).length ∧ (evF l L t k).getD ((evF l L t k).length - 1) 0 = atN l L (shR L (k : Int) t))
  | 0, _ => ⟨by simp [Lib.compactUpTo, evF], fun h => absurd h (by omega)⟩
  | k + 1, h => by
    have s2 : sumC L ≤ 72057594037927935 := hr.2.2.2.2
    obtain ⟨ih, il⟩ := biEv_step hr s1 hm k (by omega)
    have ek := biEv_at (l := l) (t := t) (L := L) (m := m) (j := k) (by omega)
    have sk := biSh (L := L) (i := (k : Int) + 1) (t := t) s1 s2 (by omega) (by omega)
    have ev : evF l L t (k + 1) = evS (evF l L t k) (atN l L (shR L ((k : Int) + 1) t)) := by rw [sk.2.1]; rfl
    have ck : ((k + 1 : Nat) : Int) = (k : Int) + 1 := by omega
    rw [ck, ev, Lib.compactUpTo_succ, ih, ek]
    by_cases z : k = 0
    · subst z
      have kp : Lib.keeps ((biRk L t m).map (atN l L)).toArray 0 = true := by simp [Lib.keeps]
      rw [kp, if_pos rfl]
      have e0 : evF l L t 0 = [] := rfl
      rw [e0]
      unfold evS
      rw [if_pos (.inl rfl)]
      exact ⟨rfl, fun _ => ⟨by simp, by simp⟩⟩
    · obtain ⟨i, rfl⟩ : ∃ i, k = i + 1 := ⟨k - 1, by omega⟩
      obtain ⟨l1, l2⟩ := il (by omega)
      have ep := biEv_at (l := l) (t := t) (L := L) (m := m) (j := i) (by omega)
      have sp := biSh (L := L) (i := (i : Int) + 1) (t := t) s1 s2 (by omega) (by omega)
      have ci : ((i + 1 : Nat) : Int) = (i : Int) + 1 := by omega
      rw [ci] at l2 ek sk ⊢
      have mono : shR L ((i : Int) + 1) t ≤ shR L ((i : Int) + 1 + 1) t := by
        rw [sp.2.1, sk.2.1]; exact biPu_mono s1 s2 (by omega) (by omega)
      have le := AtP.mono (at_is hr sp.2.2.1 sp.2.2.2).1 (at_is hr sk.2.2.1 sk.2.2.2).1 mono
      generalize atN l L (shR L ((i : Int) + 1 + 1) t) = x at *
      generalize atN l L (shR L ((i : Int) + 1) t) = y at *
      generalize evF l L t (i + 1) = P at *
      generalize ((biRk L t m).map (atN l L)).toArray = d at *
      unfold evS
      by_cases lt : y < x
      · have kp : Lib.keeps d (i + 1) = true := Lib.keeps_pos (by rw [Nat.add_sub_cancel, ek, ep]; omega)
        rw [kp, if_pos rfl, if_pos (.inr (by rw [l2]; exact lt))]
        exact ⟨rfl, fun _ => ⟨by simp, biLast P x⟩⟩
      · have kp : Lib.keeps d (i + 1) = false := Lib.keeps_neg (by omega) (by rw [Nat.add_sub_cancel, ek, ep]; omega)
        rw [kp, if_neg (by decide), if_neg (by rw [l2]; omega), List.append_nil]
        exact ⟨rfl, fun _ => ⟨l1, by rw [l2]; omega⟩⟩
theorem biEv_is {l t : Int} {L : List Nd} (hr : RollC l L) (s1 : 1 ≤ sumC L) {m : Nat} (hm : (m : Int) < t) : Lib.compact ((biRk L t m).map (atN l L)) = evF l L t m := by
  have h := (biEv_step hr s1 hm m (Nat.le_refl _)).1
  unfold Lib.compact
  rw [List.length_map, biRk_len]
  exact h
/-- runs of alike elements are made one each, in the row itself -/
theorem biComp_any {B n c : Nat} {A : Option Addr} {T : List Int} (w : World) (o : OwnI 3 w B (.slice A n c) T) (hl : T.length ≤ 1000000) :
    Calls Tryz.prog 45 #[.slice A n c] w fun e w' => (∃ A2 n2 c2, e = .returned (.slice A2 n2 c2) ∧ IntsAt w' (.slice A2 n2 c2) (Lib.compact T)) ∧ Below B w w' := by
  obtain ⟨hsz, ⟨hv, h0⟩ | ⟨g, cap, cur, hv, hB, hb, hn, hc, hcs, ht⟩⟩ := o
  · cases hv
    have e : T = [] := List.eq_nil_of_length_eq_zero h0
    subst e
    refine (Any.slices_Compact_int_empty Tryz.laysComp none 0 w).mono ?_
    rintro e w' ⟨rfl, rfl⟩
    exact ⟨⟨none, 0, 0, rfl, ints_nil _⟩, Below.refl _ _⟩
  · cases hv
    have hg : g < w.heap.size := (Array.getElem?_eq_some_iff.1 hb).1
    have ht' : cur.toList.take T.length = T.map (Value.int .i64) := by rw [Nat.mul_one] at ht; exact ht
    have H := holds_of_blockI hb ht'
    refine (Any.slices_Compact_int Tryz.laysComp g 0 c T w H (by omega) hn).mono ?_
    rintro e' w' ⟨rfl, q, rfl⟩
    have cl : (Lib.compact T).length ≤ T.length := by
      unfold Lib.compact Lib.compactUpTo
      rw [List.length_map]
      exact Nat.le_trans (List.length_filter_le _ _) (by simp)
    have O := ownsRow_sortedI (base := B) (n := q) (os := #[]) (ts := Lib.compact T ++ List.replicate (T.length - (Lib.compact T).length) 0) (ss := T) (by rw [List.length_append, List.length_replicate]; omega) hB hb hn hc hcs
    have G := grownBy_sortedI (w := w) (g := g) (n := q) (os := #[]) (Lib.compact T ++ List.replicate (T.length - (Lib.compact T).length) 0).toArray
    have gz : ∀ W : World, grow W #[] = W := fun W => by simp [grow]
    rw [gz] at O G
    generalize putRow (Value.int .i64) (Sort.ahead w q) g 0 (Lib.compact T ++ List.replicate (T.length - (Lib.compact T).length) 0).toArray = w2 at *
    have O2 : OwnI 3 w2 B (.slice (some ⟨g, 0, none⟩) (Lib.compact T ++ List.replicate (T.length - (Lib.compact T).length) 0).length c) (Lib.compact T ++ List.replicate (T.length - (Lib.compact T).length) 0) := by
      have e : (Lib.compact T ++ List.replicate (T.length - (Lib.compact T).length) (0 : Int)).length = T.length := by rw [List.length_append, List.length_replicate]; omega
      unfold OwnI ints
      rw [e]
      exact O
    have O3 := ownI_cut O2
    exact ⟨⟨_, _, _, rfl, ownI_ints O3⟩, below_grown (v := .slice (some ⟨g, 0, none⟩) T.length c) G (fun g' e => by simp [Value.ownBlock] at e; omega) (by omega)⟩
theorem biEven_nil (p : Int) (w : World) : Calls Tryz.prog 18 #[.pointer none, .int .i64 p] w fun e w' => (∃ A c, e = .returned (.tuple #[.slice A 0 c, .int .i64 1])) ∧ Below w.heap.size w w' := by
  go_enter Tryz.func18, Tryz.ntmps18
  go_wp2_with fail
  go_ret2
  exact ⟨⟨_, _, rfl⟩, Below.refl _ _⟩
set_option maxHeartbeats 6400000 in
theorem biEven_any {B q p g h : Nat} {kd l k : Int} {m : Nat} {L : List Nd} (t : Int) (w : World) (d : DgA w B q p g h kd l k m L) (hm : m ≤ 400) (T0 : -9223372036854775808 ≤ t) (T1 : t ≤ 9223372036854775807) :
    Calls Tryz.prog 18 #[.pointer (some ⟨q, 0, none⟩), .int .i64 t] w fun e w' => (∃ A2 n2 c2, e = .returned (.tuple #[.slice A2 n2 c2, .int .i64 (evE L t)]) ∧ IntsAt w' (.slice A2 n2 c2) (if evE L t = 0 then evF l L t (t.toNat - 1) else [])) ∧ Below w.heap.size w w' := by
  obtain ⟨i0, hi, hz0, hz1, hz2⟩ := info_parts rkInt_info
  have PN : ∀ w, (binOp .eql 31 (.pointer (some ⟨q, 0, none⟩)) (.pointer none)).run Tryz.prog w = .ok (.bool false) w := fun _ => by kernel_rfl
  have DN := Lib.hid (dgN_any w d.box d.po (by omega))
  have RO := Lib.hid d.v.roll
  have s2 : sumC L ≤ 72057594037927935 := d.v.roll.2.2.2.2
  have s0 : 0 ≤ sumC L := by have nn := good_nonneg (roll_good d.v.roll); exact Int.le_trans (sum_le nn 0).1 (sum_le nn 0).2
  have EE : Hid (evE L t = if sumC L = 0 then 7 else if t < 1 ∨ 1000 < t then 2 else 0) := rfl
  have QR := Lib.hid (fun a v (hv : Below w.heap.size w v) A0 A1 => quRank_any a t v (d.below hv) hm A0 A1 T0 T1)
  have QM := Lib.hid (fun v (hv : Below w.heap.size w v) (A : Option Addr) (n c : Nat) (R : List Int) (hR : IntsAt v (.slice A n c) R) (hn : n ≤ 1000) hb => quMany_own v (d.below hv) hm hR hn hb)
  clear d
  by_cases z : sumC L = 0
  · have e : evE L t = 7 := by rw [EE.out, if_pos z]
    rw [e, if_neg (by omega)]
    rw [z] at DN
    clear e z EE RO s2 s0 QR QM
    go_enter Tryz.func18, Tryz.ntmps18
    go_wp2_with (go_at_call 28; refine DN.out.mono ?_; rintro e w1 ⟨rfl, hb1⟩)
    go_ret2
    exact ⟨⟨none, 0, 0, rfl, ints_nil _⟩, hb1⟩
  have z1 : (sumC L == 0) = false := beq_eq_false_iff_ne.2 z
  by_cases c1 : t < 1 ∨ 1000 < t
  · have e : evE L t = 2 := by rw [EE.out, if_neg z, if_pos c1]
    rw [e, if_neg (by omega)]
    clear e z EE RO QR QM
    generalize sumC L = s at *
    rcases (show t < 1 ∨ (¬ t < 1 ∧ 1000 < t) by omega) with c2 | ⟨c2, c3⟩
    all_goals
      clear c1
      go_enter Tryz.func18, Tryz.ntmps18
      go_wp2_with (go_at_call 28; refine DN.out.mono ?_; rintro e w1 ⟨rfl, hb1⟩)
      go_ret2
      exact ⟨⟨none, 0, 0, rfl, ints_nil _⟩, hb1⟩
  · have e : evE L t = 0 := by rw [EE.out, if_neg z, if_neg c1]
    rw [e, if_pos rfl]
    have c2 : ¬ t < 1 := by omega
    have c3 : ¬ 1000 < t := by omega
    have s1 : 1 ≤ sumC L := by omega
    obtain ⟨mm, hmm⟩ : ∃ mm : Nat, mm = t.toNat - 1 := ⟨_, rfl⟩
    have PM : Hid (t = (mm : Int) + 1) := by show _ = _; omega
    have PL : Hid (mm ≤ 999) := by show _ ≤ _; omega
    rw [← hmm, ← biEv_is RO.out s1 (m := mm) (by omega)]
    have QJ : Hid (∀ (j : Nat), (j : Int) + 1 < t → ∀ v, Below w.heap.size w v → Calls Tryz.prog 43 #[.pointer (some ⟨q, 0, none⟩), .int .i64 ((j : Int) + 1), .int .i64 t] v fun e w' => e = .returned (.tuple #[.int .i64 (shR L ((j : Int) + 1) t), .int .i64 0]) ∧ Below v.heap.size v w') := fun j hj v hv => by
      have sj := biSh (L := L) (i := (j : Int) + 1) (t := t) s1 s2 (by omega) (by omega)
      have a := QR.out ((j : Int) + 1) v hv (by omega) (by omega)
      rw [show shN L ((j : Int) + 1) t = shR L ((j : Int) + 1) t by unfold shN; rw [if_pos sj.1], sj.1] at a
      exact a
    have RI := Lib.hid (biRk_in (L := L) (t := t) (m := mm) s1 s2 (by omega))
    have SB := Lib.hid (fun (j : Nat) (hj : (j : Int) + 1 < t) => (biSh (L := L) (i := (j : Int) + 1) (t := t) s1 s2 (by omega) (by omega)).2.2)
    have S2 := Lib.hid s2
    obtain ⟨Ev, hEv⟩ : ∃ Ev, Ev = Lib.compact ((biRk L t mm).map (atN l L)) := ⟨_, rfl⟩
    rw [← hEv]
    have EV := Lib.hid hEv
    clear e z EE RO c1 hmm QR hEv s2
    go_enter Tryz.func18, Tryz.ntmps18
    go_wp2_with (go_at_call 28; refine DN.out.mono ?_; rintro e w1 ⟨rfl, hb1⟩; have B1 := Lib.hid hb1; clear hb1)
    go_loopw [6, 7] (fun v i wr => ∃ j : Nat, j ≤ mm ∧ i = .int .i64 ((j : Int) + 1) ∧ OwnI 3 wr w1.heap.size v (biRk L t j) ∧ Below w1.heap.size w1 wr) (fun _ i _ => mm + 1 - (intOf i).toNat)
    case atStart => exact ⟨0, by omega, by rfl, ownI_nil .., Below.refl _ _⟩
    case round =>
      obtain ⟨j, hj, rfl, ho, hb⟩ := hrel
      have BW := Lib.hid hb
      have OO := Lib.hid ho
      clear ho hb
      by_cases hlt : j < mm
      · have hjp : (j : Int) + 1 < t := by have := PM.out; omega
        have BR := Lib.hid (B1.out.trans (BW.out.mono B1.out.size))
        have QJj := Lib.hid (QJ.out j hjp _ BR.out)
        have sb := SB.out j hjp
        have RS := Lib.hid (biRk_snoc L t j)
        have RL := biRk_len L t j
        have S2' := S2.out
        obtain ⟨P2, hP2⟩ : ∃ P2, P2 = biRk L t (j + 1) := ⟨_, rfl⟩
        rw [← hP2] at RS
        have HP2 := Lib.hid hP2
        clear hP2
        generalize biRk L t j = P at *
        generalize shR L ((j : Int) + 1) t = x at *
        obtain ⟨i1, hi1⟩ : ∃ i1 : Int, i1 = (j : Int) + 1 := ⟨_, rfl⟩
        rw [← hi1] at hjp QJj ⊢
        have HI1 := Lib.hid hi1
        clear hi1
        go_wp2_with fail
        refine QJj.out.mono ?_
        rintro e w4 ⟨rfl, hb4⟩
        have W4 := Lib.hid (BW.out.trans (hb4.mono BW.out.size))
        have O4 := Lib.hid (own_below OO.out hb4)
        clear hb4 OO
        have s4 := W4.out.size
        have pl := PL.out
        have hb1 : wrap64 (i1 + 1) = ((j + 1 : Nat) : Int) + 1 := by have := HI1.out; rw [IntWalk.wrap64_in _ (by omega)]; omega
        have HI2 : Hid (Value.int .i64 (wrap64 (i1 + 1)) = .int .i64 (((j + 1 : Nat) : Int) + 1)) := by show _ = _; rw [hb1]
        have HB1 := Lib.hid hb1
        have PL2 : P.length ≤ 1000 := by omega
        clear RL hb1
        go_wp2_with (at_builtin; refine wpList_append_own _ rfl _ _ 27 rfl w1.heap.size 3 i0 (.int .i64 0) 1 8 Tryz.underlying27 hi hz0 hz1 hz2 rfl (by decide) _ P.length (ints P) rfl (World.ownsRow.alloc O4.out _) ⟨w4.heap.size, 0, none⟩ 1 1 [.int .i64 x] rfl rfl (one_new _ _ _ _ rfl) (one_int _) (by unfold maxLen; omega) (by omega) (by simp; omega) ?_)
        intro v' w6 hown hgrow hnil
        have B6 := Lib.hid ((W4.out.alloc (by omega) (.cells #[.int .i64 x] 3)).grown hgrow (by simp; omega) (fun g hg => (World.ownsRow.lt O4.out g hg).1))
        have O6 := Lib.hid (ownI_snoc rfl hown)
        rw [← RS.out] at O6
        clear hown hgrow hnil
        go_wp2_with fail
        go_roundw
        case rel => exact ⟨j + 1, by omega, HI2.out, by rw [← HP2.out]; exact O6.out, B6.out⟩
        case measure => have h1 := HI1.out; have h2 := HB1.out; simp [intOf, h2]; omega
      · obtain rfl : j = mm := by omega
        obtain ⟨A3, m3, c3, rfl⟩ := own_slice OO.out
        have I3 := Lib.hid (ownI_ints OO.out)
        have n3 : m3 ≤ 1000 := by have := (ints_cells I3.out).1; rw [biRk_len] at this; have := PL.out; omega
        have BR := Lib.hid (B1.out.trans (BW.out.mono B1.out.size))
        have MY := Lib.hid (QM.out _ BR.out A3 m3 c3 _ I3.out n3 (fun r hr => by have := RI.out r hr; have := S2.out; omega))
        rw [biMn RI.out, if_pos rfl] at MY
        have jj : ¬ (j : Int) + 1 < t := by have := PM.out; omega
        have VL : ((biRk L t j).map (atN l L)).length = j := by rw [List.length_map, biRk_len]
        have VL2 : Hid (((biRk L t j).map (atN l L)).length ≤ 1000000) := by show _ ≤ _; rw [VL]; have := PL.out; omega
        generalize (biRk L t j).map (atN l L) = V at *
        clear OO QM QJ RI VL n3
        go_wp2_with fail
        refine MY.out.mono ?_
        rintro e w5 ⟨⟨A5, n5, c5, rfl, ho5⟩, hb5⟩
        have B5 := Lib.hid (BR.out.trans (hb5.mono BR.out.size))
        have CP := Lib.hid (biComp_any w5 ho5 VL2.out)
        rw [← EV.out] at CP
        have SZ := Lib.hid BR.out.size
        clear ho5 hb5
        go_wp2_with fail
        refine CP.out.mono ?_
        rintro e w6 ⟨⟨A6, n6, c6, rfl, hi6⟩, hb6⟩
        have B6 := Lib.hid (B5.out.trans (hb6.mono SZ.out))
        have I6 := Lib.hid hi6
        clear hi6 hb6
        go_wp2_with fail
        go_ret2
        exact ⟨⟨_, _, _, rfl, I6.out⟩, B6.out⟩
theorem biE : BiE := ⟨fun p w => biEven_nil p w, fun t w d hm a b => biEven_any t w d hm a b⟩
end Go.Proofs.YtnhagdlpidgkcaaGreat
