/- Texts laid together: Fo8, Fo9, Fo10, Fo11. -/
import Derived.Test.YtfmgcabgbnfjlaaFoQ
import Derived.Test.YtfmgcabgbnfjlaaPoQ
/- The project's package fold: the agenda of all parents. -/
namespace Go.Proofs.Ytfmgcabgbnfjlaa
set_option linter.unusedVariables false
set_option maxRecDepth 100000
open Go.RowKit Go.Shelf
attribute [local go_sem] Oper.semAt_some

/-- a number appended to a row of the call's own, inside a fence -/
theorem push_in {F : Fence} {n : Nat} (w : World) {ops : Array Oper} {rest : List Oper} {o : Oper} {a : Act} {Z : Exit → Act → World → Prop} (hg : o.guard = none) (s x : Operand)
    (hop : o.op = Op.call { callee := Callee.builtin Builtin.append, args := #[s, x], argTypes := #[85, 85] }) {B g : Nat} {v : Value} {Q : List Int} {b : Int}
    (hs : a.eval s = v) (row : OwnI 3 w B v Q) (hx : a.eval x = .slice (some ⟨g, 0, none⟩) 1 1) (hc : w.cell? ⟨g, 0, none⟩ = some (.int .i64 b)) (hn : Q.length ≤ 100000) (hB : B ≤ w.heap.size)
    (h : ∀ v' w', OwnI 3 w' B v' (Q ++ [b]) → w.grownBy w' v.ownBlock → At2 w v v' → wpListIn F n Try.prog ops Z rest (a.put o.dst v') w') : wpListIn F n Try.prog ops Z (o :: rest) a w := by
  obtain ⟨i0, hi, hz0, hz1, hz2⟩ := info_parts foInt_info
  obtain ⟨v', w', hr, r1, r2, _, r4⟩ := run_append_own_at (P := Try.prog) w B 85 o.type 3 i0 (.int .i64 0) 1 8 Try.underlying85 hi hz0 hz1 hz2 rfl (by decide) v Q.length (ints Q) row ⟨g, 0, none⟩ 1 1 [.int .i64 b] rfl
    (fun j u hj => by
      cases j with
      | zero => simp at hj; subst hj; exact hc
      | succ j => simp at hj) (one_int b) (by unfold maxLen; omega) (by omega) hB
  refine wpListIn_plain hg fun K hK => ?_
  unfold Oper.wpIn
  refine ⟨by simp [Oper.about, hop, resolve, Target.leads, Sem.run_pure], ?_⟩
  rw [Oper.semAt_plain F _ _ (by rw [hop]; intro c hc'; cases hc')]
  simp [execOp, hop, resolve, invoke, builtin, hs, hx, hr, Result.andThen]
  exact hK _ _ (h v' w' (ownI_snoc rfl r1) r2 (at_two (r4.imp id fun q => ⟨_, q, Nat.le_refl _⟩)))
theorem upp_yes {id : Int} (h : 1 < id) (h1 : id ≤ 9223372036854775807) : tUpN id 1 = id / 2 ∧ tUpB id 1 = true := by
  obtain ⟨k, hk, e1, _, hd⟩ := dep_of (show 1 ≤ id by omega) h1
  have k1 : 1 ≤ k := by
    rcases Nat.eq_zero_or_pos k with q | q
    · subst q; have := dep_zero hd; omega
    · exact q
  have c : tUpC id 1 := ⟨by omega, by omega, by rw [e1]; omega⟩
  exact tUp_yes c
theorem upp_no {id : Int} (h : ¬ 1 < id) : tUpN id 1 = 0 ∧ tUpB id 1 = false := by
  refine tUp_no fun c => ?_
  obtain ⟨a, b, c⟩ := c
  have e : id = 1 := by omega
  rw [e] at c
  rw [(dep_is (id := 1) (k := 0) ⟨by decide, by decide⟩ (by omega)).1] at c
  omega
/-- the parents of what a loop was handed -/
def upsW (pre : List Nd) : List Int := upsH (pre.map fun x => (wrap64 x.1, x.2))
theorem upsW_snoc (pre : List Nd) (x : Nd) : upsW (pre ++ [x]) = if 1 < wrap64 x.1 then upsW pre ++ [wrap64 x.1 / 2] else upsW pre := by
  unfold upsW; rw [List.map_append]; exact ups_one _ _
theorem upsW_len (pre : List Nd) : (upsW pre).length ≤ pre.length := by unfold upsW; have := ups_len (pre.map fun x => (wrap64 x.1, x.2)); rwa [List.length_map] at this
theorem upsW_all {L : List Nd} (h : NBds L) : upsW L = upsH L := by
  unfold upsW
  congr 1
  have : ∀ x ∈ L, (wrap64 x.1, x.2) = x := fun x hx => by rw [wrap_in (h x hx).1.1 (h x hx).1.2]
  exact (List.map_congr_left this).trans (List.map_id _)
theorem ups_bd {L : List Nd} (h : NBds L) : ∀ x ∈ upsH L, 1 ≤ x ∧ x ≤ 9223372036854775807 := fun x hx => by
  unfold upsH at hx
  obtain ⟨n, hn, rfl⟩ := List.mem_map.1 hx
  obtain ⟨hn, h1⟩ := List.mem_filter.1 hn
  have h1 : 1 < n.1 := of_decide_eq_true h1
  have := (h n hn).1
  omega
/-- a round that writes a captured row: which blocks it leaves -/
theorem cap_kpF {W W' : World} {B q : Nat} {v v' : Value} {Q : List Int} {e1 : TypeId} (hc : W.cell? ⟨q, 0, none⟩ = some v) (row : OwnI e1 W B v Q) (hc' : W'.cell? ⟨q, 0, none⟩ = some v') (hk : Kp (fun k => k = q ∨ v.ownBlock = some k) W W') (ha : At2 W v v') : KpF (FrP q 0) W W' := by
  refine ⟨hk.size, fun k hlt hf => ?_⟩
  obtain ⟨⟨o, ho, hcc⟩, hkq, _, hs⟩ := hf
  have hv : v.ownBlock ≠ some k := fun e => by
    rcases ownI_form row with ⟨rfl, _⟩ | ⟨g, cap, rfl, _⟩
    · cases e
    · have e : g = k := by simpa [Value.ownBlock] using e
      subst e
      exact hs _ _ hc
  have e1 := hk.block k hlt (fun e => e.elim hkq hv)
  refine ⟨e1, ⟨o, e1.trans ho, hcc⟩, hkq, ⟨v', hc'⟩, fun m c he => ?_⟩
  rw [hc'] at he
  injection he with he
  rcases ha k (by rw [he]; rfl) with q1 | q1
  · exact hv q1
  · omega
theorem cap_others {W W' : World} {B q : Nat} {v : Value} {Q : List Int} {e1 : TypeId} {x : Value} (hc : W.cell? ⟨q, 0, none⟩ = some x) (row : OwnI e1 W B v Q) (hk : Kp (fun k => k = q ∨ v.ownBlock = some k) W W') : KeepsOthers W W' :=
  ⟨hk.size, fun k o hko ho => by
    refine (hk.block k (Array.getElem?_eq_some_iff.1 hko).1 (fun e => ?_)).trans hko
    rcases e with e | e
    · subst e
      obtain ⟨og, hog, hogc⟩ := cells_of_cell hc
      rw [hog] at hko; injection hko with hko; rw [hko, ho] at hogc; cases hogc
    · rcases ownI_form row with ⟨rfl, _⟩ | ⟨g, cap, rfl, _⟩
      · cases e
      · have e : g = k := by simpa [Value.ownBlock] using e
        subst e
        obtain ⟨ob, h1, h2⟩ := row_obj row
        rw [h1] at hko; injection hko with hko; rw [hko, ho] at h2; cases h2⟩
end Go.Proofs.Ytfmgcabgbnfjlaa

/- The project's package fold: Cap, Mass, Ready, Do. -/
namespace Go.Proofs.Ytfmgcabgbnfjlaa
set_option linter.unusedVariables false
set_option maxRecDepth 100000
open Go.RowKit

/-- what a parent's children weigh together, and with it -/
def pairW (l : Int) (L : List Nd) (id : Int) : Int := if kidB l id = true then sumAt (2 * id) L + sumAt (2 * id + 1) L else 0
def allW (l : Int) (L : List Nd) (id : Int) : Int := if kidB l id = true then sumAt (2 * id) L + sumAt (2 * id + 1) L + sumAt id L else 0
def readyB (l : Int) (L : List Nd) (id most : Int) : Bool := decide (0 < pairW l L id ∧ allW l L id ≤ most)
/-- a parent's children folded into it -/
def foldW (l : Int) (L : List Nd) (id : Int) : List Nd := if kidB l id = true then addS l (remW (remW L (2 * id)) (2 * id + 1)) id (pairW l L id) else L
theorem kid_pos {l id : Int} (h : KidC l id) : 1 ≤ id := h.1.2.2.1
theorem kid_lt {l id : Int} (h : KidC l id) (h1 : id ≤ 9223372036854775807) : logN id < l := by
  have a := h.1.2.2.2
  have b : logN id ≠ l := fun e => h.2 ⟨h.1.1, h.1.2.1, h.1.2.2.1, e⟩
  omega
theorem kid_bd {l id : Int} (h : KidC l id) (h1 : id ≤ 9223372036854775807) : 1 ≤ id ∧ id ≤ 562949953421311 := ⟨kid_pos h, right_id h.1 h1⟩
theorem three_le {L : List Nd} (h : Good L) {a b c : Int} (hab : a ≠ b) (hac : a ≠ c) (hbc : b ≠ c) : sumAt a L + sumAt b L + sumAt c L ≤ sumC L := by
  have g1 := rem_good (id := a) h
  have g2 := rem_good (id := b) g1
  have t1 := rem_tot L a
  have t2 := rem_tot (remW L a) b
  have s1 := rem_sum b L a
  have s2 := rem_sum c L a
  have s3 := rem_sum c (remW L a) b
  rw [if_neg hab] at s1
  rw [if_neg hac] at s2
  rw [if_neg hbc] at s3
  have := (sum_le (good_nonneg g2) c).2
  omega
theorem mass_bd {l : Int} {L : List Nd} (h : RollC l L) (id : Int) : (0 ≤ pairW l L id ∧ pairW l L id ≤ 72057594037927935) ∧ 0 ≤ allW l L id ∧ allW l L id ≤ 72057594037927935 := by
  have g := roll_good h
  have nn := good_nonneg g
  have t := h.2.2.2.2
  unfold pairW allW
  split
  · rename_i hk
    have hk : KidC l id := of_decide_eq_true hk
    have hp := kid_pos hk
    have := three_le g (a := 2 * id) (b := 2 * id + 1) (c := id) (by omega) (by omega) (by omega)
    have a := (sum_le nn (2 * id)).1
    have b := (sum_le nn (2 * id + 1)).1
    have c := (sum_le nn id).1
    omega
  · omega
theorem pair_zero {l : Int} {L : List Nd} (h : RollC l L) {id : Int} (h0 : pairW l L id = 0) : foldW l L id = L := by
  unfold foldW
  split
  · rename_i hk
    have g := roll_good h
    have nn := good_nonneg g
    rw [h0]
    unfold pairW at h0
    rw [if_pos hk] at h0
    have a := (sum_le nn (2 * id)).1
    have b := (sum_le nn (2 * id + 1)).1
    rw [rem_zero g (by omega), rem_zero g (by omega)]
    unfold addS
    split
    · rfl
    · split
      · rfl
      · exact if_pos rfl
  · rfl
theorem roll_fold {l : Int} {L : List Nd} (h : RollC l L) (id : Int) : RollC l (foldW l L id) := by
  unfold foldW
  split
  · exact roll_addS (roll_rem (roll_rem h))
  · exact h
/-- folding, where there is such a parent: no sum is refused -/
theorem fold_is {l : Int} {L : List Nd} (h : RollC l L) {id : Int} (hk : KidC l id) : foldW l L id = addW (remW (remW L (2 * id)) (2 * id + 1)) id (pairW l L id) ∧ addE l (remW (remW L (2 * id)) (2 * id + 1)) id (pairW l L id) = 0 := by
  have m := mass_bd h id
  have e : pairW l L id = sumAt (2 * id) L + sumAt (2 * id + 1) L := if_pos (kid_yes hk).2.2
  have t1 := rem_tot L (2 * id)
  have t2 := rem_tot (remW L (2 * id)) (2 * id + 1)
  have s1 := rem_sum (2 * id + 1) L (2 * id)
  rw [if_neg (by omega)] at s1
  have t := h.2.2.2.2
  have q := add_ok (l := l) (L := remW (remW L (2 * id)) (2 * id + 1)) (id := id) (c := pairW l L id) (right_yes hk.1) (by omega) (by omega)
  unfold foldW
  rw [if_pos (kid_yes hk).2.2]
  exact ⟨q.2, q.1⟩
theorem pair_is {l : Int} {L : List Nd} {id : Int} (h : pairW l L id ≠ 0) : KidC l id := by
  by_cases q : KidC l id
  · exact q
  · exact absurd (if_neg (by rw [(kid_no q).2.2]; decide)) h
/-- what each node weighs behind a fold -/
theorem foldW_sum {l : Int} {L : List Nd} (h : RollC l L) {id : Int} (hk : KidC l id) (i : Int) : sumAt i (foldW l L id) = if i = 2 * id ∨ i = 2 * id + 1 then 0 else sumAt i L + (if i = id then pairW l L id else 0) := by
  have hp := kid_pos hk
  rw [(fold_is h hk).1, addW_sum, rem_sum, rem_sum]
  by_cases h1 : 2 * id + 1 = i
  · rw [if_pos h1, if_neg (by omega), if_pos (by omega)]; omega
  · by_cases h2 : 2 * id = i
    · rw [if_neg h1, if_pos h2, if_neg (by omega), if_pos (by omega)]; omega
    · rw [if_neg h1, if_neg h2, if_neg (show ¬ (i = 2 * id ∨ i = 2 * id + 1) by omega)]
      by_cases h3 : id = i
      · rw [if_pos h3, if_pos h3.symm]
      · rw [if_neg h3, if_neg (fun e => h3 e.symm)]
theorem foldW_tot {l : Int} {L : List Nd} (h : RollC l L) (id : Int) : sumC (foldW l L id) = sumC L := by
  by_cases h0 : pairW l L id = 0
  · rw [pair_zero h h0]
  · have hk := pair_is h0
    have e : pairW l L id = sumAt (2 * id) L + sumAt (2 * id + 1) L := if_pos (kid_yes hk).2.2
    rw [(fold_is h hk).1, addW_tot, rem_tot, rem_tot, rem_sum, if_neg (by omega), e]
    omega
theorem foldW_len {l : Int} {L : List Nd} (h : RollC l L) (id : Int) : (foldW l L id).length ≤ L.length := by
  by_cases h0 : pairW l L id = 0
  · rw [pair_zero h h0]; exact Nat.le_refl _
  · have hk := pair_is h0
    have e : pairW l L id = sumAt (2 * id) L + sumAt (2 * id + 1) L := if_pos (kid_yes hk).2.2
    have g := roll_good h
    have a := addW_len (id := id) (c := pairW l L id) (rem_good (id := 2 * id + 1) (rem_good (id := 2 * id) g)) (mass_bd h id).1.1
    have r1 := rem_len (id := 2 * id) g
    have r2 := rem_len (id := 2 * id + 1) (rem_good (id := 2 * id) g)
    have s1 := rem_sum (2 * id + 1) L (2 * id)
    rw [if_neg (by omega)] at s1
    rw [(fold_is h hk).1]
    split at a <;> split at r1 <;> split at r2 <;> omega
/-- a pair that was folded is not ready -/
theorem foldW_not {l : Int} {L : List Nd} (h : RollC l L) (id most : Int) : readyB l (foldW l L id) id most = false := by
  refine decide_eq_false fun q => ?_
  by_cases hk : KidC l id
  · have e : pairW l (foldW l L id) id = sumAt (2 * id) (foldW l L id) + sumAt (2 * id + 1) (foldW l L id) := if_pos (kid_yes hk).2.2
    rw [foldW_sum h hk, foldW_sum h hk, if_pos (by omega), if_pos (by omega)] at e
    omega
  · have e : pairW l (foldW l L id) id = 0 := if_neg (by rw [(kid_no hk).2.2]; decide)
    omega
/-- the parent has all, its children nothing -/
theorem foldW_all {l : Int} {L : List Nd} (h : RollC l L) {id : Int} (h0 : pairW l L id ≠ 0) : sumAt id (foldW l L id) = allW l L id ∧ sumAt (2 * id) (foldW l L id) = 0 ∧ sumAt (2 * id + 1) (foldW l L id) = 0 := by
  have hk := pair_is h0
  have hp := kid_pos hk
  have e : pairW l L id = sumAt (2 * id) L + sumAt (2 * id + 1) L := if_pos (kid_yes hk).2.2
  have e2 : allW l L id = sumAt (2 * id) L + sumAt (2 * id + 1) L + sumAt id L := if_pos (kid_yes hk).2.2
  rw [foldW_sum h hk, foldW_sum h hk, foldW_sum h hk, if_neg (by omega), if_pos rfl, if_pos (by omega), if_pos (by omega), e, e2]
  exact ⟨by omega, rfl, rfl⟩
theorem foCap_any (n k : Int) (w : World) (N0 : -9223372036854775808 ≤ n) (N1 : n ≤ 9223372036854775807) (K0 : -9223372036854775808 ≤ k) (K1 : k ≤ 9223372036854775807) :
    Calls Try.prog 31 #[.int .i64 n, .int .i64 k] w fun e w' => e = .returned (.int .i64 (quoN n k)) ∧ w = w' := by
  go_enter Try.func31, Try.ntmps31
  go_wp2_with (go_at_call 51; refine (div_any n k _ N0 N1 K0 K1).mono ?_; rintro e w1 ⟨rfl, rfl⟩)
  go_ret
  exact ⟨rfl, rfl⟩
theorem rFoCap_any (n k : Int) (w : World) (N0 : -9223372036854775808 ≤ n) (N1 : n ≤ 9223372036854775807) (K0 : -9223372036854775808 ≤ k) (K1 : k ≤ 9223372036854775807) :
    Calls Try.prog 84 #[.int .i64 n, .int .i64 k] w fun e w' => e = .returned (.int .i64 (quoN n k)) ∧ w = w' := by
  by_cases h1 : n < 0
  · have H := Lib.hid (quo_no (a := n) (b := k) (by omega)).1
    have c1 : decide (n < 0) = true := decide_eq_true h1
    go_enter Try.func84, Try.ntmps84
    go_wp2_with fail
    go_ret
    exact ⟨ret_i H.out.symm, rfl⟩
  · by_cases h2 : k < 1
    · have H := Lib.hid (quo_no (a := n) (b := k) (by omega)).1
      have c1 : decide (n < 0) = false := decide_eq_false h1
      have c2 : decide (k < 1) = true := decide_eq_true h2
      clear h1
      go_enter Try.func84, Try.ntmps84
      go_wp2_with fail
      go_ret
      exact ⟨ret_i H.out.symm, rfl⟩
    · have H := Lib.hid (quo_yes (a := n) (b := k) (by omega)).1
      have c1 : decide (n < 0) = false := decide_eq_false h1
      have c2 : decide (k < 1) = false := decide_eq_false h2
      have k0 : ¬ k = 0 := by omega
      have hd : n / k ≤ n := Int.ediv_le_self _ (by omega)
      have hd0 : 0 ≤ n / k := Int.ediv_nonneg (by omega) (by omega)
      have hq : IntKind.i64.wrap (n.tdiv k) = n / k := by rw [Int.tdiv_eq_ediv_of_nonneg (by omega), IntKind.wrap_i64]; omega
      clear h1 h2 hd hd0
      go_enter Try.func84, Try.ntmps84
      go_wp2_with fail
      go_ret
      exact ⟨ret_i H.out.symm, rfl⟩
theorem l_bel {B p g h : Nat} {kd l : Int} {n : Nat} {L : List Nd} {w : World} (d : PoA w B p g h kd l n L) (hn : n ≤ 1000) (w1 : World) (q : Below w.heap.size w w1) :
    Calls Try.prog 59 #[.pointer (some ⟨p, 0, none⟩)] w1 fun e w' => e = .returned (.int .i64 l) ∧ Below w.heap.size w w' :=
  (poL_any w1 (d.below q) hn).mono fun e w' ⟨h1, m, h2⟩ => ⟨h1, by rw [h2]; exact drewN_below q m⟩
end Go.Proofs.Ytfmgcabgbnfjlaa

/- The project's package fold: Do; Parents; First. -/
namespace Go.Proofs.Ytfmgcabgbnfjlaa
set_option linter.unusedVariables false
set_option maxRecDepth 100000
open Go.RowKit

theorem chg_then {g h h2 : Nat} {a b c : World} (p : Chg g h a b) (e : h2 = h ∨ a.heap.size ≤ h2) (q : Chg g h2 b c) : Chg g h a c := by
  rcases e with e | e
  · subst e; exact p.trans q
  · exact p.over q e
theorem new_then {h h2 h3 : Nat} {a b : World} (hs : a.heap.size ≤ b.heap.size) (e : h2 = h ∨ a.heap.size ≤ h2) (q : h3 = h2 ∨ b.heap.size ≤ h3) : h3 = h ∨ a.heap.size ≤ h3 := by omega
/-- the parents of all nodes, in the order of folding -/
def parH (L : List Nd) : List Int := agH [] (upsH L)
theorem parH_srt (L : List Nd) : SrtH (parH L) := agH_srt List.Pairwise.nil _
theorem parH_mem {L : List Nd} (h : NBds L) : ∀ x ∈ parH L, 1 ≤ x ∧ x ≤ 9223372036854775807 := fun x hx => by
  rcases (agH_mem [] (upsH L) x).1 hx with q | q
  · simp at q
  · exact ups_bd h x q.2
theorem parH_len (L : List Nd) : (parH L).length ≤ L.length := by
  have a := agH_len [] (upsH L)
  have b := ups_len L
  unfold parH
  simp at a
  omega
def hdH : List Int → Int
  | [] => 0
  | x :: _ => x
def neH : List Int → Bool
  | [] => false
  | _ :: _ => true
end Go.Proofs.Ytfmgcabgbnfjlaa

/- The project's package fold: First. -/
namespace Go.Proofs.Ytfmgcabgbnfjlaa
set_option linter.unusedVariables false
set_option maxRecDepth 100000
open Go.RowKit

/-- the first of a list that is ready -/
def fstN (l : Int) (L : List Nd) (most : Int) : List Int → Int
  | [] => 0
  | x :: T => if readyB l L x most = true then x else fstN l L most T
def fstB (l : Int) (L : List Nd) (most : Int) : List Int → Bool
  | [] => false
  | x :: T => if readyB l L x most = true then true else fstB l L most T
def b01 : Value → Nat
  | .bool true => 1
  | _ => 0
theorem ne_tail (T : List Int) : T.tail.length + b01 (.bool (neH T)) = T.length := by cases T <;> rfl
end Go.Proofs.Ytfmgcabgbnfjlaa
