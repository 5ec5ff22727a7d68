/- Texts laid together: Fo8, Fo9, Fo10, Fo11. -/
import Derived.Test.YtkhacpapkalkiaaGreatFoQ
import Derived.Test.YtkhacpapkalkiaaGreatPoQ
/- The project's package fold: the agenda of all parents. -/
namespace Go.Proofs.YtkhacpapkalkiaaGreat
set_option linter.unusedVariables false
set_option maxRecDepth 100000
open Go.RowKit Go.Shelf
attribute [local go_sem] Oper.semAt_some

/-- a number appended to a row of the call's own, inside a fence -/
theorem push_in {F : Fence} {n : Nat} (w : World) {ops : Array Oper} {rest : List Oper} {o : Oper} {a : Act} {Z : Exit → Act → World → Prop} (hg : o.guard = none) (s x : Operand)
    (hop : o.op = Op.call { callee := Callee.builtin Builtin.append, args := #[s, x], argTypes := #[49, 49] }) {B g : Nat} {v : Value} {Q : List Int} {b : Int}
    (hs : a.eval s = v) (row : OwnI 3 w B v Q) (hx : a.eval x = .slice (some ⟨g, 0, none⟩) 1 1) (hc : w.cell? ⟨g, 0, none⟩ = some (.int .i64 b)) (hn : Q.length ≤ 100000) (hB : B ≤ w.heap.size)
    (h : ∀ v' w', OwnI 3 w' B v' (Q ++ [b]) → w.grownBy w' v.ownBlock → At2 w v v' → wpListIn F n Tryz.prog ops Z rest (a.put o.dst v') w') : wpListIn F n Tryz.prog ops Z (o :: rest) a w := by
  obtain ⟨i0, hi, hz0, hz1, hz2⟩ := info_parts foInt_info
  obtain ⟨v', w', hr, r1, r2, _, r4⟩ := run_append_own_at (P := Tryz.prog) w B 49 o.type 3 i0 (.int .i64 0) 1 8 Tryz.underlying49 hi hz0 hz1 hz2 rfl (by decide) v Q.length (ints Q) row ⟨g, 0, none⟩ 1 1 [.int .i64 b] rfl
    (fun j u hj => by
      cases j with
      | zero => simp at hj; subst hj; exact hc
      | succ j => simp at hj) (one_int b) (by unfold maxLen; omega) (by omega) hB
  refine wpListIn_plain hg fun K hK => ?_
  unfold Oper.wpIn
  refine ⟨by simp [Oper.about, hop, resolve, Target.leads, Sem.run_pure], ?_⟩
  rw [Oper.semAt_plain F _ _ (by rw [hop]; intro c hc'; cases hc')]
  simp [execOp, hop, resolve, invoke, builtin, hs, hx, hr, Result.andThen]
  exact hK _ _ (h v' w' (ownI_snoc rfl r1) r2 (at_two (r4.imp id fun q => ⟨_, q, Nat.le_refl _⟩)))
theorem Agd.base {w : World} {B B2 b m n : Nat} {v : Value} {Q W : List Int} (d : Agd w B b m n v Q W) (h : B2 ≤ B) : Agd w B2 b m n v Q W :=
  ⟨⟨own_low d.qu.top h, own_low d.qu.row h, d.qu.bds⟩, d.hp, Nat.le_trans h d.low, d.len, d.there⟩
theorem upp_yes {id : Int} (h : 1 < id) (h1 : id ≤ 9223372036854775807) : tUpN id 1 = id / 2 ∧ tUpB id 1 = true := by
  obtain ⟨k, hk, e1, _, hd⟩ := dep_of (show 1 ≤ id by omega) h1
  have k1 : 1 ≤ k := by
    rcases Nat.eq_zero_or_pos k with q | q
    · subst q; have := dep_zero hd; omega
    · exact q
  have c : tUpC id 1 := ⟨by omega, by omega, by rw [e1]; omega⟩
  exact tUp_yes c
theorem upp_no {id : Int} (h : ¬ 1 < id) : tUpN id 1 = 0 ∧ tUpB id 1 = false := by
  refine tUp_no fun c => ?_
  obtain ⟨a, b, c⟩ := c
  have e : id = 1 := by omega
  rw [e] at c
  rw [(dep_is (id := 1) (k := 0) ⟨by decide, by decide⟩ (by omega)).1] at c
  omega
/-- the parents of what a loop was handed -/
def upsW (pre : List Nd) : List Int := upsH (pre.map fun x => (wrap64 x.1, x.2))
theorem upsW_snoc (pre : List Nd) (x : Nd) : upsW (pre ++ [x]) = if 1 < wrap64 x.1 then upsW pre ++ [wrap64 x.1 / 2] else upsW pre := by
  unfold upsW; rw [List.map_append]; exact ups_one _ _
theorem upsW_len (pre : List Nd) : (upsW pre).length ≤ pre.length := by unfold upsW; have := ups_len (pre.map fun x => (wrap64 x.1, x.2)); rwa [List.length_map] at this
theorem upsW_all {L : List Nd} (h : NBds L) : upsW L = upsH L := by
  unfold upsW
  congr 1
  have : ∀ x ∈ L, (wrap64 x.1, x.2) = x := fun x hx => by rw [wrap_in (h x hx).1.1 (h x hx).1.2]
  exact (List.map_congr_left this).trans (List.map_id _)
theorem ups_bd {L : List Nd} (h : NBds L) : ∀ x ∈ upsH L, 1 ≤ x ∧ x ≤ 9223372036854775807 := fun x hx => by
  unfold upsH at hx
  obtain ⟨n, hn, rfl⟩ := List.mem_map.1 hx
  obtain ⟨hn, h1⟩ := List.mem_filter.1 hn
  have h1 : 1 < n.1 := of_decide_eq_true h1
  have := (h n hn).1
  omega
/-- a round that writes a captured row: which blocks it leaves -/
theorem cap_kpF {W W' : World} {B q : Nat} {v v' : Value} {Q : List Int} {e1 : TypeId} (hc : W.cell? ⟨q, 0, none⟩ = some v) (row : OwnI e1 W B v Q) (hc' : W'.cell? ⟨q, 0, none⟩ = some v') (hk : Kp (fun k => k = q ∨ v.ownBlock = some k) W W') (ha : At2 W v v') : KpF (FrP q 0) W W' := by
  refine ⟨hk.size, fun k hlt hf => ?_⟩
  obtain ⟨⟨o, ho, hcc⟩, hkq, _, hs⟩ := hf
  have hv : v.ownBlock ≠ some k := fun e => by
    rcases ownI_form row with ⟨rfl, _⟩ | ⟨g, cap, rfl, _⟩
    · cases e
    · have e : g = k := by simpa [Value.ownBlock] using e
      subst e
      exact hs _ _ hc
  have e1 := hk.block k hlt (fun e => e.elim hkq hv)
  refine ⟨e1, ⟨o, e1.trans ho, hcc⟩, hkq, ⟨v', hc'⟩, fun m c he => ?_⟩
  rw [hc'] at he
  injection he with he
  rcases ha k (by rw [he]; rfl) with q1 | q1
  · exact hv q1
  · omega
theorem cap_others {W W' : World} {B q : Nat} {v : Value} {Q : List Int} {e1 : TypeId} {x : Value} (hc : W.cell? ⟨q, 0, none⟩ = some x) (row : OwnI e1 W B v Q) (hk : Kp (fun k => k = q ∨ v.ownBlock = some k) W W') : KeepsOthers W W' :=
  ⟨hk.size, fun k o hko ho => by
    refine (hk.block k (Array.getElem?_eq_some_iff.1 hko).1 (fun e => ?_)).trans hko
    rcases e with e | e
    · subst e
      obtain ⟨og, hog, hogc⟩ := cells_of_cell hc
      rw [hog] at hko; injection hko with hko; rw [hko, ho] at hogc; cases hogc
    · rcases ownI_form row with ⟨rfl, _⟩ | ⟨g, cap, rfl, _⟩
      · cases e
      · have e : g = k := by simpa [Value.ownBlock] using e
        subst e
        obtain ⟨ob, h1, h2⟩ := row_obj row
        rw [h1] at hko; injection hko with hko; rw [hko, ho] at h2; cases h2⟩
set_option maxHeartbeats 6400000 in
theorem foAbove_in {B p g h : Nat} {kd l : Int} {n : Nat} {L : List Nd} (w : World) (d : PoA w B p g h kd l n L) (hn : n ≤ 500) :
    CallsIn Fence.wide 5 Tryz.prog 194 #[.pointer (some ⟨p, 0, none⟩)] w fun e w' => ∃ b m v Q, e = .returned (.pointer (some ⟨b, 0, none⟩)) ∧ Agd w' w.heap.size b m n v Q (agH [] (upsH L)) ∧ Below w.heap.size w w' := by
  have D := Lib.hid d
  have hlen := d.len
  have NB := Lib.hid (nbds_roll d.roll)
  clear d
  refine callsIn_of_wp_marks Tryz.func194 rfl trivial ?_ rfl
  simp only [Tryz.ntmps194, List.size_toArray, List.length_cons, List.length_nil, Nat.reduceAdd, Nat.reduceSub, Array.replicate_succ, Array.replicate_zero, List.push_toArray, List.append_toArray, List.nil_append, List.cons_append]
  gi_wp2
  refine ⟨trivial, (callsIn_wide.2 (poEach_any _ _)).mono ?_⟩
  rintro e w3 ⟨rfl, rfl⟩
  have hza : (w.alloc (.cells #[.slice none 0 0] 49)).heap.size = w.heap.size + 1 := by simp
  have hba : Below w.heap.size w ((w.alloc (.cells #[.slice none 0 0] 49)).alloc (.cells #[.pointer (some ⟨p, 0, none⟩)] 101)) := ((Below.refl _ _).alloc (Nat.le_refl _) _).alloc (by simp) _
  have BX := Lib.hid ((box1 w 49 (.slice none 0 0)).alloc (.cells #[.pointer (some ⟨p, 0, none⟩)] 101))
  have hc1 : ((w.alloc (.cells #[.slice none 0 0] 49)).alloc (.cells #[.pointer (some ⟨p, 0, none⟩)] 101)).cell? ⟨w.heap.size + 1, 0, none⟩ = some (.pointer (some ⟨p, 0, none⟩)) := by
    have q := (box1 (w.alloc (.cells #[.slice none 0 0] 49)) 101 (.pointer (some ⟨p, 0, none⟩))).cellAt 0 (by omega)
    rw [hza] at q
    exact q
  have hz1 : w.heap.size + 1 < ((w.alloc (.cells #[.slice none 0 0] 49)).alloc (.cells #[.pointer (some ⟨p, 0, none⟩)] 101)).heap.size := by simp
  have D3 := Lib.hid (D.out.below hba)
  have B3 := Lib.hid hba
  clear hba hza
  gi_wp2
  generalize (w.alloc (.cells #[.slice none 0 0] 49)).alloc (.cells #[.pointer (some ⟨p, 0, none⟩)] 101) = W0 at *
  have hN : ∀ W W2 k, Below W0.heap.size W0 W → Below W.heap.size W W2 → W.heap.size ≤ k → (∃ o : Obj, W2.heap[k]? = some o ∧ o.isCells = true) → FrP w.heap.size 0 W2 k := by
    intro W W2 k h1 h2' h3 h4
    have hq := (BX.out.lt _ rfl).2
    have hs := h1.size
    have e : W2.cell? ⟨w.heap.size, 0, none⟩ = some (.slice none 0 0) := ((h2'.cell (p := ⟨w.heap.size, 0, none⟩) (by show w.heap.size < _; omega)).trans (h1.cell (p := ⟨w.heap.size, 0, none⟩) hq)).trans (BX.out.cellAt 0 (by omega))
    exact ⟨h4, by omega, ⟨_, e⟩, fun m c he => by rw [e] at he; injection he with he; injection he with he; cases he⟩
  refine wpIn_rangeFunc_ownF rfl (by decide) (gf := 152) (lb := #[.pointer (some ⟨w.heap.size + 1, 0, none⟩)]) rfl trivial (enters_of Tryz.func152 (by kernel_rfl) rfl)
    (each_stops 4 (w.heap.size + 1) p B g h (show n ≤ 1000 by omega) (FrP w.heap.size 0) (frP _ _) W0 hc1 hz1 D3.out hN) kpF_t (fun W l' o o' _ hl ho _ => kpF_b (frP _ _) W l' o o' hl ho) (Below.refl _ _) (fun _ => rfl)
    (fun pre W => (∃ v, W.ownsRow w.heap.size 49 1 (.slice (some ⟨w.heap.size, 0, none⟩) 1 1) 1 [v] ∧ OwnI 3 W w.heap.size v (upsW pre)) ∧ Below w.heap.size w W)
    (fun _ _ _ => False)
    (OwnFrom.and (Own.from (fun s A C row ⟨v, r1, r2⟩ hg hr => ⟨v, row_grown r1 hg hr, row_grown r2 hg hr⟩) _) (ownFrom_below (Nat.le_refl _) B3.out.size))
    (fun _ _ _ _ _ hs _ _ => hs)
    ⟨⟨_, BX.out, ownI_nil _ _ _⟩, B3.out⟩
    ?a1 ?assign ?body ?done ?stop
  case assign =>
    intro l' x W K hK
    gi_wp2
    exact hK
  case body =>
    rintro l' pre x W ⟨⟨v, hr, ho⟩, hB⟩ hpl
    have bd := wrap_bd x.1
    have hlp := upsW_len pre
    have HS := Lib.hid (upsW_snoc pre x)
    generalize wrap64 x.1 = id at *
    have c0 : W.cell? ⟨w.heap.size, 0, none⟩ = some v := hr.cellAt 0 (by omega)
    have f0 := hr.frozenAt 0
    have hne : ∀ k, v.ownBlock = some k → k ≠ w.heap.size := fun k e q => by
      rcases own_apart hr ho (by decide) with r | r
      · simp [Value.ownBlock] at r
      · exact r (by rw [e, q]; rfl)
    have HR := Lib.hid hr
    have HO := Lib.hid ho
    have HB := Lib.hid hB
    have HNE := Lib.hid hne
    clear hr ho hB hne
    by_cases hu : 1 < id
    · obtain ⟨u1, u2⟩ := upp_yes hu bd.2
      gi_wp2
      refine ⟨trivial, (CallsIn.inRound l' (callsIn_wide.2 (tUp_any id 1 W bd.1 bd.2 (by omega) (by omega)))).mono ?_⟩
      rintro e W3 ⟨rfl, rfl⟩
      rw [u1, u2]
      have HR1 := Lib.hid (HR.out.alloc (.cells #[.int .i64 (id / 2)] 3))
      gi_wp2_with (gi_at_builtin; refine push_in _ rfl _ _ rfl rfl (World.ownsRow.alloc HO.out (.cells #[.int .i64 (id / 2)] 3)) rfl (new_cell _ _ _ _ rfl) (by omega) (by have := HB.out.size; simp; omega) ?_)
      intro v' w1 ho1 hg1 ha1
      obtain ⟨A', m', c', rfl⟩ := own_slice ho1
      have hk1 : Kp (fun k => v.ownBlock = some k) W w1 := ((Kp.of (F := fun k => v.ownBlock = some k) (below_one W _)).trans (Kp.grown hg1) (fun k _ h => h.symm))
      have TOP1 := own_kp HR.out hk1 (fun k e h => HNE.out k h (by simp [Value.ownBlock] at e; exact e.symm))
      have c1 := TOP1.cellAt 0 (by omega)
      have f1 := TOP1.frozenAt 0
      have ST := TOP1.stored 0 (.slice A' m' c')
      have c4 := ST.1.cellAt 0 (by omega)
      have HK4 : Kp (fun k => k = w.heap.size ∨ v.ownBlock = some k) W (w1.setCell ⟨w.heap.size, 0, none⟩ (.slice A' m' c')) := (hk1.mono (fun k _ h => .inr h)).trans (Kp.setCell w1 ⟨w.heap.size, 0, none⟩ (.slice A' m' c')) (fun k hk h => .inl h)
      have HA : At2 W v (.slice A' m' c') := fun k e => (ha1 k e).imp (fun q => q) fun q => by simp at q; omega
      have KO := Lib.hid (cap_others c0 HO.out HK4)
      have KK := Lib.hid (cap_kpF c0 HO.out c4 HK4 HA)
      have ROW4 : Hid (OwnI 3 (w1.setCell ⟨w.heap.size, 0, none⟩ (.slice A' m' c')) w.heap.size (.slice A' m' c') (upsW (pre ++ [x]))) := by
        show OwnI ..
        rw [HS.out, if_pos hu]
        refine own_kp ho1 (Kp.setCell w1 ⟨w.heap.size, 0, none⟩ (.slice A' m' c')) (fun k e h => ?_)
        rcases own_apart TOP1 ho1 (by decide) with r | r
        · simp [Value.ownBlock] at r
        · exact r (by rw [e, h]; rfl)
      have HB4 : Hid (Below w.heap.size w (w1.setCell ⟨w.heap.size, 0, none⟩ (.slice A' m' c'))) := HB.out.trans (HK4.below (fun k hk h => by
        rcases h with h | h
        · omega
        · exact (World.ownsRow.lt HO.out k h).1) HB.out.size)
      have ST1 := Lib.hid ST.1
      clear ho1 hg1 ha1 hk1 TOP1 ST c4 HK4 HA
      gi_wp2
      exact ⟨KO.out, KK.out, ⟨_, ST1.out, ROW4.out⟩, HB4.out⟩
    · obtain ⟨u1, u2⟩ := upp_no hu
      gi_wp2
      refine ⟨trivial, (CallsIn.inRound l' (callsIn_wide.2 (tUp_any id 1 W bd.1 bd.2 (by omega) (by omega)))).mono ?_⟩
      rintro e W3 ⟨rfl, rfl⟩
      rw [u1, u2]
      gi_wp2
      exact ⟨KeepsOthers.refl _, kpF_refl _, ⟨v, HR.out, by rw [HS.out, if_neg (by omega)]; exact HO.out⟩, HB.out⟩
  case done =>
    rintro D' ys W hD hys ⟨⟨v, hr, ho⟩, hB⟩ hK
    rw [hys, upsW_all NB.out] at ho
    obtain ⟨A', m', c', rfl⟩ := own_slice ho
    have c0 : W.cell? ⟨w.heap.size, 0, none⟩ = some (.slice A' m' c') := hr.cellAt 0 (by omega)
    have hI := ownI_ints ho
    have hm : m' ≤ n := by have := (ints_cells hI).1; have := ups_len L; omega
    have hbd := ups_bd NB.out
    have NW := Lib.hid (foNew_any A' m' c' (upsH L) W hI (fun x hx => by have := hbd x hx; omega) (by omega))
    have HB := Lib.hid hB
    have HD := Lib.hid hD
    have HKK := Lib.hid hK
    clear hr ho hB hI hK hD hys
    gi_wp2
    refine ⟨trivial, (callsIn_wide.2 NW.out).mono ?_⟩
    rintro e w5 ⟨b, m, v5, Q5, rfl, hd5, hb5⟩
    have hK5 : w5.heap[D']? = some (.deferred (some [])) := (hb5.block D' (Array.getElem?_eq_some_iff.1 HKK.out).1).trans HKK.out
    have hDlt := (Array.getElem?_eq_some_iff.1 HKK.out).1
    have hz5 := hb5.size
    have hB5 := HB.out.trans (hb5.mono HB.out.size)
    have hd6 : Agd (w5.putObj D' (.deferred none)) w.heap.size b m n v5 Q5 (agH [] (upsH L)) := ((hd5.more hm).kp (F := fun k => k = D') ((Kp.grown (grownBy_putObj' w5 D' _)).mono fun k _ e => by injection e) (fun k e q => by
      have := (hd5.blocks k e).1
      omega)).base HB.out.size
    clear hb5 hd5 NW
    gi_wp2
    refine ⟨by simp, .inl ⟨_, _, rfl, run_takeDeferred hK5, ?_⟩⟩
    exact ⟨.pointer (some ⟨b, 0, none⟩), by simp [results, Tryz.f194, go_sem], b, m, v5, Q5, rfl, hd6, hB5.trans (belowK_b (w := W0) B3.out.size w5 D' _ _ HD.out hK5 rfl rfl)⟩
  case stop =>
    rintro D' c pre W _ _ h _
    exact h.elim
theorem foAbove_any {B p g h : Nat} {kd l : Int} {n : Nat} {L : List Nd} (w : World) (d : PoA w B p g h kd l n L) (hn : n ≤ 500) :
    Calls Tryz.prog 194 #[.pointer (some ⟨p, 0, none⟩)] w fun e w' => ∃ b m v Q, e = .returned (.pointer (some ⟨b, 0, none⟩)) ∧ Agd w' w.heap.size b m n v Q (agH [] (upsH L)) ∧ Below w.heap.size w w' :=
  callsIn_wide.1 (foAbove_in w d hn)

end Go.Proofs.YtkhacpapkalkiaaGreat

/- The project's package fold: Cap, Mass, Ready, Do. -/
namespace Go.Proofs.YtkhacpapkalkiaaGreat
set_option linter.unusedVariables false
set_option maxRecDepth 100000
open Go.RowKit

/-- what a parent's children weigh together, and with it -/
def pairW (l : Int) (L : List Nd) (id : Int) : Int := if kidB l id = true then sumAt (2 * id) L + sumAt (2 * id + 1) L else 0
def allW (l : Int) (L : List Nd) (id : Int) : Int := if kidB l id = true then sumAt (2 * id) L + sumAt (2 * id + 1) L + sumAt id L else 0
def readyB (l : Int) (L : List Nd) (id most : Int) : Bool := decide (0 < pairW l L id ∧ allW l L id ≤ most)
/-- a parent's children folded into it -/
def foldW (l : Int) (L : List Nd) (id : Int) : List Nd := if kidB l id = true then addS l (remW (remW L (2 * id)) (2 * id + 1)) id (pairW l L id) else L
theorem kid_pos {l id : Int} (h : KidC l id) : 1 ≤ id := h.1.2.2.1
theorem kid_lt {l id : Int} (h : KidC l id) (h1 : id ≤ 9223372036854775807) : logN id < l := by
  have a := h.1.2.2.2
  have b : logN id ≠ l := fun e => h.2 ⟨h.1.1, h.1.2.1, h.1.2.2.1, e⟩
  omega
theorem kid_bd {l id : Int} (h : KidC l id) (h1 : id ≤ 9223372036854775807) : 1 ≤ id ∧ id ≤ 562949953421311 := ⟨kid_pos h, right_id h.1 h1⟩
theorem three_le {L : List Nd} (h : Good L) {a b c : Int} (hab : a ≠ b) (hac : a ≠ c) (hbc : b ≠ c) : sumAt a L + sumAt b L + sumAt c L ≤ sumC L := by
  have g1 := rem_good (id := a) h
  have g2 := rem_good (id := b) g1
  have t1 := rem_tot L a
  have t2 := rem_tot (remW L a) b
  have s1 := rem_sum b L a
  have s2 := rem_sum c L a
  have s3 := rem_sum c (remW L a) b
  rw [if_neg hab] at s1
  rw [if_neg hac] at s2
  rw [if_neg hbc] at s3
  have := (sum_le (good_nonneg g2) c).2
  omega
theorem mass_bd {l : Int} {L : List Nd} (h : RollC l L) (id : Int) : (0 ≤ pairW l L id ∧ pairW l L id ≤ 72057594037927935) ∧ 0 ≤ allW l L id ∧ allW l L id ≤ 72057594037927935 := by
  have g := roll_good h
  have nn := good_nonneg g
  have t := h.2.2.2.2
  unfold pairW allW
  split
  · rename_i hk
    have hk : KidC l id := of_decide_eq_true hk
    have hp := kid_pos hk
    have := three_le g (a := 2 * id) (b := 2 * id + 1) (c := id) (by omega) (by omega) (by omega)
    have a := (sum_le nn (2 * id)).1
    have b := (sum_le nn (2 * id + 1)).1
    have c := (sum_le nn id).1
    omega
  · omega
theorem pair_zero {l : Int} {L : List Nd} (h : RollC l L) {id : Int} (h0 : pairW l L id = 0) : foldW l L id = L := by
  unfold foldW
  split
  · rename_i hk
    have g := roll_good h
    have nn := good_nonneg g
    rw [h0]
    unfold pairW at h0
    rw [if_pos hk] at h0
    have a := (sum_le nn (2 * id)).1
    have b := (sum_le nn (2 * id + 1)).1
    rw [rem_zero g (by omega), rem_zero g (by omega)]
    unfold addS
    split
    · rfl
    · split
      · rfl
      · exact if_pos rfl
  · rfl
theorem roll_fold {l : Int} {L : List Nd} (h : RollC l L) (id : Int) : RollC l (foldW l L id) := by
  unfold foldW
  split
  · exact roll_addS (roll_rem (roll_rem h))
  · exact h
/-- folding, where there is such a parent: no sum is refused -/
theorem fold_is {l : Int} {L : List Nd} (h : RollC l L) {id : Int} (hk : KidC l id) : foldW l L id = addW (remW (remW L (2 * id)) (2 * id + 1)) id (pairW l L id) ∧ addE l (remW (remW L (2 * id)) (2 * id + 1)) id (pairW l L id) = 0 := by
  have m := mass_bd h id
  have e : pairW l L id = sumAt (2 * id) L + sumAt (2 * id + 1) L := if_pos (kid_yes hk).2.2
  have t1 := rem_tot L (2 * id)
  have t2 := rem_tot (remW L (2 * id)) (2 * id + 1)
  have s1 := rem_sum (2 * id + 1) L (2 * id)
  rw [if_neg (by omega)] at s1
  have t := h.2.2.2.2
  have q := add_ok (l := l) (L := remW (remW L (2 * id)) (2 * id + 1)) (id := id) (c := pairW l L id) (right_yes hk.1) (by omega) (by omega)
  unfold foldW
  rw [if_pos (kid_yes hk).2.2]
  exact ⟨q.2, q.1⟩
theorem pair_is {l : Int} {L : List Nd} {id : Int} (h : pairW l L id ≠ 0) : KidC l id := by
  by_cases q : KidC l id
  · exact q
  · exact absurd (if_neg (by rw [(kid_no q).2.2]; decide)) h
/-- what each node weighs behind a fold -/
theorem foldW_sum {l : Int} {L : List Nd} (h : RollC l L) {id : Int} (hk : KidC l id) (i : Int) : sumAt i (foldW l L id) = if i = 2 * id ∨ i = 2 * id + 1 then 0 else sumAt i L + (if i = id then pairW l L id else 0) := by
  have hp := kid_pos hk
  rw [(fold_is h hk).1, addW_sum, rem_sum, rem_sum]
  by_cases h1 : 2 * id + 1 = i
  · rw [if_pos h1, if_neg (by omega), if_pos (by omega)]; omega
  · by_cases h2 : 2 * id = i
    · rw [if_neg h1, if_pos h2, if_neg (by omega), if_pos (by omega)]; omega
    · rw [if_neg h1, if_neg h2, if_neg (show ¬ (i = 2 * id ∨ i = 2 * id + 1) by omega)]
      by_cases h3 : id = i
      · rw [if_pos h3, if_pos h3.symm]
      · rw [if_neg h3, if_neg (fun e => h3 e.symm)]
theorem foldW_tot {l : Int} {L : List Nd} (h : RollC l L) (id : Int) : sumC (foldW l L id) = sumC L := by
  by_cases h0 : pairW l L id = 0
  · rw [pair_zero h h0]
  · have hk := pair_is h0
    have e : pairW l L id = sumAt (2 * id) L + sumAt (2 * id + 1) L := if_pos (kid_yes hk).2.2
    rw [(fold_is h hk).1, addW_tot, rem_tot, rem_tot, rem_sum, if_neg (by omega), e]
    omega
theorem foldW_len {l : Int} {L : List Nd} (h : RollC l L) (id : Int) : (foldW l L id).length ≤ L.length := by
  by_cases h0 : pairW l L id = 0
  · rw [pair_zero h h0]; exact Nat.le_refl _
  · have hk := pair_is h0
    have e : pairW l L id = sumAt (2 * id) L + sumAt (2 * id + 1) L := if_pos (kid_yes hk).2.2
    have g := roll_good h
    have a := addW_len (id := id) (c := pairW l L id) (rem_good (id := 2 * id + 1) (rem_good (id := 2 * id) g)) (mass_bd h id).1.1
    have r1 := rem_len (id := 2 * id) g
    have r2 := rem_len (id := 2 * id + 1) (rem_good (id := 2 * id) g)
    have s1 := rem_sum (2 * id + 1) L (2 * id)
    rw [if_neg (by omega)] at s1
    rw [(fold_is h hk).1]
    split at a <;> split at r1 <;> split at r2 <;> omega
/-- a pair that was folded is not ready -/
theorem foldW_not {l : Int} {L : List Nd} (h : RollC l L) (id most : Int) : readyB l (foldW l L id) id most = false := by
  refine decide_eq_false fun q => ?_
  by_cases hk : KidC l id
  · have e : pairW l (foldW l L id) id = sumAt (2 * id) (foldW l L id) + sumAt (2 * id + 1) (foldW l L id) := if_pos (kid_yes hk).2.2
    rw [foldW_sum h hk, foldW_sum h hk, if_pos (by omega), if_pos (by omega)] at e
    omega
  · have e : pairW l (foldW l L id) id = 0 := if_neg (by rw [(kid_no hk).2.2]; decide)
    omega
/-- the parent has all, its children nothing -/
theorem foldW_all {l : Int} {L : List Nd} (h : RollC l L) {id : Int} (h0 : pairW l L id ≠ 0) : sumAt id (foldW l L id) = allW l L id ∧ sumAt (2 * id) (foldW l L id) = 0 ∧ sumAt (2 * id + 1) (foldW l L id) = 0 := by
  have hk := pair_is h0
  have hp := kid_pos hk
  have e : pairW l L id = sumAt (2 * id) L + sumAt (2 * id + 1) L := if_pos (kid_yes hk).2.2
  have e2 : allW l L id = sumAt (2 * id) L + sumAt (2 * id + 1) L + sumAt id L := if_pos (kid_yes hk).2.2
  rw [foldW_sum h hk, foldW_sum h hk, foldW_sum h hk, if_neg (by omega), if_pos rfl, if_pos (by omega), if_pos (by omega), e, e2]
  exact ⟨by omega, rfl, rfl⟩
theorem foCap_any (n k : Int) (w : World) (N0 : -9223372036854775808 ≤ n) (N1 : n ≤ 9223372036854775807) (K0 : -9223372036854775808 ≤ k) (K1 : k ≤ 9223372036854775807) :
    Calls Tryz.prog 102 #[.int .i64 n, .int .i64 k] w fun e w' => e = .returned (.int .i64 (quoN n k)) ∧ w = w' := by
  go_enter Tryz.func102, Tryz.ntmps102
  go_wp2_with (go_at_call 151; refine (div_any n k _ N0 N1 K0 K1).mono ?_; rintro e w1 ⟨rfl, rfl⟩)
  go_ret
  exact ⟨rfl, rfl⟩
theorem rFoCap_any (n k : Int) (w : World) (N0 : -9223372036854775808 ≤ n) (N1 : n ≤ 9223372036854775807) (K0 : -9223372036854775808 ≤ k) (K1 : k ≤ 9223372036854775807) :
    Calls Tryz.prog 156 #[.int .i64 n, .int .i64 k] w fun e w' => e = .returned (.int .i64 (quoN n k)) ∧ w = w' := by
  by_cases h1 : n < 0
  · have H := Lib.hid (quo_no (a := n) (b := k) (by omega)).1
    have c1 : decide (n < 0) = true := decide_eq_true h1
    go_enter Tryz.func156, Tryz.ntmps156
    go_wp2_with fail
    go_ret
    exact ⟨ret_i H.out.symm, rfl⟩
  · by_cases h2 : k < 1
    · have H := Lib.hid (quo_no (a := n) (b := k) (by omega)).1
      have c1 : decide (n < 0) = false := decide_eq_false h1
      have c2 : decide (k < 1) = true := decide_eq_true h2
      clear h1
      go_enter Tryz.func156, Tryz.ntmps156
      go_wp2_with fail
      go_ret
      exact ⟨ret_i H.out.symm, rfl⟩
    · have H := Lib.hid (quo_yes (a := n) (b := k) (by omega)).1
      have c1 : decide (n < 0) = false := decide_eq_false h1
      have c2 : decide (k < 1) = false := decide_eq_false h2
      have k0 : ¬ k = 0 := by omega
      have hd : n / k ≤ n := Int.ediv_le_self _ (by omega)
      have hd0 : 0 ≤ n / k := Int.ediv_nonneg (by omega) (by omega)
      have hq : IntKind.i64.wrap (n.tdiv k) = n / k := by rw [Int.tdiv_eq_ediv_of_nonneg (by omega), IntKind.wrap_i64]; omega
      clear h1 h2 hd hd0
      go_enter Tryz.func156, Tryz.ntmps156
      go_wp2_with fail
      go_ret
      exact ⟨ret_i H.out.symm, rfl⟩
theorem get_bel {B p g h : Nat} {kd l : Int} {n : Nat} {L : List Nd} {w : World} (d : PoA w B p g h kd l n L) (hn : n ≤ 1000) (a : Int) (A0 : -9223372036854775808 ≤ a) (A1 : a ≤ 9223372036854775807) (w1 : World) (q : Below w.heap.size w w1) :
    Calls Tryz.prog 123 #[.pointer (some ⟨p, 0, none⟩), .int .i64 a] w1 fun e w' => e = .returned (.int .i64 (sumAt a L)) ∧ Below w.heap.size w w' :=
  (poGet_any a w1 (d.below q) hn A0 A1).mono fun e w' ⟨h1, m, h2⟩ => ⟨h1, by rw [h2]; exact drewN_below q m⟩
theorem l_bel {B p g h : Nat} {kd l : Int} {n : Nat} {L : List Nd} {w : World} (d : PoA w B p g h kd l n L) (hn : n ≤ 1000) (w1 : World) (q : Below w.heap.size w w1) :
    Calls Tryz.prog 105 #[.pointer (some ⟨p, 0, none⟩)] w1 fun e w' => e = .returned (.int .i64 l) ∧ Below w.heap.size w w' :=
  (poL_any w1 (d.below q) hn).mono fun e w' ⟨h1, m, h2⟩ => ⟨h1, by rw [h2]; exact drewN_below q m⟩
set_option maxHeartbeats 1600000 in
theorem foMass_any {B p g h : Nat} {kd l : Int} {n : Nat} {L : List Nd} (id : Int) (w : World) (d : PoA w B p g h kd l n L) (hn : n ≤ 1000) (A0 : -9223372036854775808 ≤ id) (A1 : id ≤ 9223372036854775807) :
    Calls Tryz.prog 197 #[.pointer (some ⟨p, 0, none⟩), .int .i64 id] w fun e w' => e = .returned (.tuple #[.int .i64 (pairW l L id), .int .i64 (allW l L id)]) ∧ Below w.heap.size w w' := by
  have u := d.uni
  have LL := Lib.hid (l_bel d hn)
  have KD := Lib.hid (fun w => kids_any l id w (by omega) (by omega) A0 A1)
  by_cases hk : KidC l id
  · obtain ⟨k1, k2, k3⟩ := kid_yes hk
    have kb := kid_bd hk A1
    have m := mass_bd d.roll id
    have GA := Lib.hid (get_bel d hn (2 * id) (by omega) (by omega))
    have GB := Lib.hid (get_bel d hn (2 * id + 1) (by omega) (by omega))
    have GC := Lib.hid (get_bel d hn id A0 A1)
    have e1 : pairW l L id = sumAt (2 * id) L + sumAt (2 * id + 1) L := if_pos k3
    have e2 : allW l L id = sumAt (2 * id) L + sumAt (2 * id + 1) L + sumAt id L := if_pos k3
    rw [k1, k2, k3] at KD
    rw [e1, e2] at m ⊢
    clear d hk e1 e2 k1 k2 k3
    generalize sumAt (2 * id) L = sa at *
    generalize sumAt (2 * id + 1) L = sb at *
    generalize sumAt id L = sc at *
    have w1 : IntKind.i64.wrap (sa + sb) = sa + sb := wrap_lit rfl (by omega) (by omega)
    have w2 : IntKind.i64.wrap (sa + sb + sc) = sa + sb + sc := wrap_lit rfl (by omega) (by omega)
    go_enter Tryz.func197, Tryz.ntmps197
    go_wp2_with (first
      | (go_at_call 105; refine (LL.out _ (Below.refl _ _)).mono ?_; rintro e w5 ⟨rfl, hb5⟩)
      | (go_at_call 104; refine (KD.out _).mono ?_; rintro e w6 ⟨rfl, rfl⟩)
      | (go_at_call 123; (with_reducible refine (GA.out _ (by assumption)).mono ?_); rintro e w7 ⟨rfl, hb7⟩)
      | (go_at_call 123; (with_reducible refine (GB.out _ (by assumption)).mono ?_); rintro e w8 ⟨rfl, hb8⟩)
      | (go_at_call 123; (with_reducible refine (GC.out _ (by assumption)).mono ?_); rintro e w9 ⟨rfl, hb9⟩))
    go_ret2
    exact ⟨rfl, hb9⟩
  · obtain ⟨k1, k2, k3⟩ := kid_no hk
    have e1 : pairW l L id = 0 := if_neg (by rw [k3]; decide)
    have e2 : allW l L id = 0 := if_neg (by rw [k3]; decide)
    rw [k1, k2, k3] at KD
    rw [e1, e2]
    clear d hk e1 e2 k1 k2 k3
    go_enter Tryz.func197, Tryz.ntmps197
    go_wp2_with (first
      | (go_at_call 105; refine (LL.out _ (Below.refl _ _)).mono ?_; rintro e w5 ⟨rfl, hb5⟩)
      | (go_at_call 104; refine (KD.out _).mono ?_; rintro e w6 ⟨rfl, rfl⟩))
    go_ret2
    exact ⟨rfl, hb5⟩
theorem foReady_any {B p g h : Nat} {kd l : Int} {n : Nat} {L : List Nd} (id most : Int) (w : World) (d : PoA w B p g h kd l n L) (hn : n ≤ 1000) (A0 : -9223372036854775808 ≤ id) (A1 : id ≤ 9223372036854775807) :
    Calls Tryz.prog 182 #[.pointer (some ⟨p, 0, none⟩), .int .i64 id, .int .i64 most] w fun e w' => e = .returned (.bool (readyB l L id most)) ∧ Below w.heap.size w w' := by
  have MS := Lib.hid (foMass_any id w d hn A0 A1)
  unfold readyB
  clear d
  generalize pairW l L id = a at *
  generalize allW l L id = b at *
  by_cases h1 : 0 < a
  · have c1 : decide (0 < a) = true := decide_eq_true h1
    have H : Hid (decide (0 < a ∧ b ≤ most) = decide (b ≤ most)) := by show _ = _; simp [h1]
    clear h1
    go_enter Tryz.func182, Tryz.ntmps182
    go_wp2_with (go_at_call 197; refine MS.out.mono ?_; rintro e w1 ⟨rfl, hb1⟩)
    go_ret
    exact ⟨by rw [H.out]; rfl, hb1⟩
  · have c1 : decide (0 < a) = false := decide_eq_false h1
    have H : Hid (decide (0 < a ∧ b ≤ most) = false) := decide_eq_false fun q => h1 q.1
    clear h1
    go_enter Tryz.func182, Tryz.ntmps182
    go_wp2_with (go_at_call 197; refine MS.out.mono ?_; rintro e w1 ⟨rfl, hb1⟩)
    go_ret
    exact ⟨by rw [H.out]; rfl, hb1⟩

end Go.Proofs.YtkhacpapkalkiaaGreat

/- The project's package fold: Do; Parents; First. -/
namespace Go.Proofs.YtkhacpapkalkiaaGreat
set_option linter.unusedVariables false
set_option maxRecDepth 100000
open Go.RowKit

theorem chg_then {g h h2 : Nat} {a b c : World} (p : Chg g h a b) (e : h2 = h ∨ a.heap.size ≤ h2) (q : Chg g h2 b c) : Chg g h a c := by
  rcases e with e | e
  · subst e; exact p.trans q
  · exact p.over q e
theorem new_then {h h2 h3 : Nat} {a b : World} (hs : a.heap.size ≤ b.heap.size) (e : h2 = h ∨ a.heap.size ≤ h2) (q : h3 = h2 ∨ b.heap.size ≤ h3) : h3 = h ∨ a.heap.size ≤ h3 := by omega
set_option maxHeartbeats 1600000 in
theorem foDo_n {B p g h : Nat} {kd l : Int} {n : Nat} {L : List Nd} (id : Int) (w : World) (d : PoA w B p g h kd l n L) (hn : n ≤ 1000) (A0 : -9223372036854775808 ≤ id) (A1 : id ≤ 9223372036854775807) :
    Calls Tryz.prog 183 #[.pointer (some ⟨p, 0, none⟩), .int .i64 id] w (PoPost B p g h kd l n (foldW l L id) (pairW l L id) w) := by
  have u := d.uni
  have LL := Lib.hid (l_bel d (show n ≤ 1000 by omega))
  have KD := Lib.hid (fun w => kids_any l id w (by omega) (by omega) A0 A1)
  have D := Lib.hid d
  by_cases hk : KidC l id
  · obtain ⟨k1, k2, k3⟩ := kid_yes hk
    have kb := kid_bd hk A1
    have m := mass_bd d.roll id
    have e1 : pairW l L id = sumAt (2 * id) L + sumAt (2 * id + 1) L := if_pos k3
    have s1 := rem_sum (2 * id + 1) L (2 * id)
    rw [if_neg (by omega)] at s1
    have FW : Hid (foldW l L id = addS l (remW (remW L (2 * id)) (2 * id + 1)) id (pairW l L id)) := if_pos k3
    have FE := Lib.hid (fold_is d.roll hk).2
    have FLN : Hid ((foldW l L id).length ≤ n) := Nat.le_trans (foldW_len d.roll id) d.len
    have S1 := Lib.hid s1
    have E1 := Lib.hid e1
    rw [k1, k2, k3] at KD
    have hw : IntKind.i64.wrap (sumAt (2 * id) L + sumAt (2 * id + 1) L) = pairW l L id := wrap_lit e1.symm (by omega) (by omega)
    clear d hk e1 k1 k2 k3 s1
    go_enter Tryz.func183, Tryz.ntmps183
    go_wp2_with (first
      | (go_at_call 105; refine (LL.out _ (Below.refl _ _)).mono ?_; rintro e w1 ⟨rfl, hb1⟩)
      | (go_at_call 104; refine (KD.out _).mono ?_; rintro e w6 ⟨rfl, rfl⟩))
    have D1 := Lib.hid (D.out.below hb1)
    have C1 := Lib.hid (Chg.of (g := g) (h := h) hb1)
    clear hb1
    refine (poTake_n (2 * id) w1 D1.out (by omega) (by omega) (by omega)).mono ?_
    rintro e w2 ⟨rfl, h2, hd2, hc2, hh2⟩
    have D2 := Lib.hid hd2
    have C2 := Lib.hid (C1.out.trans hc2)
    have N2 : Hid (h2 = h ∨ w.heap.size ≤ h2) := hh2.imp (fun q => q) fun q => Nat.le_trans C1.out.size q
    clear hd2 hc2 hh2
    go_wp2_with fail
    refine (poTake_n (2 * id + 1) w2 D2.out (by omega) (by omega) (by omega)).mono ?_
    rw [S1.out]
    rintro e w3 ⟨rfl, h3, hd3, hc3, hh3⟩
    have D3 := Lib.hid hd3
    have C3 := Lib.hid (chg_then C2.out N2.out hc3)
    have N3 := Lib.hid (new_then C2.out.size N2.out hh3)
    clear hd3 hc3 hh3
    go_wp2_with fail
    refine (poAdd_n n id (pairW l L id) w3 D3.out (by omega) (Nat.le_refl n) (by rw [← FW.out]; exact FLN.out) A0 A1 (by omega) (by omega)).mono ?_
    rw [FE.out, ← FW.out]
    rintro e w4 ⟨rfl, h4, hd4, hc4, hh4⟩
    have PP : Hid (∃ h5, PoA w4 B p g h5 kd l n (foldW l L id) ∧ Chg g h w w4 ∧ (h5 = h ∨ w.heap.size ≤ h5)) := ⟨h4, hd4, chg_then C3.out N3.out hc4, new_then C3.out.size N3.out hh4⟩
    clear hd4 hc4 hh4 C3 N3 D3
    go_wp2_with fail
    go_ret
    exact ⟨rfl, PP.out⟩
  · obtain ⟨k1, k2, k3⟩ := kid_no hk
    have e1 : pairW l L id = 0 := if_neg (by rw [k3]; decide)
    have e2 := pair_zero d.roll e1
    rw [k1, k2, k3] at KD
    rw [e1, e2]
    clear d hk e1 e2 k1 k2 k3
    go_enter Tryz.func183, Tryz.ntmps183
    go_wp2_with (first
      | (go_at_call 105; refine (LL.out _ (Below.refl _ _)).mono ?_; rintro e w5 ⟨rfl, hb5⟩)
      | (go_at_call 104; refine (KD.out _).mono ?_; rintro e w6 ⟨rfl, rfl⟩))
    go_ret
    exact ⟨rfl, h, D.out.below hb5, Chg.of hb5, .inl rfl⟩
theorem foDo_any {B p g h : Nat} {kd l : Int} {n : Nat} {L : List Nd} (id : Int) (w : World) (d : PoA w B p g h kd l n L) (hn : n ≤ 900) (A0 : -9223372036854775808 ≤ id) (A1 : id ≤ 9223372036854775807) :
    Calls Tryz.prog 183 #[.pointer (some ⟨p, 0, none⟩), .int .i64 id] w (PoPost B p g h kd l (n + 3) (foldW l L id) (pairW l L id) w) :=
  (foDo_n id w d (by omega) A0 A1).mono fun e w' ⟨h1, h2, h3, h4⟩ => ⟨h1, h2, h3.more (by omega), h4⟩
/-- the parents of all nodes, in the order of folding -/
def parH (L : List Nd) : List Int := agH [] (upsH L)
theorem parH_srt (L : List Nd) : SrtH (parH L) := agH_srt List.Pairwise.nil _
theorem parH_mem {L : List Nd} (h : NBds L) : ∀ x ∈ parH L, 1 ≤ x ∧ x ≤ 9223372036854775807 := fun x hx => by
  rcases (agH_mem [] (upsH L) x).1 hx with q | q
  · simp at q
  · exact ups_bd h x q.2
theorem parH_len (L : List Nd) : (parH L).length ≤ L.length := by
  have a := agH_len [] (upsH L)
  have b := ups_len L
  unfold parH
  simp at a
  omega
def hdH : List Int → Int
  | [] => 0
  | x :: _ => x
def neH : List Int → Bool
  | [] => false
  | _ :: _ => true
/-- Pop, whatever is there -/
theorem foPop_any {w : World} {B b m n : Nat} {v : Value} {Q T : List Int} (d : Agd w B b m n v Q T) (hn : n ≤ 80000) :
    Calls Tryz.prog 181 #[.pointer (some ⟨b, 0, none⟩)] w fun e w' => e = .returned (.tuple #[.int .i64 (hdH T), .bool (neH T)]) ∧ ∃ v' Q', Agd w' B b m n v' Q' T.tail ∧ Kp (agF b m v) w w' ∧ At2 w v v' := by
  cases T with
  | nil => exact (foPop_nil d).mono fun e w' ⟨h1, h2⟩ => ⟨h1, v, Q, by rw [← h2]; exact d, by rw [← h2]; exact Kp.refl _ _, At2.refl _ _⟩
  | cons x T => exact foPop_cons d hn
def lenV : Value → Nat
  | .slice _ n _ => n
  | _ => 0
/-- an agenda, and a row of numbers beside it -/
structure AgR (w : World) (B b m n : Nat) (v : Value) (Q T : List Int) (u : Value) (P : List Int) : Prop where
  ag : Agd w B b m n v Q T
  row : OwnI 3 w B u P
  far : ∀ k, u.ownBlock = some k → ¬ agF b m v k
theorem AgR.pop {w w' : World} {B b m n : Nat} {v v' u : Value} {Q Q' T T' P : List Int} (h : AgR w B b m n v Q T u P) (d : Agd w' B b m n v' Q' T') (k : Kp (agF b m v) w w') (a : At2 w v v') : AgR w' B b m n v' Q' T' u P :=
  ⟨d, own_kp h.row k h.far, fun j e f => by
    rcases f with (f | f) | f
    · exact h.far j e (.inl (.inl f))
    · rcases a j f with q | q
      · exact h.far j e (.inl (.inr q))
      · have := (World.ownsRow.lt h.row j e).2; omega
    · exact h.far j e (.inr f)⟩
theorem AgR.app {w w' : World} {B b m n : Nat} {v u u' : Value} {Q T P P' : List Int} (h : AgR w B b m n v Q T u P) (r : OwnI 3 w' B u' P') (k : Kp (fun j => u.ownBlock = some j) w w') (a : At2 w u u') : AgR w' B b m n v Q T u' P' :=
  ⟨h.ag.kp k fun j f e => h.far j e f, r, fun j e f => by
    rcases a j e with q | q
    · exact h.far j q f
    · have := (h.ag.blocks j f).2; omega⟩
set_option maxHeartbeats 3200000 in
theorem foParents_any {B p g h : Nat} {kd l : Int} {n : Nat} {L : List Nd} (w : World) (d : PoA w B p g h kd l n L) (hn : n ≤ 500) :
    Calls Tryz.prog 180 #[.pointer (some ⟨p, 0, none⟩)] w fun e w' => ∃ v, e = .returned v ∧ OwnI 3 w' w.heap.size v (parH L) ∧ Below w.heap.size w w' := by
  have AB := Lib.hid (foAbove_any w d hn)
  have PL := Lib.hid (parH_len L)
  have hlen := d.len
  have hl2 : (parH L).length ≤ 500 := by have := PL.out; omega
  obtain ⟨i0, hi, hz0, hz1, hz2⟩ := info_parts foInt_info
  have hmk := fun w1 => make_room (P := Tryz.prog) Tryz.underlying49 hi hz0 hz1 hz2 (parH L).length (by omega) (by omega) w1
  clear d
  go_enter Tryz.func180, Tryz.ntmps180
  go_wp2_with fail
  refine AB.out.mono ?_
  rintro e w1 ⟨b, m, v, Q, rfl, hd1, hb1⟩
  have D1 := Lib.hid hd1
  have B1 := Lib.hid hb1
  clear hd1 hb1
  change Hid (Agd w1 w.heap.size b m n v Q (parH L)) at D1
  go_wp2_with (go_at_call 195; refine (foLen_any D1.out).mono ?_; rintro e w2 ⟨rfl, rfl⟩)
  have A2 : Hid (AgR (w1.alloc (.cells (blank (.int .i64 0) (parH L).length) 3)) w.heap.size b m n v Q (parH L) (.slice (some ⟨w1.heap.size, 0, none⟩) 0 (parH L).length) []) :=
    ⟨D1.out.below (below_one _ _), by have q := room_own (w := w1) (B := w.heap.size) (e := 3) (z := .int .i64 0) (n := (parH L).length) (size := 1) B1.out.size (by unfold maxLen; omega); rw [Nat.mul_one] at q; exact q, fun k e f => by
      have e : w1.heap.size = k := by simpa [Value.ownBlock] using e
      have := (D1.out.blocks k f).2
      omega⟩
  have B2 := Lib.hid (B1.out.alloc B1.out.size (.cells (blank (.int .i64 0) (parH L).length) 3))
  clear D1 B1
  generalize w1.alloc (.cells (blank (.int .i64 0) (parH L).length) 3) = W2 at *
  refine (foPop_any A2.out.ag (by omega)).mono ?_
  rintro e w3 ⟨rfl, v3, Q3, hd3, hk3, ha3⟩
  have A3 := Lib.hid (A2.out.pop hd3 hk3 ha3)
  have B3 := Lib.hid (B2.out.trans (A2.out.ag.low' (F := fun _ => False) hk3 B2.out.size))
  clear hd3 hk3 ha3 hmk
  have hP0 : Hid (parH L = [] ++ parH L) := rfl
  obtain ⟨N, hN⟩ : ∃ N, N = (parH L).length := ⟨_, rfl⟩
  have HN := Lib.hid hN
  rw [← hN] at hl2
  clear hN
  go_wp2_with fail
  go_loopw [4, 5, 6] (fun u id ok wr => ∃ (A : Option Addr) (k c : Nat) (v : Value) (Q P T : List Int), u = .slice A k c ∧ k = P.length ∧ id = .int .i64 (hdH T) ∧ ok = .bool (neH T) ∧ AgR wr w.heap.size b m n v Q T.tail (.slice A k c) P ∧ parH L = P ++ T ∧ Below w.heap.size w wr) (fun u _ _ _ => N - lenV u)
  case atStart => exact ⟨_, _, _, v3, Q3, [], parH L, rfl, rfl, rfl, rfl, A3.out, hP0.out, B3.out⟩
  case round =>
    rename_i wr
    obtain ⟨A, k, c, v, Q, P, T, rfl, hk, rfl, rfl, hA, hpt, hb⟩ := hrel
    have AA := Lib.hid hA
    have HPT := Lib.hid hpt
    have BB := Lib.hid hb
    have HK := Lib.hid hk
    have hkN : k + T.length = N := by rw [HN.out, hpt, hk, List.length_append]
    clear hA hpt hb hk
    cases T with
    | nil =>
      rw [show hdH [] = 0 from rfl, show neH [] = false from rfl]
      go_wp2_with fail
      go_ret
      exact ⟨_, rfl, by rw [HPT.out, List.append_nil]; exact AA.out.row, BB.out⟩
    | cons x T =>
      rw [show hdH (x :: T) = x from rfl, show neH (x :: T) = true from rfl]
      rw [List.length_cons] at hkN
      change Hid (AgR wr w.heap.size b m n v Q T (.slice A k c) P) at AA
      go_wp2_with (at_builtin; refine wpList_append_own_at _ rfl _ _ 49 rfl w.heap.size 3 i0 (.int .i64 0) 1 8 Tryz.underlying49 hi hz0 hz1 hz2 rfl (by decide) _ k (ints P) rfl (by have q := World.ownsRow.alloc AA.out.row (.cells #[.int .i64 x] 3); rw [← HK.out] at q; exact q) ⟨wr.heap.size, 0, none⟩ 1 1 [.int .i64 x] rfl rfl (one_new _ _ _ _ rfl) (one_int _) (by unfold maxLen; omega) (by omega) (by have := BB.out.size; simp; omega) ?_)
      intro u1 w4 hown1 hgrow _ hat
      have hrow : OwnI 3 w4 w.heap.size u1 (P ++ [x]) := ownI_snoc HK.out hown1
      obtain ⟨A', m', c', rfl⟩ := own_slice hown1
      have hm' : m' = k + 1 := by have q := (ints_cells (ownI_ints hrow)).1; rw [List.length_append, ← HK.out] at q; exact q
      subst hm'
      have hk4 : Kp (fun j => (Value.slice A k c).ownBlock = some j) wr w4 := ((Kp.of (F := fun j => (Value.slice A k c).ownBlock = some j) (below_one wr _)).trans (Kp.grown hgrow) (fun j _ h => h.symm))
      have ha4 : At2 wr (.slice A k c) (.slice A' (k + 1) c') := fun j e => by
        rcases hat with q | q
        · exact .inl (q.symm.trans e)
        · rw [q] at e
          injection e with e
          exact .inr (by omega)
      have A4 := Lib.hid (AA.out.app hrow hk4 ha4)
      have B4 := Lib.hid (BB.out.trans (hk4.below (fun j _ h => (World.ownsRow.lt AA.out.row j h).1) BB.out.size))
      have HP4 : Hid (parH L = (P ++ [x]) ++ T) := by show _ = _; rw [HPT.out, List.append_assoc]; rfl
      clear hown1 hgrow hat hrow hk4 ha4
      go_wp2_with fail
      refine (foPop_any A4.out.ag (by omega)).mono ?_
      rintro e w5 ⟨rfl, v5, Q5, hd5, hk5, ha5⟩
      have A5 := Lib.hid (A4.out.pop hd5 hk5 ha5)
      have B5 := Lib.hid (B4.out.trans (A4.out.ag.low' (F := fun _ => False) hk5 B4.out.size))
      clear hd5 hk5 ha5
      go_wp2_with fail
      go_roundw
      case rel => exact ⟨A', k + 1, c', v5, Q5, P ++ [x], T, rfl, by rw [List.length_append, ← HK.out]; rfl, rfl, rfl, A5.out, HP4.out, B5.out⟩
      case measure => simp [lenV]; omega

end Go.Proofs.YtkhacpapkalkiaaGreat

/- The project's package fold: First. -/
namespace Go.Proofs.YtkhacpapkalkiaaGreat
set_option linter.unusedVariables false
set_option maxRecDepth 100000
open Go.RowKit

/-- the first of a list that is ready -/
def fstN (l : Int) (L : List Nd) (most : Int) : List Int → Int
  | [] => 0
  | x :: T => if readyB l L x most = true then x else fstN l L most T
def fstB (l : Int) (L : List Nd) (most : Int) : List Int → Bool
  | [] => false
  | x :: T => if readyB l L x most = true then true else fstB l L most T
def b01 : Value → Nat
  | .bool true => 1
  | _ => 0
theorem ne_tail (T : List Int) : T.tail.length + b01 (.bool (neH T)) = T.length := by cases T <;> rfl
end Go.Proofs.YtkhacpapkalkiaaGreat
