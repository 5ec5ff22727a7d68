/- The project's package bag: two rising lists made one. -/
import Derived.Test.YtfleaaokbjgljaaBg7
namespace Go.Proofs.Ytfleaaokbjgljaa
set_option linter.unusedVariables false
set_option maxRecDepth 100000
open Go.RowKit
attribute [local go_sem ↓] Go.wp_at_zero Go.wp_at_succ

/-- a list in order of weights above 0, that weighs at most Most -/
structure Tin (T : List Nd) : Prop where
  ord : T.Pairwise (fun a b => idA b a = false)
  pos : ∀ n ∈ T, 1 ≤ n.2
  tot : sumC T ≤ 72057594037927935
theorem Tin.inv {T : List Nd} (t : Tin T) {k : Nat} (hk : k ≤ T.length) : FInv (T.take k) (foldN (T.take k)) := fold_inv k T hk t.ord fun n hn => by have := t.pos n hn; omega
theorem Tin.step {T : List Nd} (t : Tin T) {k : Nat} (hk : k < T.length) : (∀ y ∈ foldN (T.take k), 0 ≤ y.2 ∧ y.2 + (T.getD k nz).2 ≤ 72057594037927935) ∧ addN (foldN (T.take k)) (T.getD k nz) = foldN (T.take (k + 1)) ∧ 1 ≤ (T.getD k nz).2 ∧ (foldN (T.take k)).length ≤ k := by
  have f := t.inv (Nat.le_of_lt hk)
  have NT : NonNeg T := fun n hn => by have := t.pos n hn; omega
  refine ⟨fun y hy => ?_, by rw [nd_take hk, foldN_snoc], t.pos _ (nd_mem hk), ?_⟩
  · have a := sumC_mem (good_nonneg f.good) hy
    have b := f.good.pos y hy
    have c := f.sum
    have d := sum_take_step hk
    have e := sum_take_le NT (k + 1)
    have := t.tot
    omega
  · have := f.len
    rw [List.length_take] at this; omega
theorem good_ord {L : List Nd} (h : Good L) : L.Pairwise (fun a b => idA b a = false) := h.ids.imp fun q => idA_no (by omega)
theorem tin_mrg {L M : List Nd} (h : Good L) (g : Good M) (ht : sumC L + sumC M ≤ 72057594037927935) : Tin (mrg idA L M) :=
  ⟨mrg_ord idA_ahd L M (good_ord h) (good_ord g), fun n hn => by
    rcases List.mem_append.1 ((mrg_perm idA L M).mem_iff.1 hn) with q | q
    · exact h.pos n q
    · exact g.pos n q, by rw [sumC_perm (mrg_perm idA L M), sumC_app]; omega⟩
theorem merged_is {L M : List Nd} (h : Good L) (g : Good M) (ht : sumC L + sumC M ≤ 72057594037927935) : foldN (mrg idA L M) = poursN L M := by
  have t := tin_mrg h g ht
  have f := t.inv (Nat.le_refl _)
  rw [List.take_length] at f
  exact fold_pours (mrg_perm idA L M) f h g
theorem getD_drop (T : List Nd) (k j : Nat) : (T.drop k).getD j nz = T.getD (k + j) nz := by
  rw [List.getD_eq_getElem?_getD, List.getD_eq_getElem?_getD, List.getElem?_drop]
theorem beh_below {w w1 w2 : World} {v : Value} {e : TypeId} {F : List Nd} (hb : Below w.heap.size w w1) (own : OwnNd e w1 w.heap.size v F) (kp : Kp (fun k => v.ownBlock = some k) w1 w2) : Below w.heap.size w w2 :=
  hb.trans (kp.below (fun k _ e => (own.lt k e).1) hb.size)
/-- what the first loop holds -/
structure MgI (TR : TypeId) (w wr : World) (A1 A2 : Option Addr) (m1 c1 m2 c2 k : Nat) (v : Value) (T P Q : List Nd) : Prop where
  a : NodesAt w (.slice A1 m1 c1) P
  b : NodesAt w (.slice A2 m2 c2) Q
  mrg : mrg idA P Q = T.drop k
  le : k ≤ T.length
  own : OwnNd TR wr w.heap.size v (foldN (T.take k))
  below : Below w.heap.size w wr
theorem nodes_tail {w : World} {a : Addr} {m c : Nat} {x : Nd} {P : List Nd} (h : NodesAt w (.slice (some a) m c) (x :: P)) : NodesAt w (.slice (some (advA a c 1 2)) (m - 1) (c - 1)) P := by
  obtain ⟨h1, h2, h3, h4⟩ := nodes_cells h
  simp at h1 h2
  exact ⟨_, _, by rw [h1]; rfl, by omega, by omega, fun e => by simp at e, NdAt.adv (k := 1) h4 (by simpa using h2)⟩
set_option maxHeartbeats 6400000 in
theorem merged_any (A1 A2 : Option Addr) (n1 c1 n2 c2 : Nat) (L M : List Nd) (w : World) (h1 : NodesAt w (.slice A1 n1 c1) L) (h2 : NodesAt w (.slice A2 n2 c2) M) (g1 : Good L) (g2 : Good M) (ht : sumC L + sumC M ≤ 72057594037927935) (hn1 : n1 ≤ 400000) (hn2 : n2 ≤ 400000) :
    Calls Try.prog 46 #[.slice A1 n1 c1, .slice A2 n2 c2] w (RdOwn (poursN L M) w) := by
  obtain ⟨i0, hi, hz0, hz1, hz2⟩ := info_parts read_info
  have T0 := Lib.hid (tin_mrg g1 g2 ht)
  have IS := Lib.hid (merged_is g1 g2 ht)
  have H1 := Lib.hid h1
  have H2 := Lib.hid h2
  have TL : Hid ((mrg idA L M).length = n1 + n2) := by
    show _ = _
    rw [(mrg_perm idA L M).length_eq, List.length_append, (nodes_cells h1).1, (nodes_cells h2).1]
  have hmr := make_room (P := Try.prog) Try.underlying22 hi hz0 hz1 hz2 (n1 + n2) (by omega) (by omega)
  have hmr' : ∀ w, (Instr.makeSlice 22 (.int .i64 0) (.int .i64 ((n1 : Int) + (n2 : Int)))).run Try.prog w = .ok (.slice (some ⟨w.heap.size, 0, none⟩) 0 (n1 + n2)) (w.alloc (.cells (blank (.agg #[.int .i64 0, .int .i64 0]) ((n1 + n2) * 2)) 31)) := fun w => by
    have := hmr w
    rw [show ((n1 + n2 : Nat) : Int) = (n1 : Int) + (n2 : Int) by omega] at this
    exact this
  generalize hT : mrg idA L M = T at *
  have HT := Lib.hid hT
  clear hT hmr h1 h2 g1 g2 ht
  go_enter Try.func46, Try.ntmps46
  go_wp2_with fail
  go_loopw [0, 1, 5] (fun a b v wr => ∃ (P Q : List Nd) (A1' A2' : Option Addr) (m1 m2 ca cb k : Nat), a = .slice A1' m1 ca ∧ b = .slice A2' m2 cb ∧ m1 + m2 + k = n1 + n2 ∧ MgI 31 w wr A1' A2' m1 ca m2 cb k v T P Q) (fun a b _ _ => (match a with | .slice _ m _ => m | _ => 0) + (match b with | .slice _ m _ => m | _ => 0))
  case atStart =>
    refine ⟨L, M, A1, A2, n1, n2, c1, c2, 0, rfl, rfl, by omega, H1.out, H2.out, by rw [HT.out]; rfl, Nat.zero_le _, ?_, ?_⟩
    · exact room_own (Nat.le_refl _) (by unfold maxLen; omega)
    · exact (Below.refl _ _).alloc (Nat.le_refl _) _
  case round =>
    obtain ⟨wa, hwa⟩ : ∃ wq : World, wq = wr := ⟨_, rfl⟩
    subst hwa
    obtain ⟨P, Q, A1', A2', m1, m2, ca, cb, k, rfl, rfl, hsum, inv⟩ := hrel
    have INV := Lib.hid inv
    have hm1 := Lib.hid (nodes_cells inv.a).1
    have hm2 := Lib.hid (nodes_cells inv.b).1
    have zs := inv.below.size
    obtain ⟨A3, m3, c3, rfl⟩ := ownNd_slice inv.own
    clear inv
    by_cases hmp : 0 < m1 ∧ 0 < m2
    · obtain ⟨p0, p1⟩ := hmp
      obtain ⟨⟨x1, x2⟩, P, rfl⟩ : ∃ x P', P = x :: P' := by
        cases P with
        | nil => have := hm1.out; simp at this; omega
        | cons x P => exact ⟨x, P, rfl⟩
      obtain ⟨⟨y1, y2⟩, Q, rfl⟩ : ∃ x P', Q = x :: P' := by
        cases Q with
        | nil => have := hm2.out; simp at this; omega
        | cons x P => exact ⟨x, P, rfl⟩
      have hkT : k < T.length := by have := TL.out; omega
      obtain ⟨a1, rfl⟩ : ∃ a, A1' = some a := by
        obtain ⟨b, o, e, _⟩ := (nodes_cells INV.out.a).2.2.2 (by simp)
        exact ⟨_, e⟩
      obtain ⟨a2, rfl⟩ : ∃ a, A2' = some a := by
        obtain ⟨b, o, e, _⟩ := (nodes_cells INV.out.b).2.2.2 (by simp)
        exact ⟨_, e⟩
      obtain ⟨b1, o1, rfl, hb1, e0, e1⟩ := NdAt.first (nodes_cells INV.out.a).2.2.2 INV.out.below
      obtain ⟨b2, o2, rfl, hb2, e2, e3⟩ := NdAt.first (nodes_cells INV.out.b).2.2.2 INV.out.below
      dsimp only at e0 e1 e2 e3
      have hsa := sl_one (P := Try.prog) Try.underlying22 hi hz1 ⟨b1, o1, none⟩ m1 ca p0
      have hsb := sl_one (P := Try.prog) Try.underlying22 hi hz1 ⟨b2, o2, none⟩ m2 cb p1
      have ST := Lib.hid (T0.out.step hkT)
      have DR := Lib.hid (nd_drop hkT)
      have q0 : (0 : Int) < (m1 : Int) := by omega
      have q1 : (0 : Int) < (m2 : Int) := by omega
      by_cases hc : x1 ≤ y1
      · have MG : Hid (T.getD k nz = (x1, x2) ∧ mrg idA P ((y1, y2) :: Q) = T.drop (k + 1)) := by
          have q := INV.out.mrg
          rw [mrg_a (idA_no (by show ¬ y1 < x1; omega)), DR.out] at q
          injection q with q1 q2
          exact ⟨q1.symm, q2⟩
        have BEH : Hid (∀ wq, Below wa.heap.size wa wq → Calls Try.prog 47 #[.slice A3 m3 c3, .agg #[.int .i64 x1, .int .i64 x2]] wq (BehPost 31 w.heap.size (.slice A3 m3 c3) (foldN (T.take (k + 1))) wq)) := by
          intro wq hq
          have s := ST.out
          rw [MG.out.1] at s
          rw [← s.2.1]
          exact behind_any x1 x2 wq (own_below INV.out.own hq) (by have := hq.size; omega) (by have := TL.out; omega) s.2.2.1 s.1
        go_wp2_with fail
        go_quiet (fail)
        have HQ := Lib.hid (drewN_below (Below.refl wa.heap.size wa) nq)
        have i0' := (HQ.out.cell (p := ⟨b1, o1, none⟩) (by show b1 < _; omega)).trans e0
        have i1' := (HQ.out.cell (p := ⟨b1, o1 + 1, none⟩) (by show b1 < _; omega)).trans e1
        go_wp2_with (go_at_call 47; refine (BEH.out _ HQ.out).mono ?_; rintro e w3 ⟨v', rfl, hown, hkp, hat⟩)
        have own1 : OwnNd 31 (wa.drewN nq) w.heap.size (.slice A3 m3 c3) (foldN (T.take k)) := INV.out.own
        go_roundw
        case rel => exact ⟨P, (y1, y2) :: Q, _, _, _, m2, _, cb, k + 1, rfl, rfl, by omega, nodes_tail INV.out.a, INV.out.b, MG.out.2, by omega, hown, beh_below (INV.out.below.trans (HQ.out.mono zs)) own1 hkp⟩
        case measure => simp; omega
      · have MG : Hid (T.getD k nz = (y1, y2) ∧ mrg idA ((x1, x2) :: P) Q = T.drop (k + 1)) := by
          have q := INV.out.mrg
          rw [mrg_b (idA_yes (by show y1 < x1; omega)), DR.out] at q
          injection q with q1 q2
          exact ⟨q1.symm, q2⟩
        have BEH : Hid (∀ wq, Below wa.heap.size wa wq → Calls Try.prog 47 #[.slice A3 m3 c3, .agg #[.int .i64 y1, .int .i64 y2]] wq (BehPost 31 w.heap.size (.slice A3 m3 c3) (foldN (T.take (k + 1))) wq)) := by
          intro wq hq
          have s := ST.out
          rw [MG.out.1] at s
          rw [← s.2.1]
          exact behind_any y1 y2 wq (own_below INV.out.own hq) (by have := hq.size; omega) (by have := TL.out; omega) s.2.2.1 s.1
        go_wp2_with fail
        go_quiet (fail)
        have HQ := Lib.hid (drewN_below (Below.refl wa.heap.size wa) nq)
        have i0' := (HQ.out.cell (p := ⟨b2, o2, none⟩) (by show b2 < _; omega)).trans e2
        have i1' := (HQ.out.cell (p := ⟨b2, o2 + 1, none⟩) (by show b2 < _; omega)).trans e3
        go_wp2_with (go_at_call 47; refine (BEH.out _ HQ.out).mono ?_; rintro e w3 ⟨v', rfl, hown, hkp, hat⟩)
        have own1 : OwnNd 31 (wa.drewN nq) w.heap.size (.slice A3 m3 c3) (foldN (T.take k)) := INV.out.own
        go_roundw
        case rel => exact ⟨(x1, x2) :: P, Q, _, _, m1, _, ca, _, k + 1, rfl, rfl, by omega, INV.out.a, nodes_tail INV.out.b, MG.out.2, by omega, hown, beh_below (INV.out.below.trans (HQ.out.mono zs)) own1 hkp⟩
        case measure => simp; omega
    · have REST : Hid (P ++ Q = T.drop k) := by
        have q := INV.out.mrg
        rcases (show m1 = 0 ∨ m2 = 0 by omega) with e | e
        · have eP : P = [] := List.eq_nil_of_length_eq_zero (by rw [← hm1.out]; exact e)
          subst eP
          rw [nil_mrg] at q
          exact q
        · have eQ : Q = [] := List.eq_nil_of_length_eq_zero (by rw [← hm2.out]; exact e)
          subst eQ
          rw [mrg_nil] at q
          show P ++ [] = _
          rw [List.append_nil]; exact q
      have COND : (0 < (m1 : Int)) → (0 < (m2 : Int)) → False := fun a b => hmp ⟨by omega, by omega⟩
      have CC := Lib.hid (fun (w4 : World) (hb : Below w.heap.size w w4) (e0 : w4.cell? ⟨wa.heap.size, 0, none⟩ = some (.slice A1' m1 ca)) (e1 : w4.cell? ⟨wa.heap.size, 1, none⟩ = some (.slice A2' m2 cb)) =>
        rdConcat_any wa.heap.size A1' A2' m1 ca m2 cb P Q w4 (INV.out.a.below hb) (INV.out.b.below hb) (by omega) (by omega) e0 e1)
      have hd : ∀ (w4 : World) (o : Obj), Below w.heap.size w (wa.alloc o) := fun _ o => INV.out.below.alloc zs _
      have HD := Lib.hid hd
      clear hd
      rcases Nat.eq_zero_or_pos m1 with e | e
      · subst e
        clear COND hmp
        go_wp2_with (go_at_call 53; refine (CC.out _ (HD.out wa _) (by simp) (by simp)).mono ?_; rintro e w4 ⟨v2, rfl, hv2, hb4⟩; have HV2 := Lib.hid hv2; obtain ⟨A5, m5, c5, rfl⟩ := ownNd_slice hv2; clear hv2)
        have hb5 : Hid (Below w.heap.size w w4) := (HD.out wa _).trans (hb4.mono (by simp; omega))
        have RES : Hid (OwnNd 31 w4 (wa.heap.size + 1) (.slice A5 m5 c5) (T.drop k)) := by
          have q := HV2.out
          rw [REST.out] at q
          show OwnNd _ _ _ _ _
          simpa using q
        have BOTH : Hid (OwnNd 31 w4 w.heap.size (.slice A3 m3 c3) (foldN (T.take k))) := own_below (World.ownsRow.alloc INV.out.own _) hb4
        have hm5 : Hid (m5 = T.length - k) := by show _ = _; rw [(nodes_cells (ownNd_nodes RES.out)).1, List.length_drop]
        have APT : Hid (∀ b, (Value.slice A3 m3 c3).ownBlock = some b → (Value.slice A5 m5 c5).ownBlock ≠ some b) := fun b e q => by
          have a1 := (INV.out.own.lt b e).2
          have a2 := (RES.out.lt b q).1
          omega
        have hkl : k ≤ T.length := INV.out.le
        have hT1 : T.length ≤ 800000 := by have := TL.out; omega
        have hm5b : m5 ≤ 800000 := by have := hm5.out; omega
        clear HV2 hb4 CC HD
        go_loopw [5, 50] (fun v i wr2 => ∃ j : Nat, i = .int .i64 (j : Int) ∧ j ≤ m5 ∧ OwnNd 31 wr2 w.heap.size v (foldN (T.take (k + j))) ∧ OwnNd 31 wr2 (wa.heap.size + 1) (.slice A5 m5 c5) (T.drop k) ∧ (∀ b, v.ownBlock = some b → (Value.slice A5 m5 c5).ownBlock ≠ some b) ∧ Below w.heap.size w wr2) (fun _ i _ => m5 - (intOf i).toNat)
        case atStart => exact ⟨0, rfl, Nat.zero_le _, BOTH.out, RES.out, APT.out, hb5.out⟩
        case round =>
          obtain ⟨j, rfl, hj, own5, res5, apt5, hb6⟩ := hrel
          have OWN5 := Lib.hid own5
          have RES5 := Lib.hid res5
          have APT5 := Lib.hid apt5
          have zs6 := hb6.size
          obtain ⟨A6, m6, c6, rfl⟩ := ownNd_slice own5
          clear own5 res5 apt5
          by_cases hjm : j < m5
          · have hkj : k + j < T.length := by have := hm5.out; omega
            have hjd : j < (T.drop k).length := by rw [List.length_drop]; omega
            obtain ⟨h5, rfl⟩ : ∃ h, A5 = some ⟨h, 0, none⟩ := by
              rcases ownNd_form RES5.out with ⟨_, q⟩ | ⟨h, cap, q, _⟩
              · rw [q] at hjd; simp at hjd
              · injection q with q1; exact ⟨h, q1⟩
            obtain ⟨e0, e1, _, _⟩ := row_cells RES5.out hjd
            rw [getD_drop] at e0 e1
            have ST := Lib.hid (T0.out.step hkj)
            have j0 : (0 : Int) ≤ (j : Int) := Int.natCast_nonneg _
            have j1 : (j : Int) < (m5 : Int) := by omega
            have eq1 : k + (j + 1) = k + j + 1 := by omega
            generalize T.getD (k + j) nz = r at *
            obtain ⟨r1, r2⟩ := r
            dsimp only at e0 e1
            have BEH : Hid (Calls Try.prog 47 #[.slice A6 m6 c6, .agg #[.int .i64 r1, .int .i64 r2]] (wr.alloc (.cells #[.int .i64 r1, .int .i64 r2] 31)) (BehPost 31 w.heap.size (.slice A6 m6 c6) (foldN (T.take (k + j + 1))) (wr.alloc (.cells #[.int .i64 r1, .int .i64 r2] 31)))) := by
              have s := ST.out
              show Calls _ _ _ _ _
              rw [← s.2.1]
              exact behind_any r1 r2 _ (World.ownsRow.alloc OWN5.out _) (by simp; omega) (by omega) s.2.2.1 s.1
            go_wp2_with (go_at_call 47; refine BEH.out.mono ?_; rintro e w7 ⟨v', rfl, hown, hkp, hat⟩)
            go_roundw
            case rel =>
              refine ⟨j + 1, by go_num, by omega, by rw [eq1]; exact hown, own_kp (World.ownsRow.alloc RES5.out _) hkp (fun g e q => APT5.out g q e), fun b e q => ?_, ?_⟩
              · rcases hat with f | ⟨y, f, hy⟩
                · exact APT5.out b (f.symm.trans e) q
                · rw [f] at e
                  injection e with e
                  have := (RES5.out.lt b q).2
                  simp at hy
                  omega
              · exact beh_below (hb6.alloc zs6 _) (World.ownsRow.alloc OWN5.out _) hkp
            case measure => simp [intOf]; omega
          · have FIN : Hid (OwnNd 31 wr w.heap.size (.slice A6 m6 c6) (poursN L M)) := by
              have q := OWN5.out
              have e : k + j = T.length := by have := hm5.out; omega
              rw [e, List.take_length, IS.out] at q
              exact q
            go_wp2_with fail
            go_ret
            exact ⟨_, rfl, FIN.out, hb6⟩
      · have e2 : m2 = 0 := by omega
        subst e2
        have e1 : (0 : Int) < (m1 : Int) := by omega
        clear COND hmp
        go_wp2_with (go_at_call 53; refine (CC.out _ (HD.out wa _) (by simp) (by simp)).mono ?_; rintro e w4 ⟨v2, rfl, hv2, hb4⟩; have HV2 := Lib.hid hv2; obtain ⟨A5, m5, c5, rfl⟩ := ownNd_slice hv2; clear hv2)
        have hb5 : Hid (Below w.heap.size w w4) := (HD.out wa _).trans (hb4.mono (by simp; omega))
        have RES : Hid (OwnNd 31 w4 (wa.heap.size + 1) (.slice A5 m5 c5) (T.drop k)) := by
          have q := HV2.out
          rw [REST.out] at q
          show OwnNd _ _ _ _ _
          simpa using q
        have BOTH : Hid (OwnNd 31 w4 w.heap.size (.slice A3 m3 c3) (foldN (T.take k))) := own_below (World.ownsRow.alloc INV.out.own _) hb4
        have hm5 : Hid (m5 = T.length - k) := by show _ = _; rw [(nodes_cells (ownNd_nodes RES.out)).1, List.length_drop]
        have APT : Hid (∀ b, (Value.slice A3 m3 c3).ownBlock = some b → (Value.slice A5 m5 c5).ownBlock ≠ some b) := fun b e q => by
          have a1 := (INV.out.own.lt b e).2
          have a2 := (RES.out.lt b q).1
          omega
        have hkl : k ≤ T.length := INV.out.le
        have hT1 : T.length ≤ 800000 := by have := TL.out; omega
        have hm5b : m5 ≤ 800000 := by have := hm5.out; omega
        clear HV2 hb4 CC HD
        go_loopw [5, 50] (fun v i wr2 => ∃ j : Nat, i = .int .i64 (j : Int) ∧ j ≤ m5 ∧ OwnNd 31 wr2 w.heap.size v (foldN (T.take (k + j))) ∧ OwnNd 31 wr2 (wa.heap.size + 1) (.slice A5 m5 c5) (T.drop k) ∧ (∀ b, v.ownBlock = some b → (Value.slice A5 m5 c5).ownBlock ≠ some b) ∧ Below w.heap.size w wr2) (fun _ i _ => m5 - (intOf i).toNat)
        case atStart => exact ⟨0, rfl, Nat.zero_le _, BOTH.out, RES.out, APT.out, hb5.out⟩
        case round =>
          obtain ⟨j, rfl, hj, own5, res5, apt5, hb6⟩ := hrel
          have OWN5 := Lib.hid own5
          have RES5 := Lib.hid res5
          have APT5 := Lib.hid apt5
          have zs6 := hb6.size
          obtain ⟨A6, m6, c6, rfl⟩ := ownNd_slice own5
          clear own5 res5 apt5
          by_cases hjm : j < m5
          · have hkj : k + j < T.length := by have := hm5.out; omega
            have hjd : j < (T.drop k).length := by rw [List.length_drop]; omega
            obtain ⟨h5, rfl⟩ : ∃ h, A5 = some ⟨h, 0, none⟩ := by
              rcases ownNd_form RES5.out with ⟨_, q⟩ | ⟨h, cap, q, _⟩
              · rw [q] at hjd; simp at hjd
              · injection q with q1; exact ⟨h, q1⟩
            obtain ⟨e0, e1, _, _⟩ := row_cells RES5.out hjd
            rw [getD_drop] at e0 e1
            have ST := Lib.hid (T0.out.step hkj)
            have j0 : (0 : Int) ≤ (j : Int) := Int.natCast_nonneg _
            have j1 : (j : Int) < (m5 : Int) := by omega
            have eq1 : k + (j + 1) = k + j + 1 := by omega
            generalize T.getD (k + j) nz = r at *
            obtain ⟨r1, r2⟩ := r
            dsimp only at e0 e1
            have BEH : Hid (Calls Try.prog 47 #[.slice A6 m6 c6, .agg #[.int .i64 r1, .int .i64 r2]] (wr.alloc (.cells #[.int .i64 r1, .int .i64 r2] 31)) (BehPost 31 w.heap.size (.slice A6 m6 c6) (foldN (T.take (k + j + 1))) (wr.alloc (.cells #[.int .i64 r1, .int .i64 r2] 31)))) := by
              have s := ST.out
              show Calls _ _ _ _ _
              rw [← s.2.1]
              exact behind_any r1 r2 _ (World.ownsRow.alloc OWN5.out _) (by simp; omega) (by omega) s.2.2.1 s.1
            go_wp2_with (go_at_call 47; refine BEH.out.mono ?_; rintro e w7 ⟨v', rfl, hown, hkp, hat⟩)
            go_roundw
            case rel =>
              refine ⟨j + 1, by go_num, by omega, by rw [eq1]; exact hown, own_kp (World.ownsRow.alloc RES5.out _) hkp (fun g e q => APT5.out g q e), fun b e q => ?_, ?_⟩
              · rcases hat with f | ⟨y, f, hy⟩
                · exact APT5.out b (f.symm.trans e) q
                · rw [f] at e
                  injection e with e
                  have := (RES5.out.lt b q).2
                  simp at hy
                  omega
              · exact beh_below (hb6.alloc zs6 _) (World.ownsRow.alloc OWN5.out _) hkp
            case measure => simp [intOf]; omega
          · have FIN : Hid (OwnNd 31 wr w.heap.size (.slice A6 m6 c6) (poursN L M)) := by
              have q := OWN5.out
              have e : k + j = T.length := by have := hm5.out; omega
              rw [e, List.take_length, IS.out] at q
              exact q
            go_wp2_with fail
            go_ret
            exact ⟨_, rfl, FIN.out, hb6⟩

end Go.Proofs.Ytfleaaokbjgljaa
