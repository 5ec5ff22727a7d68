/- The project's package bag: a value put in at a place. -/
import Derived.Test.YtfleaaokbjgljaaBg4
import Derived.StillTailTactics
namespace Go.Proofs.Ytfleaaokbjgljaa
set_option linter.unusedVariables false
set_option maxRecDepth 100000
open Go.RowKit
attribute [local go_sem ↓] Go.wp_at_zero Go.wp_at_succ

/-- what put leaves -/
def BPutPost (TB TR : TypeId) (B g : Nat) (a0 a1 v : Value) (M : List Nd) (w : World) (e : Ending) (w' : World) : Prop :=
  ∃ v', e = .returned (.tuple #[]) ∧ w'.ownsRow B TB 3 (.slice (some ⟨g, 0, none⟩) 1 1) 1 [a0, a1, v'] ∧ OwnNd TR w' B v' M ∧ Kp (bgF g v) w w' ∧ At w v v'
theorem adv_at (h cap k : Nat) (hk : k < cap) : advA ⟨h, 0, none⟩ cap k 2 = ⟨h, k * 2, none⟩ := by
  unfold advA
  rw [if_neg (by omega)]
  unfold Addr.add
  split
  · rename_i q; rw [q]
  · simp
theorem put_list (L : List Nd) {k : Nat} (hk : k ≤ L.length) (n : Nd) : ((L ++ [nz]).take (k + 1) ++ L.drop k).set k n = L.take k ++ n :: L.drop k := by
  have e : (L ++ [nz]).take (k + 1) = L.take k ++ [(L ++ [nz]).getD k nz] := by
    rw [nd_take (by simp; omega), List.take_append_of_le_length hk]
  rw [e, List.append_assoc, List.set_append_right _ _ (by simp; omega)]
  congr 1
  have e2 : k - (L.take k).length = 0 := by simp; omega
  rw [e2]; rfl
theorem put_over (L : List Nd) {k : Nat} (hk : k < L.length) : (nods (L ++ [nz])).take ((k + 1) * 2) ++ nods (L.drop k) = nods ((L ++ [nz]).take (k + 1) ++ L.drop k) := by
  rw [nods_take, nods_app]
theorem grown_kp {w w2 w3 : World} {g : Nat} {v : Value} (hb : Below w.heap.size w w2) (h : w2.grownBy w3 v.ownBlock) : Kp (bgF g v) w w3 :=
  (Kp.of (F := bgF g v) hb).trans (Kp.grown h) fun k _ e => .inr e.symm
theorem Kp.set {F : Nat → Prop} {w w' : World} (p : Kp F w w') {b o : Nat} (u : Value) (h : b < w.heap.size → F b) : Kp F w (w'.setCell ⟨b, o, none⟩ u) :=
  p.trans (Kp.setCell w' ⟨b, o, none⟩ u) fun k hk e => by have e : k = b := e; subst e; exact h hk
theorem Kp.setR {F : Nat → Prop} {w w' : World} (p : Kp F w w') {b : Nat} (cs : Array Value) (h : b < w.heap.size → F b) : Kp F w (w'.setRow b cs) :=
  p.trans (Kp.setRow w' b cs) fun k hk e => by have e : k = b := e; subst e; exact h hk
theorem Kp.drew {F : Nat → Prop} {w w' : World} (p : Kp F w w') : Kp F w w'.drew := ⟨p.os, p.tape, p.output, p.size, p.block⟩
theorem at_in {w : World} {v v' : Value} (a : At w v v') {h : Nat} (e : v'.ownBlock = some h) (g : Nat) : h < w.heap.size → bgF g v h := fun hh => by
  rcases a with q | ⟨k, q, hk⟩
  · exact .inr (q.symm.trans e)
  · rw [q] at e; injection e with e; omega
theorem row_cells {e : TypeId} {w : World} {B h n cap k : Nat} {L : List Nd} (r : OwnNd e w B (.slice (some ⟨h, 0, none⟩) n cap) L) (hk : k < L.length) :
    w.cell? ⟨h, k * 2, none⟩ = some (.int .i64 (L.getD k nz).1) ∧ w.cell? ⟨h, k * 2 + 1, none⟩ = some (.int .i64 (L.getD k nz).2) ∧ w.frozen? ⟨h, k * 2, none⟩ = false ∧ w.frozen? ⟨h, k * 2 + 1, none⟩ = false := by
  have hl := (nodes_cells (ownNd_nodes r)).1
  have q := r
  unfold OwnNd at q
  rw [← hl] at q
  rcases ownNd_form r with ⟨a, _⟩ | ⟨h', cap', a, _, _, _, _, hin⟩
  · simp at a
  · simp only [Value.slice.injEq, Option.some.injEq, Addr.mk.injEq, and_true] at a
    obtain ⟨rfl, _⟩ := a
    have c := hin.2 k hk
    rw [Nat.zero_add] at c
    exact ⟨c.1, c.2, q.frozenAt _, q.frozenAt _⟩
set_option maxHeartbeats 3200000 in
theorem bgPut_mid {B g : Nat} {a0 a1 : Value} {L : List Nd} {A : Option Addr} {n c : Nat} (k : Nat) (x cc : Int) (w : World) (top : w.ownsRow B 67 3 (.slice (some ⟨g, 0, none⟩) 1 1) 1 [a0, a1, .slice A n c]) (row : OwnNd 31 w B (.slice A n c) L)
    (hk : k ≤ L.length) (hn : L.length ≤ 1000000) :
    Calls Try.prog 41 #[.pointer (some ⟨g, 0, none⟩), .int .i64 (k : Int), .agg #[.int .i64 x, .int .i64 cc]] w (BPutPost 67 31 B g a0 a1 (.slice A n c) (L.take k ++ (x, cc) :: L.drop k) w) := by
  obtain ⟨i0, hi, hz0, hz1, hz2⟩ := info_parts read_info
  have hsz : (Try.prog.info? 31).map (·.size) = some 2 := by kernel_rfl
  have hm := (nodes_cells (ownNd_nodes row)).1
  have HM := Lib.hid hm
  have HK := Lib.hid hk
  have hgl := (top.lt g rfl)
  have TOP := Lib.hid top
  have HR : Hid (w.ownsRow B 31 2 (.slice A n c) n (nods L)) := by have q := row; unfold OwnNd at q; rw [← hm] at q; exact q
  have hb2 : Below w.heap.size w ((w.alloc (.cells #[.int .i64 x, .int .i64 cc] 31)).alloc (.cells #[.int .i64 0, .int .i64 0] 31)) := ((Below.refl _ _).alloc (Nat.le_refl _) _).alloc (by simp) _
  have HB2 := Lib.hid hb2
  have c2 := top.cellAt 2 (by omega)
  have c2' := (hb2.cell (p := ⟨g, 2, none⟩) hgl.2).trans c2
  have hnn : n ≤ 1000000 := by omega
  have hBw : B ≤ w.heap.size := by omega
  have hg := hgl.2
  clear top row hm hb2 hk hn hgl
  go_enter Try.func41, Try.ntmps41
  go_wp2_with (at_builtin; refine wpList_append_own_at _ rfl (.tmp 10) (.tmp 12) 22 rfl B 31 i0 (.agg #[.int .i64 0, .int .i64 0]) 2 16 Try.underlying22 hi hz0 hz1 hz2 rfl (by decide) (.slice A n c) n (nods L) rfl (World.ownsRow.alloc (World.ownsRow.alloc HR.out _) _) ⟨w.heap.size + 1, 0, none⟩ 1 1 [.int .i64 0, .int .i64 0] rfl rfl (two_new _ _ _ _ _ (by simp)) (two_cell _ _) (by unfold maxLen; omega) (by omega) (by simp; omega) ?_)
  intro v' w3 hown3 hgrow3 _ hat3
  have ROW3 : Hid (OwnNd 31 w3 B v' (L ++ [nz])) := by
    show w3.ownsRow _ _ _ _ _ _
    rw [nods_app, List.length_append, ← HM.out]
    exact hown3
  have KP3 := Lib.hid (grown_kp (g := g) (v := .slice A n c) HB2.out hgrow3)
  have AT3 : Hid (At w (.slice A n c) v') := hat3.imp (fun e => e) fun e => ⟨_, e, by omega⟩
  have TOP3 : Hid (w3.ownsRow B 67 3 (.slice (some ⟨g, 0, none⟩) 1 1) 1 [a0, a1, .slice A n c]) := by
    refine World.ownsRow.kept ((TOP.out.alloc _).alloc _) hgrow3 ?_
    exact own_apart TOP.out HR.out (by decide)
  obtain ⟨h, cap, rfl, hBh, hh3, hnc, hcm, hin⟩ : ∃ h cap, v' = .slice (some ⟨h, 0, none⟩) (n + 1) cap ∧ B ≤ h ∧ h < w3.heap.size ∧ n + 1 ≤ cap ∧ cap ≤ maxLen ∧ NdIn w3 h 0 (L ++ [nz]) := by
    rcases ownNd_form ROW3.out with ⟨_, q⟩ | ⟨h, cap, q1, q2, q3, q4, q5, q6⟩
    · simp at q
    · have e : (L ++ [nz]).length = n + 1 := by rw [List.length_append, ← HM.out]; rfl
      rw [e] at q1 q4
      exact ⟨h, cap, q1, q2, q3, q4, q5, q6⟩
  have hgh : h ≠ g := by
    rcases own_apart ROW3.out TOP3.out (by decide) with q | q
    · simp [Value.ownBlock] at q
    · intro e; subst e; exact q rfl
  have hgh' : g ≠ h := fun e => hgh e.symm
  have HRn : Hid (w.heap.size ≠ h ∧ w.heap.size ≠ g) := ⟨fun e => by
    rcases hat3 with q | q
    · have := (HR.out.lt h q.symm).2; omega
    · have e2 : h = w.heap.size + 2 := by simpa [Value.ownBlock] using q
      omega, by omega⟩
  have r0 : w3.cell? ⟨w.heap.size, 0, none⟩ = some (.int .i64 x) := by
    rw [World.cell?_of_block (a := ⟨w.heap.size, 0, none⟩) (hgrow3.block w.heap.size (by simp; omega) (fun e => by have := (HR.out.lt _ e.symm).2; omega))]; simp
  have r1 : w3.cell? ⟨w.heap.size, 1, none⟩ = some (.int .i64 cc) := by
    rw [World.cell?_of_block (a := ⟨w.heap.size, 1, none⟩) (hgrow3.block w.heap.size (by simp; omega) (fun e => by have := (HR.out.lt _ e.symm).2; omega))]; simp
  have t2 := TOP3.out.cellAt 2 (by omega)
  have t2f := TOP3.out.frozenAt 2
  have hz3 : w.heap.size + 2 ≤ w3.heap.size := by have := hgrow3.size; simp at this; omega
  have TOP4 := Lib.hid (TOP3.out.stored 2 (.slice (some ⟨h, 0, none⟩) (n + 1) cap)).1
  have ROW4 : Hid (OwnNd 31 (w3.setCell ⟨g, 2, none⟩ (.slice (some ⟨h, 0, none⟩) (n + 1) cap)) B (.slice (some ⟨h, 0, none⟩) (n + 1) cap) (L ++ [nz])) := ownsRow_setCell_other ROW3.out (a := ⟨g, 2, none⟩) (by simp [Value.ownBlock]; exact hgh) _
  have KP4 := Lib.hid (KP3.out.set (b := g) (o := 2) (.slice (some ⟨h, 0, none⟩) (n + 1) cap) (fun _ => .inl rfl))
  have r0' : (w3.setCell ⟨g, 2, none⟩ (.slice (some ⟨h, 0, none⟩) (n + 1) cap)).cell? ⟨w.heap.size, 0, none⟩ = some (.int .i64 x) := by rw [World.cell?_setCell_other _ _ _ _ (fun e => by injection e with e; exact HRn.out.2 e.symm)]; exact r0
  have r1' : (w3.setCell ⟨g, 2, none⟩ (.slice (some ⟨h, 0, none⟩) (n + 1) cap)).cell? ⟨w.heap.size, 1, none⟩ = some (.int .i64 cc) := by rw [World.cell?_setCell_other _ _ _ _ (fun e => by injection e with e; exact HRn.out.2 e.symm)]; exact r1
  have t2' := TOP4.out.cellAt 2 (by omega)
  have hz4 : w3.heap.size = (w3.setCell ⟨g, 2, none⟩ (.slice (some ⟨h, 0, none⟩) (n + 1) cap)).heap.size := by simp
  have hkn : k ≤ n := by have := HK.out; have := HM.out; omega
  have s1 : ∀ w, (Instr.slice 22 (.slice (some ⟨h, 0, none⟩) (n + 1) cap) (some (.int .i64 ((k : Int) + 1))) none none).run Try.prog w = .ok (.slice (some (advA ⟨h, 0, none⟩ cap (k + 1) 2)) (n - k) (cap - (k + 1))) w := fun w => by
    have q := sl_from (P := Try.prog) Try.underlying22 hi hz1 ⟨h, 0, none⟩ (n + 1) cap (k + 1) (by omega) w
    rw [show n + 1 - (k + 1) = n - k by omega] at q
    exact q
  have s2 : ∀ w, (Instr.slice 22 (.slice (some ⟨h, 0, none⟩) (n + 1) cap) (some (.int .i64 (k : Int))) none none).run Try.prog w = .ok (.slice (some ⟨h, k * 2, none⟩) (n + 1 - k) (cap - k)) w := fun w => by
    rw [← adv_at h cap k (by omega)]
    exact sl_from (P := Try.prog) Try.underlying22 hi hz1 ⟨h, 0, none⟩ (n + 1) cap k (by omega) w
  have hwr : IntKind.i64.wrap ((k : Int) + 1) = (k : Int) + 1 := by rw [IntKind.wrap_i64]; omega
  clear hown3 hgrow3 hat3 hin r0 r1
  go_wp2_with fail
  generalize w3.setCell ⟨g, 2, none⟩ (.slice (some ⟨h, 0, none⟩) (n + 1) cap) = w4 at *
  clear t2 t2f
  have hd : ∀ a, ({ heap := w4.heap, tape := w4.tape, drawn := w4.drawn + 1, os := w4.os, output := w4.output } : World).cell? a = w4.cell? a := fun _ => rfl
  go_still_tail 13, (by kernel_rfl)
  change wpList _ _ _ _ _ (World.drew w4)
  clear hd
  have ROWD : Hid (OwnNd 31 (World.drew w4) B (.slice (some ⟨h, 0, none⟩) (n + 1) cap) (L ++ [nz])) := ROW4.out
  have TOPD : Hid ((World.drew w4).ownsRow B 67 3 (.slice (some ⟨g, 0, none⟩) 1 1) 1 [a0, a1, .slice (some ⟨h, 0, none⟩) (n + 1) cap]) := TOP4.out
  have KPD := Lib.hid KP4.out.drew
  have r0d : (World.drew w4).cell? ⟨w.heap.size, 0, none⟩ = some (.int .i64 x) := r0'
  have r1d : (World.drew w4).cell? ⟨w.heap.size, 1, none⟩ = some (.int .i64 cc) := r1'
  have zD : w3.heap.size = (World.drew w4).heap.size := hz4
  clear r0' r1' t2' TOP3 ROW3 KP3
  generalize World.drew w4 = w5 at *
  have FIN : ∀ w6 : World, (w6.ownsRow B 67 3 (.slice (some ⟨g, 0, none⟩) 1 1) 1 [a0, a1, .slice (some ⟨h, 0, none⟩) (n + 1) cap]) → OwnNd 31 w6 B (.slice (some ⟨h, 0, none⟩) (n + 1) cap) ((L ++ [nz]).take (k + 1) ++ L.drop k) → Kp (bgF g (.slice A n c)) w w6 →
      BPutPost 67 31 B g a0 a1 (.slice A n c) (L.take k ++ (x, cc) :: L.drop k) w (.returned (.tuple #[])) ((w6.drew.setCell ⟨h, k * 2, none⟩ (.int .i64 x)).setCell ⟨h, k * 2 + 1, none⟩ (.int .i64 cc)) := by
    intro w6 T6 R6 K6
    have T6d : w6.drew.ownsRow B 67 3 (.slice (some ⟨g, 0, none⟩) 1 1) 1 [a0, a1, .slice (some ⟨h, 0, none⟩) (n + 1) cap] := T6
    have R6d : OwnNd 31 w6.drew B (.slice (some ⟨h, 0, none⟩) (n + 1) cap) ((L ++ [nz]).take (k + 1) ++ L.drop k) := R6
    have hlen : ((L ++ [nz]).take (k + 1) ++ L.drop k).length = n + 1 := by
      have := HM.out; have := HK.out
      rw [List.length_append, List.length_take, List.length_append, List.length_drop]; simp; omega
    unfold OwnNd at R6d
    rw [hlen] at R6d
    have S1 := R6d.stored (k * 2) (.int .i64 x)
    have S2 := S1.1.stored (k * 2 + 1) (.int .i64 cc)
    refine ⟨_, rfl, ownsRow_setCell_other (ownsRow_setCell_other T6d (a := ⟨h, k * 2, none⟩) (by simp [Value.ownBlock]; exact hgh') _) (a := ⟨h, k * 2 + 1, none⟩) (by simp [Value.ownBlock]; exact hgh') _, ?_, ?_, AT3.out⟩
    · rw [← put_list L HK.out]
      unfold OwnNd
      rw [List.length_set, hlen, nods_set3]
      exact S2.1
    · exact (K6.drew.set _ (at_in AT3.out rfl g)).set _ (at_in AT3.out rfl g)
  have HF := Lib.hid FIN
  have HLEN : Hid (((L ++ [nz]).take (k + 1) ++ L.drop k).length = n + 1) := by
    have := HM.out
    show _ = _
    rw [List.length_append, List.length_take, List.length_append, List.length_drop]; simp; omega
  clear FIN
  rcases Nat.lt_or_ge k n with hlt | hge
  · rw [adv_at h cap (k + 1) (by omega)]
    obtain ⟨cur, hcur, hcz⟩ : ∃ cur, w5.heap[h]? = some (.cells cur 31 (0, 0)) ∧ cur.size = cap * 2 := by
      rcases ROWD.out.2 with ⟨q, _⟩ | ⟨h', cap', cur, q, _, hg', _, _, hs, _⟩
      · simp at q
      · simp only [Value.slice.injEq, Option.some.injEq, Addr.mk.injEq, and_true] at q
        obtain ⟨rfl, _, rfl⟩ := q
        exact ⟨cur, hg', hs⟩
    have hkl : k < L.length := by have := HM.out; omega
    have NC : (nods (L.drop k)).length = (n - k) * 2 := by rw [nods_len, List.length_drop, ← HM.out]
    have hin5 : NdIn w5 h (k * 2) (L.drop k) := by
      rcases ownNd_form ROWD.out with ⟨q, _⟩ | ⟨h', cap', q, _, _, _, _, hin⟩
      · simp at q
      · simp only [Value.slice.injEq, Option.some.injEq, Addr.mk.injEq, and_true] at q
        obtain ⟨rfl, _⟩ := q
        have a := (hin.drop (k := k)).take (k := n - k)
        rw [Nat.zero_add] at a
        have e : ((L ++ [nz]).drop k).take (n - k) = L.drop k := by
          rw [List.drop_append_of_le_length HK.out, List.take_append_of_le_length (by rw [List.length_drop, ← HM.out]; omega), List.take_of_length_le (by rw [List.length_drop, ← HM.out]; omega)]
        rw [e] at a
        exact a
    refine wpList_copy_into rfl (.tmp 22) (.tmp 28) 22 22 rfl 31 2 Try.underlying22 hsz h ((k + 1) * 2) (n - k) (cap - (k + 1)) (n + 1 - k) (cap - k) (n - k) ⟨h, k * 2, none⟩ rfl rfl cur 31 hcur (by show min (n + 1 - k) (n - k) = n - k; omega) (nods (L.drop k)) NC hin5.news (by omega) (nods_one _) ?_
    have R6 : Hid (OwnNd 31 (w5.setRow h (cur.toList.take ((k + 1) * 2) ++ nods (L.drop k) ++ cur.toList.drop ((k + 1) * 2 + (nods (L.drop k)).length)).toArray) B (.slice (some ⟨h, 0, none⟩) (n + 1) cap) ((L ++ [nz]).take (k + 1) ++ L.drop k)) := by
      have q := ROWD.out
      unfold OwnNd at q
      have e1 : (L ++ [nz]).length = n + 1 := by rw [List.length_append, ← HM.out]; rfl
      rw [e1] at q
      have q2 := own_over (off := (k + 1) * 2) (cs := nods (L.drop k)) q hcur (by rw [NC]; omega)
      rw [put_over L hkl] at q2
      have e2 : ((L ++ [nz]).take (k + 1) ++ L.drop k).length = n + 1 := by
        have := HM.out
        rw [List.length_append, List.length_take, List.length_append, List.length_drop]; simp; omega
      show World.ownsRow _ _ _ _ _ _ _
      rw [e2]
      exact q2
    have T6 := Lib.hid (own_kp TOPD.out (Kp.setRow w5 h (cur.toList.take ((k + 1) * 2) ++ nods (L.drop k) ++ cur.toList.drop ((k + 1) * 2 + (nods (L.drop k)).length)).toArray) (fun q e => by simp [Value.ownBlock] at e; subst e; exact hgh'))
    have K6 := Lib.hid (KPD.out.setR (b := h) (cur.toList.take ((k + 1) * 2) ++ nods (L.drop k) ++ cur.toList.drop ((k + 1) * 2 + (nods (L.drop k)).length)).toArray (at_in AT3.out rfl g))
    have r0e := (Kp.setRow w5 h (cur.toList.take ((k + 1) * 2) ++ nods (L.drop k) ++ cur.toList.drop ((k + 1) * 2 + (nods (L.drop k)).length)).toArray).cell (b := w.heap.size) (o := 0) (by omega) HRn.out.1
    have r1e := (Kp.setRow w5 h (cur.toList.take ((k + 1) * 2) ++ nods (L.drop k) ++ cur.toList.drop ((k + 1) * 2 + (nods (L.drop k)).length)).toArray).cell (b := w.heap.size) (o := 1) (by omega) HRn.out.1
    rw [r0d] at r0e
    rw [r1d] at r1e
    clear r0d r1d hcur hcz NC hin5
    generalize w5.setRow h (cur.toList.take ((k + 1) * 2) ++ nods (L.drop k) ++ cur.toList.drop ((k + 1) * 2 + (nods (L.drop k)).length)).toArray = w6 at *
    have t6 := T6.out.cellAt 2 (by omega)
    have u0 := row_cells R6.out (k := k) (by rw [HLEN.out]; omega)
    obtain ⟨u0, u1, f0, f1⟩ := u0
    generalize (((L ++ [nz]).take (k + 1) ++ L.drop k).getD k nz) = z at *
    have HF6 := Lib.hid (HF.out w6 T6.out R6.out K6.out)
    have k0 : (0 : Int) ≤ (k : Int) := Int.natCast_nonneg _
    have k1 : (k : Int) < ((n + 1 : Nat) : Int) := by omega
    have k2 : (k : Int) < (n : Int) + 1 := by omega
    clear s1 s2 hwr
    go_wp2_with fail
    have hd : ∀ a, ({ heap := w6.heap, tape := w6.tape, drawn := w6.drawn + 1, os := w6.os, output := w6.output } : World).cell? a = w6.cell? a := fun _ => rfl
    go_still_tail 7, (by kernel_rfl)
    change wpList _ _ _ _ _ (World.drew w6)
    clear hd
    have v0 : (World.drew w6).cell? ⟨h, k * 2, none⟩ = some (.int .i64 z.1) := u0
    have v1 : (World.drew w6).cell? ⟨h, k * 2 + 1, none⟩ = some (.int .i64 z.2) := u1
    have g0 : (World.drew w6).frozen? ⟨h, k * 2, none⟩ = false := f0
    have g1 : (World.drew w6).frozen? ⟨h, k * 2 + 1, none⟩ = false := f1
    clear u0 u1 f0 f1
    generalize World.drew w6 = w7 at *
    go_wp2_with fail
    go_end0
    exact HF6.out
  · obtain rfl : k = n := by omega
    have hkk : k - k = 0 := Nat.sub_self k
    have hL1 : Hid ((L ++ [nz]).take (k + 1) ++ L.drop k = L ++ [nz]) := by
      show _ = _
      rw [List.take_of_length_le (by have := HM.out; rw [List.length_append]; simp; omega), List.drop_of_length_le (Nat.le_of_eq HM.out.symm), List.append_nil]
    rw [hkk]
    refine wpList_copy_zero rfl (.tmp 22) (.tmp 28) 22 22 rfl 31 2 Try.underlying22 hsz (some (advA ⟨h, 0, none⟩ cap (k + 1) 2)) (some ⟨h, k * 2, none⟩) 0 (cap - (k + 1)) (k + 1 - k) (cap - k) rfl rfl (Nat.min_zero _) ?_
    have R6 : Hid (OwnNd 31 w5 B (.slice (some ⟨h, 0, none⟩) (k + 1) cap) ((L ++ [nz]).take (k + 1) ++ L.drop k)) := by
      show OwnNd _ _ _ _ _
      rw [hL1.out]
      exact ROWD.out
    have T6 := TOPD
    have K6 := KPD
    have r0e := r0d
    have r1e := r1d
    clear r0d r1d
    generalize hw6 : w5 = w6 at *
    clear hw6
    have t6 := T6.out.cellAt 2 (by omega)
    have u0 := row_cells R6.out (k := k) (by rw [HLEN.out]; omega)
    obtain ⟨u0, u1, f0, f1⟩ := u0
    generalize (((L ++ [nz]).take (k + 1) ++ L.drop k).getD k nz) = z at *
    have HF6 := Lib.hid (HF.out w6 T6.out R6.out K6.out)
    have k0 : (0 : Int) ≤ (k : Int) := Int.natCast_nonneg _
    have k1 : (k : Int) < ((k + 1 : Nat) : Int) := by omega
    have k2 : (k : Int) < (k : Int) + 1 := by omega
    clear s1 s2 hwr
    go_wp2_with fail
    have hd : ∀ a, ({ heap := w6.heap, tape := w6.tape, drawn := w6.drawn + 1, os := w6.os, output := w6.output } : World).cell? a = w6.cell? a := fun _ => rfl
    go_still_tail 7, (by kernel_rfl)
    change wpList _ _ _ _ _ (World.drew w6)
    clear hd
    have v0 : (World.drew w6).cell? ⟨h, k * 2, none⟩ = some (.int .i64 z.1) := u0
    have v1 : (World.drew w6).cell? ⟨h, k * 2 + 1, none⟩ = some (.int .i64 z.2) := u1
    have g0 : (World.drew w6).frozen? ⟨h, k * 2, none⟩ = false := f0
    have g1 : (World.drew w6).frozen? ⟨h, k * 2 + 1, none⟩ = false := f1
    clear u0 u1 f0 f1
    generalize World.drew w6 = w7 at *
    go_wp2_with fail
    go_end0
    exact HF6.out

end Go.Proofs.Ytfleaaokbjgljaa
