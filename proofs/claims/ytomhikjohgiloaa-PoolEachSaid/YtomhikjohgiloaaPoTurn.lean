/- The project's package pool: Turn: a pool of that kind with the same nodes, on its own. -/
import Derived.Test.YtomhikjohgiloaaPoEach
namespace Go.Proofs.Ytomhikjohgiloaa
set_option linter.unusedVariables false
set_option maxRecDepth 100000
open Go.RowKit Go.Shelf
attribute [local go_sem] Oper.semAt_some

/-- nodes added, one behind the other -/
def foldA (l : Int) (pre : List Nd) : List Nd := pre.foldl (fun M x => addS l M (wrap64 x.1) (wrap64 x.2)) []
theorem foldA_snoc (l : Int) (pre : List Nd) (x : Nd) : foldA l (pre ++ [x]) = addS l (foldA l pre) (wrap64 x.1) (wrap64 x.2) := by simp [foldA]
theorem foldA_take {l : Int} {L : List Nd} (h : RollC l L) : ∀ k, k ≤ L.length → foldA l (L.take k) = L.take k := by
  intro k
  induction k with
  | zero => intro _; simp [foldA]
  | succ k ih =>
    intro hk
    have hb := nbds_roll h _ (nd_mem (show k < L.length by omega))
    have a := add_take h (show k < L.length by omega)
    rw [nd_take (show k < L.length by omega), foldA_snoc, ih (by omega), wrap_in hb.1.1 hb.1.2, wrap_in hb.2.1 hb.2.2, a.1, nd_take (show k < L.length by omega)]
theorem foldA_all {l : Int} {L : List Nd} (h : RollC l L) : foldA l L = L := by
  have := foldA_take h L.length (Nat.le_refl _)
  rwa [List.take_of_length_le (Nat.le_refl _)] at this
theorem box1 (w : World) (TO : TypeId) (a : Value) : (w.alloc (.cells #[a] TO)).ownsRow w.heap.size TO 1 (.slice (some ⟨w.heap.size, 0, none⟩) 1 1) 1 [a] :=
  World.ownsRow_lit (base := w.heap.size) (e := TO) (size := 1) w #[a] 1 (Nat.le_refl _) (by unfold maxLen; omega) rfl
/-- a row is kept while others than cells turn -/
theorem row_grown {W W' : World} {row : Option Nat} {base : Nat} {e : TypeId} {size n : Nat} {v : Value} {xs : List Value} (o : W.ownsRow base e size v n xs) (hg : W.grownBy W' row) (hr : ∀ r, row = some r → ∃ o : Obj, W.heap[r]? = some o ∧ o.isCells = false) : W'.ownsRow base e size v n xs := by
  rcases o.2 with q | ⟨g, cap, cur, rfl, hb, hgg, rest⟩
  · exact o.kept hg (.inl (by rw [q.1]; rfl))
  · refine o.kept hg (.inr ?_)
    intro he
    obtain ⟨ob, h1, h2⟩ := hr g (by simpa [Value.ownBlock] using he.symm)
    rw [hgg] at h1
    injection h1 with h1
    rw [← h1] at h2
    cases h2
theorem PoA.grown {W W' : World} {row : Option Nat} {B p g h : Nat} {kd l : Int} {n : Nat} {L : List Nd} (d : PoA W B p g h kd l n L) (hg : W.grownBy W' row) (hr : ∀ r, row = some r → ∃ o : Obj, W.heap[r]? = some o ∧ o.isCells = false) : PoA W' B p g h kd l n L :=
  ⟨d.roll, d.len, d.st.imp (fun ⟨a, b, c, e⟩ => ⟨a, b, row_grown c hg hr, ⟨row_grown e.top hg hr, row_grown e.row hg hr, e.ne⟩⟩)
    (fun ⟨a, c, b, S, e, t, z⟩ => ⟨a, row_grown c hg hr, b, S, ⟨row_grown e.top hg hr, row_grown e.row hg hr, e.ne⟩, t, z⟩)⟩
def jdK (kd : Int) : Nat := if kd = 1 then 3 else 4
theorem PoA.slots {W : World} {B p g h : Nat} {kd l : Int} {n : Nat} {L : List Nd} (d : PoA W B p g h kd l n L) : (∃ v, W.cell? ⟨g, 0, none⟩ = some v) ∧ ∃ m c, W.cell? ⟨g, jdK kd, none⟩ = some (.slice (some ⟨h, 0, none⟩) m c) := by
  rcases d.st with ⟨hk, _, _, e⟩ | ⟨hk, _, b, S, e, _⟩
  · have c := e.cells
    rw [jdK, if_pos hk]
    exact ⟨⟨_, c.1⟩, _, _, c.2.2.2⟩
  · have c := e.cells
    rw [jdK, if_neg (by omega)]
    exact ⟨⟨_, c.1⟩, _, _, c.2.2.2.2⟩
theorem row_obj {W : World} {base : Nat} {e : TypeId} {size n g : Nat} {m c : Nat} {xs : List Value} (o : W.ownsRow base e size (.slice (some ⟨g, 0, none⟩) m c) n xs) : ∃ ob : Obj, W.heap[g]? = some ob ∧ ob.isCells = true := by
  rcases o.2 with ⟨hv, _⟩ | ⟨g', cap, cur, hv, _, hgg, _⟩
  · cases hv
  · injection hv with e1
    injection e1 with e1
    injection e1 with e1
    subst e1
    exact ⟨_, hgg, rfl⟩
theorem PoA.objs {W : World} {B p g h : Nat} {kd l : Int} {n : Nat} {L : List Nd} (d : PoA W B p g h kd l n L) : (∃ ob : Obj, W.heap[g]? = some ob ∧ ob.isCells = true) ∧ ∃ ob : Obj, W.heap[h]? = some ob ∧ ob.isCells = true := by
  rcases d.st with ⟨hk, _, _, e⟩ | ⟨hk, _, b, S, e, _⟩
  · exact ⟨row_obj e.top, row_obj e.row⟩
  · exact ⟨row_obj e.top, row_obj e.row⟩
/-- what is written at a pool's store turns cells alone -/
theorem PoA.keepsOthers {W W' : World} {B p g h : Nat} {kd l : Int} {n : Nat} {L : List Nd} (d : PoA W B p g h kd l n L) (c : Chg g h W W') : KeepsOthers W W' :=
  ⟨c.size, fun k o hk ho => by
    obtain ⟨⟨a, ha, ha2⟩, ⟨b, hb, hb2⟩⟩ := d.objs
    refine (c.block k (Array.getElem?_eq_some_iff.1 hk).1 (fun e => ?_) (fun e => ?_)).trans hk
    · subst e; rw [ha] at hk; injection hk with hk; rw [hk, ho] at ha2; cases ha2
    · subst e; rw [hb] at hk; injection hk with hk; rw [hk, ho] at hb2; cases hb2⟩
theorem keepsOthers_below {W W' : World} (hb : Below W.heap.size W W') : KeepsOthers W W' :=
  ⟨hb.size, fun k o hk _ => (hb.block k (Array.getElem?_eq_some_iff.1 hk).1).trans hk⟩
/-- blocks that the store g of a pool does not write -/
def FrP (g j : Nat) (W : World) (k : Nat) : Prop := (∃ o : Obj, W.heap[k]? = some o ∧ o.isCells = true) ∧ k ≠ g ∧ (∃ v, W.cell? ⟨g, 0, none⟩ = some v) ∧ ∀ m c, W.cell? ⟨g, j, none⟩ ≠ some (.slice (some ⟨k, 0, none⟩) m c)
theorem frP (g j : Nat) : Frm (FrP g j) := by
  refine ⟨fun h => h.1, fun {W W' row k} hg hr h => ?_⟩
  obtain ⟨⟨o, ho, hc⟩, hk, ⟨v, hv⟩, hs⟩ := h
  have e1 : W'.heap[k]? = W.heap[k]? := hg.block k (Array.getElem?_eq_some_iff.1 ho).1 (fun e => by
    obtain ⟨ob, h1, h2⟩ := hr k e.symm
    rw [ho] at h1; injection h1 with h1; rw [← h1, hc] at h2; cases h2)
  obtain ⟨og, hog, hogc⟩ := cells_of_cell hv
  have e2 : W'.heap[g]? = W.heap[g]? := hg.block g (Array.getElem?_eq_some_iff.1 hog).1 (fun e => by
    obtain ⟨ob, h1, h2⟩ := hr g e.symm
    rw [hog] at h1; injection h1 with h1; rw [← h1, hogc] at h2; cases h2)
  refine ⟨⟨o, e1.trans ho, hc⟩, hk, ⟨v, (World.cell?_of_block (a := ⟨g, 0, none⟩) e2).trans hv⟩, fun m c => ?_⟩
  rw [World.cell?_of_block (a := ⟨g, j, none⟩) e2]
  exact hs m c
/-- the pool's own call leaves such blocks -/
theorem PoA.kpF {W W' : World} {B p g h h2 : Nat} {kd l : Int} {n n2 : Nat} {L M : List Nd} (d : PoA W B p g h kd l n L) (d2 : PoA W' B p g h2 kd l n2 M) (c : Chg g h W W') (hh : h2 = h ∨ W.heap.size ≤ h2) : KpF (FrP g (jdK kd)) W W' := by
  refine ⟨c.size, fun k hk hf => ?_⟩
  obtain ⟨⟨o, ho, hc⟩, hkg, _, hs⟩ := hf
  obtain ⟨_, m, cc, hsl⟩ := d.slots
  obtain ⟨hv2, m2, cc2, hsl2⟩ := d2.slots
  have hkh : k ≠ h := fun e => by subst e; exact hs _ _ hsl
  have e1 := c.block k hk hkg hkh
  refine ⟨e1, ⟨o, e1.trans ho, hc⟩, hkg, hv2, fun m' c' hq => ?_⟩
  rw [hsl2] at hq
  injection hq with hq
  injection hq with hq
  injection hq with hq
  injection hq with hq
  rcases hh with e | e
  · exact hkh (by omega)
  · omega
theorem poTurn_nil (kd : Int) (w : World) : Calls Try.prog 46 #[.pointer none, .int .i64 kd] w fun e w' => e = .returned (.tuple #[.pointer none, .int .i64 1]) ∧ w = w' := by
  go_enter Try.func46, Try.ntmps46
  go_wp2_with fail
  go_ret2
  exact ⟨rfl, rfl⟩
set_option maxHeartbeats 1600000 in
theorem poTurn_no {B p g h : Nat} {kd l : Int} {n : Nat} {L : List Nd} (kd2 : Int) (w : World) (d : PoA w B p g h kd l n L) (hn : n ≤ 1000) (hi : isP kd2 l = false) :
    Calls Try.prog 46 #[.pointer (some ⟨p, 0, none⟩), .int .i64 kd2] w fun e w' => e = .returned (.tuple #[.pointer none, .int .i64 2]) ∧ Below w.heap.size w w' := by
  have D := Lib.hid d
  have HI := Lib.hid hi
  clear d hi
  go_enter Try.func46, Try.ntmps46
  go_wp2_with (first
    | (go_at_call 50; refine (read_below (poL_any _ D.out hn)).mono ?_; rintro e w1 ⟨rfl, hb1⟩)
    | (go_at_call 36; refine (poNew_no kd2 l _ HI.out).mono ?_; rintro e w2 ⟨rfl, hb2⟩))
  go_ret2
  exact ⟨rfl, (hb1.trans (hb2.mono hb1.size)).alloc (Nat.le_trans hb1.size hb2.size) _⟩
set_option maxHeartbeats 3200000 in
theorem poTurn_in {B p g h : Nat} {kd l : Int} {n : Nat} {L : List Nd} (kd2 : Int) (w : World) (d : PoA w B p g h kd l n L) (hn : n ≤ 1000) (hi : isP kd2 l = true) :
    CallsIn Fence.wide 5 Try.prog 46 #[.pointer (some ⟨p, 0, none⟩), .int .i64 kd2] w fun e w' => ∃ p2 g2 h2, e = .returned (.tuple #[.pointer (some ⟨p2, 0, none⟩), .int .i64 0]) ∧ PoA w' w.heap.size p2 g2 h2 kd2 l L.length L ∧ Below w.heap.size w w' := by
  have D := Lib.hid d
  have HI := Lib.hid hi
  have hlen := d.len
  clear d hi
  refine callsIn_of_wp_marks Try.func46 rfl trivial ?_ rfl
  simp only [Try.ntmps46, List.size_toArray, List.length_cons, List.length_nil, Nat.reduceAdd, Nat.reduceSub, Array.replicate_succ, Array.replicate_zero, List.push_toArray, List.append_toArray, List.nil_append, List.cons_append]
  gi_wp2
  refine ⟨trivial, (callsIn_wide.2 (read_below (poL_any _ D.out hn))).mono ?_⟩
  rintro e w1 ⟨rfl, hb1⟩
  have B1 := Lib.hid hb1
  have D1 := Lib.hid (D.out.below hb1)
  clear hb1
  gi_wp2
  refine ⟨trivial, (callsIn_wide.2 (poNew_any kd2 l _ HI.out)).mono ?_⟩
  rintro e w2 ⟨p2, g2, h2, rfl, hd2, hb2⟩
  have T2 := Lib.hid (hd2.low B1.out.size)
  have B2 := Lib.hid (B1.out.trans (hb2.mono B1.out.size))
  have D2 := Lib.hid (D1.out.below hb2)
  have LT := Lib.hid hd2.lt
  clear hd2 hb2
  gi_wp2
  refine ⟨trivial, (callsIn_wide.2 (poEach_any _ _)).mono ?_⟩
  rintro e w3 ⟨rfl, rfl⟩
  have BX : Hid (((w2.alloc (.cells #[.pointer (some ⟨p2, 0, none⟩)] 59)).alloc (.cells #[.pointer (some ⟨p, 0, none⟩)] 59)).ownsRow w.heap.size 59 1 (.slice (some ⟨w2.heap.size, 0, none⟩) 1 1) 1 [.pointer (some ⟨p2, 0, none⟩)]) := own_low ((box1 w2 59 (.pointer (some ⟨p2, 0, none⟩))).alloc _) B2.out.size
  have hc1 : ((w2.alloc (.cells #[.pointer (some ⟨p2, 0, none⟩)] 59)).alloc (.cells #[.pointer (some ⟨p, 0, none⟩)] 59)).cell? ⟨w2.heap.size + 1, 0, none⟩ = some (.pointer (some ⟨p, 0, none⟩)) := by
    have q := (box1 (w2.alloc (.cells #[.pointer (some ⟨p2, 0, none⟩)] 59)) 59 (.pointer (some ⟨p, 0, none⟩))).cellAt 0 (by omega)
    rw [World.size_alloc] at q
    exact q
  have hz1 : w2.heap.size + 1 < ((w2.alloc (.cells #[.pointer (some ⟨p2, 0, none⟩)] 59)).alloc (.cells #[.pointer (some ⟨p, 0, none⟩)] 59)).heap.size := by simp
  have hba : Below w2.heap.size w2 ((w2.alloc (.cells #[.pointer (some ⟨p2, 0, none⟩)] 59)).alloc (.cells #[.pointer (some ⟨p, 0, none⟩)] 59)) := ((Below.refl _ _).alloc (Nat.le_refl _) _).alloc (by simp) _
  have T3 := Lib.hid (T2.out.below hba)
  have D3 := Lib.hid (D2.out.below hba)
  have B3 := Lib.hid (B2.out.trans (hba.mono B2.out.size))
  clear hba T2 D2
  gi_wp2
  generalize (w2.alloc (.cells #[.pointer (some ⟨p2, 0, none⟩)] 59)).alloc (.cells #[.pointer (some ⟨p, 0, none⟩)] 59) = W0 at *
  have hN : ∀ W W2 k, Below W0.heap.size W0 W → Below W.heap.size W W2 → W.heap.size ≤ k → (∃ o : Obj, W2.heap[k]? = some o ∧ o.isCells = true) → FrP g2 (jdK kd2) W2 k := by
    intro W W2 k h1 h2' h3 h4
    have q := (T3.out.below h1).below h2'
    have q0 := (T3.out.below h1).lt
    obtain ⟨v, m, c, hs⟩ := q.slots
    refine ⟨h4, by omega, v, fun m' c' he => ?_⟩
    rw [hs] at he
    injection he with he
    injection he with he
    injection he with he
    injection he with he
    omega
  refine wpIn_rangeFunc_ownF rfl (by decide) (gf := 80) (lb := #[.pointer (some ⟨w2.heap.size + 1, 0, none⟩)]) rfl trivial (enters_of Try.func80 (by kernel_rfl) rfl)
    (each_stops 4 (w2.heap.size + 1) p B g h hn (FrP g2 (jdK kd2)) (frP _ _) W0 hc1 hz1 D3.out hN) kpF_t (fun W l' o o' _ hl ho _ => kpF_b (frP _ _) W l' o o' hl ho) (Below.refl _ _) (fun _ => rfl)
    (fun pre W => (∃ h', PoA W w.heap.size p2 g2 h' kd2 l pre.length (foldA l pre) ∧ W.ownsRow w.heap.size 59 1 (.slice (some ⟨w2.heap.size, 0, none⟩) 1 1) 1 [.pointer (some ⟨p2, 0, none⟩)]) ∧ Below w.heap.size w W)
    (fun _ _ _ => False)
    (OwnFrom.and (Own.from (fun s A C row ⟨h', d, r⟩ hg hr => ⟨h', d.grown hg hr, row_grown r hg hr⟩) _) (ownFrom_below (Nat.le_refl _) B3.out.size))
    (fun _ _ _ _ _ hs _ _ => hs)
    ⟨⟨h2, T3.out, BX.out⟩, B3.out⟩
    ?a1 ?assign ?body ?done ?stop
  case assign =>
    intro l' x W K hK
    gi_wp2
    exact hK
  case body =>
    rintro l' pre x W ⟨⟨h', hd, hbx⟩, hB⟩ hpl
    have c0 : W.cell? ⟨w2.heap.size, 0, none⟩ = some (.pointer (some ⟨p2, 0, none⟩)) := hbx.cellAt 0 (by omega)
    gi_wp2
    refine ⟨trivial, (CallsIn.inRound l' (callsIn_wide.2 (poAdd_any (wrap64 x.1) (wrap64 x.2) W hd (by omega) (wrap_bd _).1 (wrap_bd _).2 (wrap_bd _).1 (wrap_bd _).2))).mono ?_⟩
    rintro e W3 ⟨rfl, h3, hd3, hc3, hh3⟩
    have lt := hd.lt
    have hb3 := hc3.below (B := w.heap.size) lt.2.1 lt.2.2.2.1 hB.size
    have hbx3 := hd.other hbx hc3 (by decide) (by decide) (by decide) (by decide)
    have kk := hd.kpF hd3 hc3 hh3
    have ko := hd.keepsOthers hc3
    gi_wp2
    exact ⟨ko, kk, ⟨h3, by rw [foldA_snoc, List.length_append]; exact hd3, hbx3⟩, hB.trans hb3⟩
  case done =>
    rintro D' ys W hD hys ⟨⟨h', hd, hbx⟩, hB⟩ hK
    have c0 : W.cell? ⟨w2.heap.size, 0, none⟩ = some (.pointer (some ⟨p2, 0, none⟩)) := hbx.cellAt 0 (by omega)
    gi_wp2
    refine ⟨by simp, .inl ⟨_, _, rfl, run_takeDeferred hK, ?_⟩⟩
    rw [hys, foldA_all D.out.roll] at hd
    exact ⟨.tuple #[.pointer (some ⟨p2, 0, none⟩), .int .i64 0], by simp [results, Try.f46, go_sem], p2, g2, h', rfl, hd.grown (grownBy_putObj' W D' _) (fun r e => by cases e; exact ⟨_, hK, rfl⟩), hB.trans (belowK_b (w := W0) B3.out.size W D' _ _ hD hK rfl rfl)⟩
  case stop =>
    rintro D' c pre W _ _ h _
    exact h.elim
theorem poTurn_any {B p g h : Nat} {kd l : Int} {n : Nat} {L : List Nd} (kd2 : Int) (w : World) (d : PoA w B p g h kd l n L) (hn : n ≤ 1000) (hi : isP kd2 l = true) :
    Calls Try.prog 46 #[.pointer (some ⟨p, 0, none⟩), .int .i64 kd2] w fun e w' => ∃ p2 g2 h2, e = .returned (.tuple #[.pointer (some ⟨p2, 0, none⟩), .int .i64 0]) ∧ PoA w' w.heap.size p2 g2 h2 kd2 l L.length L ∧ Below w.heap.size w w' :=
  callsIn_wide.1 (poTurn_in kd2 w d hn hi)

end Go.Proofs.Ytomhikjohgiloaa
