/- The walk of the statement PoolNobody of layer pool: for every input it returns true, and nothing that was there before is changed. -/
import Derived.Test.YtomhikjohgiloaaPoTurn
namespace Go.Proofs.Ytomhikjohgiloaa
set_option linter.unusedVariables false
set_option maxRecDepth 100000
open Go.RowKit Go.Shelf
attribute [local go_sem] Oper.semAt_some

theorem ponob_is : isP 2 9 = true := by decide
set_option maxHeartbeats 3200000 in
theorem poolNobody_in (kd id cc : Int) (K0 : -9223372036854775808 ≤ kd) (K1 : kd ≤ 9223372036854775807) (A0 : -9223372036854775808 ≤ id) (A1 : id ≤ 9223372036854775807) (B0 : -9223372036854775808 ≤ cc) (B1 : cc ≤ 9223372036854775807) (w : World) :
    CallsIn Fence.wide 5 Try.prog 13 #[.int .i64 kd, .int .i64 id, .int .i64 cc] w fun e w' => e = .returned (.bool true) ∧ Below w.heap.size w w' := by
  have hb0 : Below w.heap.size w (w.alloc (.cells #[.bool false] 4)) := (Below.refl _ _).alloc (Nat.le_refl _) _
  have hfn : ∀ (v : Value) (w : World), (binOp .eql 78 (.func (.func 80) #[] #[v]) .nilFunc).run Try.prog w = .ok (.bool false) w := fun _ _ => by kernel_rfl
  have R0 := Lib.hid (box1 w 4 (.bool false))
  have HB0 := Lib.hid hb0
  clear hb0
  refine callsIn_of_wp_marks Try.func13 rfl trivial ?_ rfl
  simp only [Try.ntmps13, List.size_toArray, List.length_cons, List.length_nil, Nat.reduceAdd, Nat.reduceSub, Array.replicate_succ, Array.replicate_zero, List.push_toArray, List.append_toArray, List.nil_append, List.cons_append]
  gi_wp2_with (refine ⟨trivial, ?_⟩; gi_at_call 46; refine (callsIn_wide.2 (poTurn_nil _ _)).mono ?_; rintro e w1 ⟨rfl, rfl⟩)
  refine ⟨trivial, (callsIn_wide.2 (poNew_any 2 9 _ ponob_is)).mono ?_⟩
  rintro e w2 ⟨p, g, h, rfl, hd, hb2⟩
  have R2 := Lib.hid (own_below R0.out hb2)
  have HB2 := Lib.hid (HB0.out.trans (hb2.mono HB0.out.size))
  clear hd hb2
  gi_wp2_with (first
    | (refine ⟨trivial, ?_⟩; gi_at_call 40; (with_reducible refine (callsIn_wide.2 (poSame_nil _)).mono ?_); rintro e w3 ⟨rfl, rfl⟩)
    | (refine ⟨trivial, ?_⟩; gi_at_call 40; (with_reducible refine (callsIn_wide.2 (poSame_nil1 _ _)).mono ?_); rintro e w3 ⟨rfl, rfl⟩)
    | (refine ⟨trivial, ?_⟩; gi_at_call 40; (with_reducible refine (callsIn_wide.2 (poSame_nil2 _ _)).mono ?_); rintro e w3 ⟨rfl, rfl⟩)
    | (refine ⟨trivial, ?_⟩; gi_at_call 48; refine (callsIn_wide.2 (poEach_any _ _)).mono ?_; rintro e w3 ⟨rfl, rfl⟩))
  clear hfn
  have hc1 : (w2.alloc (.cells #[.pointer none] 59)).cell? ⟨w2.heap.size, 0, none⟩ = some (.pointer none) := (box1 w2 59 (.pointer none)).cellAt 0 (by omega)
  have hz1 : w2.heap.size < (w2.alloc (.cells #[.pointer none] 59)).heap.size := by simp
  have R3 := Lib.hid (R2.out.alloc (.cells #[.pointer none] 59))
  have HB3 := Lib.hid (HB2.out.alloc HB2.out.size (.cells #[.pointer none] 59))
  generalize w2.alloc (.cells #[.pointer none] 59) = W0 at *
  refine wpIn_rangeFunc_ownF rfl (by decide) (gf := 80) (lb := #[.pointer (some ⟨w2.heap.size, 0, none⟩)]) rfl trivial (enters_of Try.func80 (by kernel_rfl) rfl)
    (each_stops_nil 4 w2.heap.size W0 (Below w.heap.size) hc1 hz1) belowK_t (belowK_b HB3.out.size) (Below.refl _ _) (fun _ => rfl)
    (fun pre W => W.ownsRow w.heap.size 4 1 (.slice (some ⟨w.heap.size, 0, none⟩) 1 1) 1 [.bool false] ∧ Below w.heap.size w W)
    (fun _ _ _ => False)
    (OwnFrom.and (Own.from (fun s A C row hs hg hr => row_grown hs hg hr) _) (ownFrom_below (Nat.le_refl _) HB3.out.size))
    (fun _ _ _ _ _ hs _ _ => hs)
    ⟨R3.out, HB3.out⟩
    ?a1 ?assign ?body ?done ?stop
  case assign =>
    intro l' x W K hK
    gi_wp2
    exact hK
  case body =>
    rintro l' pre x W _ hpl
    exact absurd hpl (Nat.not_lt_zero _)
  case done =>
    rintro D' ys W hD hys ⟨hr, hB⟩ hK
    have c0 : W.cell? ⟨w.heap.size, 0, none⟩ = some (.bool false) := hr.cellAt 0 (by omega)
    have f0 := hr.frozenAt 0
    gi_wp2_with (first
      | (refine ⟨trivial, ?_⟩; gi_at_call 49; refine (callsIn_wide.2 (poKind_nil _)).mono ?_; rintro e w3 ⟨rfl, rfl⟩)
      | (refine ⟨trivial, ?_⟩; gi_at_call 50; refine (callsIn_wide.2 (poL_nil _)).mono ?_; rintro e w3 ⟨rfl, rfl⟩)
      | (refine ⟨trivial, ?_⟩; gi_at_call 51; refine (callsIn_wide.2 (poLen_nil _)).mono ?_; rintro e w3 ⟨rfl, rfl⟩)
      | (refine ⟨trivial, ?_⟩; gi_at_call 43; refine (callsIn_wide.2 (poTotal_nil _)).mono ?_; rintro e w3 ⟨rfl, rfl⟩)
      | (refine ⟨trivial, ?_⟩; gi_at_call 52; refine (callsIn_wide.2 (poGet_nil _ _ A0 A1)).mono ?_; rintro e w3 ⟨rfl, rfl⟩)
      | (refine ⟨trivial, ?_⟩; gi_at_call 53; refine (callsIn_wide.2 (poAdd_nil _ _ _)).mono ?_; rintro e w3 ⟨rfl, rfl⟩)
      | (refine ⟨trivial, ?_⟩; gi_at_call 54; refine (callsIn_wide.2 (poTake_nil _ _ A0 A1)).mono ?_; rintro e w3 ⟨rfl, rfl⟩)
      | (refine ⟨trivial, ?_⟩; gi_at_call 42; refine (callsIn_wide.2 (poSnap_nil _)).mono ?_; rintro e w3 ⟨rfl, rfl⟩)
      | (refine ⟨trivial, ?_⟩; gi_at_call 47; refine (callsIn_wide.2 (poClone_nil _)).mono ?_; rintro e w3 ⟨rfl, rfl⟩))
    refine ⟨trivial, (callsIn_wide.2 (poAlive_any _)).mono ?_⟩
    rintro e w4 ⟨rfl, hb4⟩
    have hr4 := own_below hr hb4
    have c4 : w4.cell? ⟨w.heap.size, 0, none⟩ = some (.bool false) := hr4.cellAt 0 (by omega)
    have f4 := hr4.frozenAt 0
    have hB4 := hB.trans (hb4.mono hB.size)
    have hK4 : w4.heap[D']? = some (.deferred (some [])) := (hb4.block D' (Array.getElem?_eq_some_iff.1 hK).1).trans hK
    clear hr hb4 hB hK c0 f0
    gi_wp2
    have hK' := (KeepsOthers.setCell w4 ⟨w.heap.size, 0, none⟩ (.bool true)).same D' _ hK4 rfl
    refine ⟨by simp, .inl ⟨_, _, rfl, run_takeDeferred hK', ?_⟩⟩
    have hc5 := cell_kept (World.cell?_setCell_same' w4 ⟨w.heap.size, 0, none⟩ (.bool true) (by rw [c4]; rfl)) (grownBy_putObj' _ D' (.deferred none)) (fun r e => by cases e; exact ⟨_, hK', rfl⟩)
    refine ⟨.bool true, ?_, rfl, (hB4.setCell (p := ⟨w.heap.size, 0, none⟩) (Nat.le_refl _) _).trans (belowK_b (w := W0) HB3.out.size _ D' _ _ hD hK' rfl rfl)⟩
    simp [results, Try.f13, go_sem, hc5]
  case stop =>
    rintro D' c pre W _ _ h _
    exact h.elim
theorem walk_poolNobody (kd id cc : Int) (K0 : -9223372036854775808 ≤ kd) (K1 : kd ≤ 9223372036854775807) (A0 : -9223372036854775808 ≤ id) (A1 : id ≤ 9223372036854775807) (B0 : -9223372036854775808 ≤ cc) (B1 : cc ≤ 9223372036854775807) (w : World) :
    Calls Try.prog 13 #[.int .i64 kd, .int .i64 id, .int .i64 cc] w fun e w' => e = .returned (.bool true) ∧ Below w.heap.size w w' :=
  callsIn_wide.1 (poolNobody_in kd id cc K0 K1 A0 A1 B0 B1 w)

end Go.Proofs.Ytomhikjohgiloaa
