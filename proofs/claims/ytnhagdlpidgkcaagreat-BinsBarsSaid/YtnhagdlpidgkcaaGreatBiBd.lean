/- The project's package bins: Bounds. -/
import Derived.Test.YtnhagdlpidgkcaaGreatBiSp
import Derived.Test.YtnhagdlpidgkcaaGreatBiPush
import Derived.Test.YtnhagdlpidgkcaaGreatRound
import Derived.Test.YtnhagdlpidgkcaaGreatReBt
import Derived.Test.YtnhagdlpidgkcaaGreatTiQ
namespace Go.Proofs.YtnhagdlpidgkcaaGreat
set_option linter.unusedVariables false
set_option maxRecDepth 100000
open Go.RowKit Go.Shelf
attribute [local go_sem] Oper.semAt_some
/-- what a loop's body reckons of a bin -/
def biBf (l : Int) (L : List Nd) (E : List Int) (x : Nat) : Rn := (beL l L (frE E x) (toE l E x), beH l L (frE E x) (toE l E x))
theorem biBf_is (l : Int) (L : List Nd) (E : List Int) (i : Nat) : biBf l L E i = bndW l L E i := by
  unfold biBf bndW beL beH
  split <;> rfl
theorem biBf_all (l : Int) (L : List Nd) (E : List Int) : (List.range (E.length + 1)).map (biBf l L E) = bndN l L E := by
  unfold bndN
  exact List.map_congr_left fun i _ => biBf_is l L E i
theorem frE_bd (E : List Int) (UB : Bds E) (h : ∀ x ∈ E, x < 281474976710656) (x : Nat) : -9223372036854775808 ≤ frE E x ∧ frE E x ≤ 9223372036854775807 := by
  unfold frE
  split
  · omega
  · rcases Nat.lt_or_ge (x - 1) E.length with q | q
    · have a := bds_at UB q
      have b := h _ (getD_mem q)
      omega
    · have : E.getD (x - 1) 0 = 0 := by simp [List.getD_eq_getElem?_getD, List.getElem?_eq_none q]
      omega
theorem biFr_bd {l : Int} (E : List Int) (h : EgC l E) (x : Nat) : 0 ≤ frE E x ∧ frE E x ≤ 281474976710656 := by
  unfold frE
  split
  · omega
  · rcases Nat.lt_or_ge (x - 1) E.length with q | q
    · have a := h.at q
      omega
    · have : E.getD (x - 1) 0 = 0 := by simp [List.getD_eq_getElem?_getD, List.getElem?_eq_none q]
      omega
theorem toE_bd {l : Int} {E : List Int} (UB : Bds E) (hl : 1 ≤ l ∧ l ≤ 48) (x : Nat) : -9223372036854775808 ≤ toE l E x ∧ toE l E x ≤ 9223372036854775807 := by
  unfold toE
  split
  · rename_i q; exact bds_at UB q
  · have p := two_le l.toNat 48 (by omega)
    have p0 := two_pos l.toNat
    omega
theorem eg_lt {l : Int} {E : List Int} (h : EgC l E) : ∀ x ∈ E, x < 281474976710656 := fun x hx => by
  have v := h.val x hx
  have p : (2 : Int) ^ l.toNat ≤ 281474976710656 := two_le l.toNat 48 (by have := h.uni; omega)
  omega
theorem biPair_new (w : World) (e : TypeId) (a b : Int) (g : Nat) (hg : g = w.heap.size) : ∀ (j : Nat) (u : Value), [Value.int .i64 a, Value.int .i64 b][j]? = some u → (w.alloc (.cells #[.int .i64 a, .int .i64 b] e)).cell? ((⟨g, 0, none⟩ : Addr).add j) = some u := fun j u hj => by
  subst hg
  match j, hj with
  | 0, hj => simp at hj; subst hj; simp [Addr.add]
  | 1, hj => simp at hj; subst hj; simp [Addr.add]
  | j + 2, hj => simp at hj
theorem biPair_one (a b : Int) : ∀ u ∈ [Value.int .i64 a, Value.int .i64 b], u.oneCell' = true := fun u hu => by
  rcases List.mem_cons.1 hu with q | q
  · rw [q]; rfl
  · rw [List.mem_singleton.1 q]; rfl
theorem both_info : (Tryz.prog.info? 50).map (fun i => (i.zero, i.size, i.bytes)) = some (some (.agg #[.int .i64 0, .int .i64 0]), 2, 16) := by kernel_rfl
set_option maxHeartbeats 6400000 in
theorem biBd_in {B q p g h : Nat} {kd l k : Int} {m : Nat} {L : List Nd} {A : Option Addr} {n c : Nat} {E : List Int} (w : World) (d : DgA w B q p g h kd l k m L) (hm : m ≤ 400) (hE : IntsAt w (.slice A n c) E) (UB : Bds E) (hn : n ≤ 100) (he : egB l E = true) :
    CallsIn Fence.wide 5 Tryz.prog 16 #[.pointer (some ⟨q, 0, none⟩), .slice A n c] w fun e w' => (∃ A2 n2 c2, e = .returned (.tuple #[.slice A2 n2 c2, .int .i64 0]) ∧ RunsAt w' (.slice A2 n2 c2) (bndN l L E)) ∧ Below w.heap.size w w' := by
  obtain ⟨i0, hi, hz0, hz1, hz2⟩ := info_parts both_info
  have D := Lib.hid d
  have HE := Lib.hid hE
  have HL := Lib.hid (ints_cells hE).1
  have EG := Lib.hid (eg_yes he)
  have hl := EG.out.uni
  have FB := Lib.hid (fun x => frE_bd E UB (eg_lt EG.out) x)
  have TB := Lib.hid (fun x => toE_bd (l := l) UB hl x)
  have FD : ∀ w, (Instr.field 23 (.agg #[.int .i64 l, .int .i64 k, .int .i64 kd]) 0).run Tryz.prog w = .ok (.int .i64 l) w := fun _ => by kernel_rfl
  have RF := Lib.hid (fun v (hb : Below w.heap.size w v) => biRefused_any v (d.below hb) (hE.below hb) UB (by omega))
  rw [he] at RF
  simp only [if_true] at RF
  have BT := Lib.hid (fun x v (hb : Below w.heap.size w v) => reBet_any (frE E x) (toE l E x) v (d.below hb) (by omega) (FB.out x).1 (FB.out x).2 (TB.out x).1 (TB.out x).2)
  have CF := Lib.hid (fun v (hb : Below w.heap.size w v) => dgConf_any v (d.below hb).box)
  clear d hE UB
  refine callsIn_of_wp_marks Tryz.func16 rfl trivial ?_ rfl
  simp only [Tryz.ntmps16, List.size_toArray, List.length_cons, List.length_nil, Nat.reduceAdd, Nat.reduceSub, Array.replicate_succ, Array.replicate_zero, List.push_toArray, List.append_toArray, List.nil_append, List.cons_append]
  have BX := Lib.hid (box1 w 31 (.pointer (some ⟨q, 0, none⟩)))
  have B0 := Lib.hid (below_one w (.cells #[.pointer (some ⟨q, 0, none⟩)] 31))
  have x0 : (w.alloc (.cells #[.pointer (some ⟨q, 0, none⟩)] 31)).cell? ⟨w.heap.size, 0, none⟩ = some (.pointer (some ⟨q, 0, none⟩)) := BX.out.cellAt 0 (by omega)
  gi_wp2
  generalize w.alloc (.cells #[.pointer (some ⟨q, 0, none⟩)] 31) = W1 at *
  refine ⟨trivial, (callsIn_wide.2 (RF.out _ B0.out)).mono ?_⟩
  rintro e w1 ⟨rfl, hb1⟩
  have B1 := Lib.hid (B0.out.trans (hb1.mono B0.out.size))
  have X1 := Lib.hid (own_below BX.out hb1)
  clear hb1 x0
  have x0 : w1.cell? ⟨w.heap.size, 0, none⟩ = some (.pointer (some ⟨q, 0, none⟩)) := X1.out.cellAt 0 (by omega)
  have z0 : w.heap.size < w1.heap.size := (X1.out.lt _ rfl).2
  have hb2 : Below w1.heap.size w1 (w1.alloc (.cells #[.slice none 0 0] 44)) := below_one _ _
  have BW := Lib.hid (own_low (box1 w1 44 (.slice none 0 0)) B1.out.size)
  have X2 := Lib.hid (own_below X1.out hb2)
  have B2 := Lib.hid (B1.out.trans (hb2.mono B1.out.size))
  clear hb2
  gi_wp2
  generalize w1.alloc (.cells #[.slice none 0 0] 44) = W2 at *
  refine ⟨trivial, (callsIn_wide.2 (CF.out _ B2.out)).mono ?_⟩
  rintro e w3 ⟨rfl, hb3⟩
  have B3 := Lib.hid (B2.out.trans (hb3.mono B2.out.size))
  have X3 := Lib.hid (own_below X2.out hb3)
  have W3 := Lib.hid (own_below BW.out hb3)
  clear hb3 x0
  gi_wp2
  refine ⟨trivial, (callsIn_wide.2 (biSpans_any l _)).mono ?_⟩
  rintro e w4 ⟨rfl, rfl⟩
  have ha : (w3.alloc (.cells #[.int .i64 l] 3)).heap.size = w3.heap.size + 1 := by simp
  have hb4 : Below w3.heap.size w3 ((w3.alloc (.cells #[.int .i64 l] 3)).alloc (.cells #[.slice A n c] 27)) := ((Below.refl _ _).alloc (Nat.le_refl _) _).alloc (by simp) _
  have cl : ((w3.alloc (.cells #[.int .i64 l] 3)).alloc (.cells #[.slice A n c] 27)).cell? ⟨w3.heap.size, 0, none⟩ = some (.int .i64 l) := ((box1 w3 3 (.int .i64 l)).alloc _).cellAt 0 (by omega)
  have ce : ((w3.alloc (.cells #[.int .i64 l] 3)).alloc (.cells #[.slice A n c] 27)).cell? ⟨w3.heap.size + 1, 0, none⟩ = some (.slice A n c) := by
    have r := (box1 (w3.alloc (.cells #[.int .i64 l] 3)) 27 (.slice A n c)).cellAt 0 (by omega)
    rw [ha] at r
    exact r
  have X4 := Lib.hid (own_below X3.out hb4)
  have W4 := Lib.hid (own_below W3.out hb4)
  have B4 := Lib.hid (B3.out.trans (hb4.mono B3.out.size))
  have gz : w1.heap.size < w3.heap.size := (W3.out.lt _ rfl).2
  clear hb4 ha
  gi_wp2
  generalize (w3.alloc (.cells #[.int .i64 l] 3)).alloc (.cells #[.slice A n c] 27) = W0 at *
  have cw : W0.cell? ⟨w1.heap.size, 0, none⟩ = some (.slice none 0 0) := W4.out.cellAt 0 (by omega)
  have SR : SpR (FrP w1.heap.size 0) W0 (w3.heap.size + 1) w3.heap.size A n c E l := by
    refine ⟨ce, cl, HE.out.below B4.out, frP_of ce (by omega) cw, frP_of cl (by omega) cw, fun b o e hn => ?_⟩
    obtain ⟨b', o', e', hlt, hc⟩ := biInts_at HE.out hn
    rw [e] at e'
    injection e' with e'
    injection e' with e1 e2
    subst e1 e2
    have hc2 : W0.cell? ⟨b, o + 0, none⟩ = some _ := (B4.out.cell (p := ⟨b, o + 0, none⟩) hlt).trans hc
    exact frP_of hc2 (by omega) cw
  refine wpIn_rangeFunc_ownF rfl (by decide) (gf := 63) (lb := #[.pointer (some ⟨w3.heap.size + 1, 0, none⟩), .pointer (some ⟨w3.heap.size, 0, none⟩)]) rfl trivial (enters_of Tryz.func63 (by kernel_rfl) rfl)
    (spans_stops 4 (w3.heap.size + 1) w3.heap.size (by omega) EG.out (FrP w1.heap.size 0) (frP _ _) W0 SR) kpF_t (fun W l' o o' _ hl ho _ => kpF_b (frP _ _) W l' o o' hl ho) (Below.refl _ _) (fun _ => rfl)
    (fun pre W => (∃ v, W.ownsRow w.heap.size 44 1 (.slice (some ⟨w1.heap.size, 0, none⟩) 1 1) 1 [v] ∧ W.ownsRow w.heap.size 50 2 v pre.length (pairs (pre.map (biBf l L E))) ∧ W.ownsRow w.heap.size 31 1 (.slice (some ⟨w.heap.size, 0, none⟩) 1 1) 1 [.pointer (some ⟨q, 0, none⟩)]) ∧ Below w.heap.size w W)
    (fun _ _ _ => False)
    (OwnFrom.and (Own.from (fun s A C row ⟨v, r1, r2, r3⟩ hg hr => ⟨v, row_grown r1 hg hr, row_grown r2 hg hr, row_grown r3 hg hr⟩) _) (ownFrom_below (Nat.le_refl _) B4.out.size))
    (fun _ _ _ _ _ hs _ _ => hs)
    ⟨⟨_, W4.out, ownP_nil _ _ _, X4.out⟩, B4.out⟩
    ?a1 ?assign ?body ?done ?stop
  case assign =>
    intro l' x W K hK
    gi_wp2
    exact hK
  case body =>
    rintro l' pre x W ⟨⟨v, hr, ho, hd⟩, hB⟩ hpl
    have HR := Lib.hid hr
    have HO := Lib.hid ho
    have HD := Lib.hid hd
    have HB := Lib.hid hB
    have c0 : W.cell? ⟨w1.heap.size, 0, none⟩ = some v := hr.cellAt 0 (by omega)
    have d0 : W.cell? ⟨w.heap.size, 0, none⟩ = some (.pointer (some ⟨q, 0, none⟩)) := hd.cellAt 0 (by omega)
    have z1 := (hr.lt _ rfl).2
    have z2 := (hd.lt _ rfl).2
    have BX1 := Lib.hid (BT.out x W hB)
    clear hr ho hd hB
    gi_wp2
    refine ⟨trivial, (CallsIn.inRound l' (callsIn_wide.2 BX1.out)).mono ?_⟩
    rintro e W5 ⟨rfl, hb5⟩
    have R5 := Lib.hid (own_below HR.out hb5)
    have O5 := Lib.hid (own_below HO.out hb5)
    have B5 := Lib.hid (HB.out.trans (hb5.mono HB.out.size))
    have H5 := Lib.hid hb5
    have c5 : W5.cell? ⟨w1.heap.size, 0, none⟩ = some v := (hb5.cell (p := ⟨w1.heap.size, 0, none⟩) z1).trans c0
    have z5 := Nat.lt_of_lt_of_le z1 hb5.size
    clear hb5 c0 d0
    have PQ : Hid (pairs ((pre ++ [x]).map (biBf l L E)) = pairs (pre.map (biBf l L E)) ++ [.int .i64 (beL l L (frE E x) (toE l E x)), .int .i64 (beH l L (frE E x) (toE l E x))]) := by show _ = _; rw [List.map_append, pairs_app]; rfl
    have pl : pre.length ≤ 1000 := by have := HL.out; omega
    generalize beL l L (frE E x) (toE l E x) = lo at *
    generalize beH l L (frE E x) (toE l E x) = hi' at *
    obtain ⟨Av, mv, cv, rfl⟩ := own_slice HO.out
    have zw := B5.out.size
    gi_wp2_with (gi_at_builtin; refine pushR_in rfl _ _ 44 rfl w.heap.size 50 i0 _ 2 16 Tryz.underlying44 hi hz0 hz1 hz2 rfl (by decide) (.slice Av mv cv) pre.length (pairs (pre.map (biBf l L E))) rfl ((O5.out.alloc (.cells #[.int .i64 lo, .int .i64 hi'] 50)).alloc (.cells #[.int .i64 lo, .int .i64 hi'] 50)) ⟨W5.heap.size + 1, 0, none⟩ 1 1 [.int .i64 lo, .int .i64 hi'] rfl rfl (biPair_new _ _ lo hi' _ (by simp)) (biPair_one lo hi') (by omega) (by unfold maxLen; omega) (by omega) (by simp; omega) (W5.heap.size + 1 + 1) (by simp) ?_)
    intro g cap w6 hown hg hat _
    obtain ⟨c6, f6, l6, hk6, PU⟩ := biPush (k := 1) (o := .cells #[.int .i64 lo, .int .i64 hi'] 50) (by decide) HR.out HO.out HB.out (Nat.le_refl _) (H5.out.alloc H5.out.size (.cells #[.int .i64 lo, .int .i64 hi'] 50)) hown hg (by rw [World.size_alloc]; exact hat)
    have P6 := Lib.hid PU
    have D6 := Lib.hid (PU.box HO.out HD.out (by decide) (by omega))
    obtain ⟨v7, t7, r7⟩ := PU.top
    have T7 := Lib.hid t7
    have R7 := Lib.hid r7
    clear hown hg hat PU hk6 c5 t7 r7
    gi_wp2
    exact ⟨P6.out.others, P6.out.kept, ⟨v7, T7.out, by rw [List.length_append, PQ.out]; exact R7.out, D6.out⟩, P6.out.below⟩
  case done =>
    rintro D' ys W hD hys ⟨⟨v, hr, ho, hd⟩, hB⟩ hK
    subst hys
    rw [List.length_range, biBf_all, ← bnd_len l L E] at ho
    obtain ⟨A', m', c', rfl⟩ := own_slice ho
    have c0 : W.cell? ⟨w1.heap.size, 0, none⟩ = some (.slice A' m' c') := hr.cellAt 0 (by omega)
    have RN := Lib.hid (ownP_runs (row_grown ho (grownBy_putObj' W D' (.deferred none)) (fun r e => by cases e; exact ⟨_, hK, rfl⟩)))
    have BN := Lib.hid (hB.trans (belowK_b (w := W0) B4.out.size W D' _ (.deferred none) hD hK rfl rfl))
    clear hr ho hd hB
    gi_wp2
    refine ⟨by simp, .inl ⟨_, _, rfl, run_takeDeferred hK, ?_⟩⟩
    exact ⟨.tuple #[.slice A' m' c', .int .i64 0], by simp [results, Tryz.f16, go_sem], ⟨_, _, _, rfl, RN.out⟩, BN.out⟩
  case stop =>
    rintro D' c pre W _ _ h _
    exact h.elim
theorem biBd_nil {A : Option Addr} {n c : Nat} (w : World) : Calls Tryz.prog 16 #[.pointer none, .slice A n c] w fun e w' => (∃ A c, e = .returned (.tuple #[.slice A 0 c, .int .i64 1])) ∧ Below w.heap.size w w' := by
  have B0 := Lib.hid (below_one w (.cells #[.pointer none] 31))
  have x0 : (w.alloc (.cells #[.pointer none] 31)).cell? ⟨w.heap.size, 0, none⟩ = some (.pointer none) := (box1 w 31 (.pointer none)).cellAt 0 (by omega)
  refine (callsIn_wide (n := 5)).1 (callsIn_of_wp_marks Tryz.func16 rfl trivial ?_ rfl)
  simp only [Tryz.ntmps16, List.size_toArray, List.length_cons, List.length_nil, Nat.reduceAdd, Nat.reduceSub, Array.replicate_succ, Array.replicate_zero, List.push_toArray, List.append_toArray, List.nil_append, List.cons_append]
  gi_wp2
  refine ⟨trivial, (callsIn_wide.2 (biRefused_nil _ _)).mono ?_⟩
  rintro e w1 ⟨rfl, hb1⟩
  gi_wp2
  exact ⟨.tuple #[.slice none 0 0, .int .i64 1], by simp [results, Tryz.f16, go_sem], ⟨_, _, rfl⟩, B0.out.trans (hb1.mono B0.out.size)⟩
theorem biBd_no {B q p g h : Nat} {kd l k : Int} {m : Nat} {L : List Nd} {A : Option Addr} {n c : Nat} {E : List Int} (w : World) (d : DgA w B q p g h kd l k m L) (hm : m ≤ 400) (hE : IntsAt w (.slice A n c) E) (UB : Bds E) (hn : n ≤ 100) (he : egB l E = false) :
    Calls Tryz.prog 16 #[.pointer (some ⟨q, 0, none⟩), .slice A n c] w fun e w' => (∃ A c, e = .returned (.tuple #[.slice A 0 c, .int .i64 8])) ∧ Below w.heap.size w w' := by
  have B0 := Lib.hid (below_one w (.cells #[.pointer (some ⟨q, 0, none⟩)] 31))
  have RF := Lib.hid (biRefused_any _ (d.below B0.out) (hE.below B0.out) UB (by omega))
  rw [he] at RF
  simp only [Bool.false_eq_true, if_false] at RF
  have x0 : (w.alloc (.cells #[.pointer (some ⟨q, 0, none⟩)] 31)).cell? ⟨w.heap.size, 0, none⟩ = some (.pointer (some ⟨q, 0, none⟩)) := (box1 w 31 (.pointer (some ⟨q, 0, none⟩))).cellAt 0 (by omega)
  clear d hE UB
  refine (callsIn_wide (n := 5)).1 (callsIn_of_wp_marks Tryz.func16 rfl trivial ?_ rfl)
  simp only [Tryz.ntmps16, List.size_toArray, List.length_cons, List.length_nil, Nat.reduceAdd, Nat.reduceSub, Array.replicate_succ, Array.replicate_zero, List.push_toArray, List.append_toArray, List.nil_append, List.cons_append]
  gi_wp2
  refine ⟨trivial, (callsIn_wide.2 RF.out).mono ?_⟩
  rintro e w1 ⟨rfl, hb1⟩
  gi_wp2
  exact ⟨.tuple #[.slice none 0 0, .int .i64 8], by simp [results, Tryz.f16, go_sem], ⟨_, _, rfl⟩, B0.out.trans (hb1.mono B0.out.size)⟩
theorem biB : BiB := ⟨fun w h u => biBd_nil w, fun w d hm h u hn he => biBd_no w d hm h u hn he, fun w d hm h u hn he => callsIn_wide.1 (biBd_in w d hm h u hn he)⟩
end Go.Proofs.YtnhagdlpidgkcaaGreat
