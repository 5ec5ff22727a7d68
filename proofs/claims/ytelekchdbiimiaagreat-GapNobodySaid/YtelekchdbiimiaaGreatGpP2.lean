/- The project's package gap: the ends of a digest's nodes; changes: the ends of both in order, each once, gone over by a closure. -/
import Derived.Test.YtelekchdbiimiaaGreatGpP1
import Derived.Test.YtelekchdbiimiaaGreatFrF
import Derived.Test.YtelekchdbiimiaaGreatSortI
import Derived.Test.YtelekchdbiimiaaGreatComp
import Derived.Sort.OwnSortedInts
import Derived.Deep.RegionHeld3
import Derived.Deep.AppendLies
namespace Go.Proofs.YtelekchdbiimiaaGreat
set_option linter.unusedVariables false
set_option maxRecDepth 100000
open Go.RowKit Go.Sort Go.Shelf
attribute [local go_sem] Oper.semAt_some
/-- an element of a row -/
def gpEl (C : List Int) (x : Nat) : Int := C.getD x 0
theorem gpI2 {e : TypeId} {w : World} {B : Nat} {v : Value} {T : List Int} {x y : Int} {n : Nat} (hn : n = T.length) (h : w.ownsRow B e 1 v (n + 2) (ints T ++ [.int .i64 x, .int .i64 y])) : OwnI e w B v (T ++ [x, y]) := by
  subst hn
  unfold OwnI
  rw [ints_app, List.length_append]
  exact h
theorem gpI_app {e : TypeId} {w : World} {B : Nat} {v : Value} {T U : List Int} {n m : Nat} (hn : n = T.length) (hm : m = U.length) (h : w.ownsRow B e 1 v (n + m) (ints T ++ ints U)) : OwnI e w B v (T ++ U) := by
  subst hn hm
  unfold OwnI
  rw [ints_app, List.length_append]
  exact h
theorem gpEnds_take (l : Int) {L : List Nd} {j : Nat} (h : j < L.length) : endsN l (L.take (j + 1)) = endsN l (L.take j) ++ [loN l (L.getD j nz).1, hiN l (L.getD j nz).1] := by
  rw [nd_take h, gpEnds_app]; rfl
theorem gpNewI {w : World} {g c : Nat} {T : List Int} (h : IntsAt w (.slice (some ⟨g, 0, none⟩) T.length c) T) : ∀ j u, (ints T)[j]? = some u → w.cell? ((⟨g, 0, none⟩ : Addr).add j) = some u := fun j u hj => by
  have lt : j < T.length := by
    have := (List.getElem?_eq_some_iff.1 hj).1
    simpa [ints] using this
  obtain ⟨b, o, e, _, hk⟩ := (ints_cells h).2 (by omega)
  injection e with e
  injection e with e1 e2
  subst e1 e2
  have q := hk j lt
  rw [Nat.zero_add] at q
  have eu : u = .int .i64 (T.getD j 0) := by
    simp [ints, lt] at hj
    rw [← hj]
    simp [List.getD_eq_getElem?_getD, lt]
  rw [eu]
  have ea : (⟨g, 0, none⟩ : Addr).add j = ⟨g, j, none⟩ := by cases j <;> simp [Addr.add]
  rw [ea]
  exact q
theorem gpForm {e : TypeId} {w : World} {B : Nat} {v : Value} {T : List Int} (h : OwnI e w B v T) (hT : 0 < T.length) : ∃ g c, v = .slice (some ⟨g, 0, none⟩) T.length c ∧ OwnI e w B (.slice (some ⟨g, 0, none⟩) T.length c) T ∧ B ≤ g ∧ g < w.heap.size ∧ ∃ o : Obj, w.heap[g]? = some o ∧ o.isCells = true := by
  rcases ownI_form h with ⟨_, z⟩ | ⟨g, c, rfl, hb, hg, _, _⟩
  · rw [z] at hT; simp at hT
  · refine ⟨g, c, rfl, h, hb, hg, ?_⟩
    rcases h.2 with ⟨hv, _⟩ | ⟨g', cap', cur, hv, _, hgg, _⟩
    · cases hv
    · injection hv with e1
      injection e1 with e1
      injection e1 with e1
      subst e1
      exact ⟨_, hgg, rfl⟩
theorem gpInts_blk {w w' : World} {g c n : Nat} {T : List Int} (h : IntsAt w (.slice (some ⟨g, 0, none⟩) n c) T) (hs : w.heap.size ≤ w'.heap.size) (hb : w'.heap[g]? = w.heap[g]?) : IntsAt w' (.slice (some ⟨g, 0, none⟩) n c) T := by
  obtain ⟨A', c', ev, hc⟩ := h
  injection ev with e1 e2 e3
  subst e1 e2 e3
  refine ⟨_, c, rfl, fun h0 => ?_⟩
  obtain ⟨b, o, e, hlt, hk⟩ := hc h0
  injection e with e
  injection e with e1 e2
  subst e1 e2
  exact ⟨g, 0, rfl, Nat.lt_of_lt_of_le hlt hs, fun j hj => (World.cell?_of_block (a := ⟨g, 0 + j, none⟩) hb).trans (hk j hj)⟩
theorem gpInts_cell {w : World} {g c n k : Nat} {T : List Int} (h : IntsAt w (.slice (some ⟨g, 0, none⟩) n c) T) (hk : k < T.length) : w.cell? ⟨g, k, none⟩ = some (.int .i64 (T.getD k 0)) ∧ g < w.heap.size := by
  obtain ⟨b, o, e, hlt, hc⟩ := (ints_cells h).2 (by omega)
  injection e with e
  injection e with e1 e2
  subst e1 e2
  have q := hc k hk
  rw [Nat.zero_add] at q
  exact ⟨q, hlt⟩
theorem gpOneI (T : List Int) : ∀ u ∈ ints T, u.oneCell' = true := fun u hu => by
  unfold ints at hu
  obtain ⟨x, _, rfl⟩ := List.mem_map.1 hu
  rfl
theorem gpInt_info : (Tryz.prog.info? 3).map (fun i => (i.zero, i.size, i.bytes)) = some (some (.int .i64 0), 1, 8) := by kernel_rfl
theorem gpSort_any {e : TypeId} {B : Nat} {v : Value} {T : List Int} (w : World) (o : OwnI e w B v T) (hT : 0 < T.length) (hl : T.length ≤ 1000000) :
    Calls Tryz.prog 65 #[v] w fun e' w' => e' = .returned (.tuple #[]) ∧ OwnI e w' B v (T.mergeSort fun x y => decide (x ≤ y)) ∧ Kp (fun i => v.ownBlock = some i) w w' := by
  obtain ⟨hsz, ⟨rfl, h0⟩ | ⟨g, cap, cur, rfl, hB, hb, hn, hc, hcs, ht⟩⟩ := o
  · simp at h0; subst h0; simp at hT
  have hg : g < w.heap.size := (Array.getElem?_eq_some_iff.1 hb).1
  have ht' : cur.toList.take T.length = T.map (Value.int .i64) := by rw [Nat.mul_one] at ht; exact ht
  have H := holds_of_blockI hb ht'
  have S := Any.slices_Sort_int Tryz.laysSort g 0 cap T w H hg (by omega)
  refine S.mono ?_
  rintro e' w' ⟨rfl, n, os, rfl⟩
  have O := ownsRow_sortedI (base := B) (n := n) (os := os) (ts := T.mergeSort fun x y => decide (x ≤ y)) (ss := T) (by rw [List.length_mergeSort]) hB hb hn hc hcs
  refine ⟨rfl, ?_, (Kp.grown (grownBy_sortedI _)).mono fun i _ q => q.symm⟩
  unfold OwnI ints
  rw [List.length_mergeSort]
  exact O
/-- runs of alike elements are made one each, in the row itself -/
theorem gpComp_any {B n c : Nat} {A : Option Addr} {T : List Int} (w : World) (o : OwnI 3 w B (.slice A n c) T) (hT : 0 < T.length) (hl : T.length ≤ 1000000) :
    Calls Tryz.prog 66 #[.slice A n c] w fun e w' => (∃ v2, e = .returned v2 ∧ OwnI 3 w' B v2 (Lib.compact T)) ∧ Below B w w' := by
  obtain ⟨hsz, ⟨hv, h0⟩ | ⟨g, cap, cur, hv, hB, hb, hn, hc, hcs, ht⟩⟩ := o
  · omega
  · cases hv
    have hg : g < w.heap.size := (Array.getElem?_eq_some_iff.1 hb).1
    have ht' : cur.toList.take T.length = T.map (Value.int .i64) := by rw [Nat.mul_one] at ht; exact ht
    have H := holds_of_blockI hb ht'
    refine (Any.slices_Compact_int Tryz.laysComp g 0 c T w H (by omega) hn).mono ?_
    rintro e' w' ⟨rfl, q, rfl⟩
    have cl : (Lib.compact T).length ≤ T.length := by
      unfold Lib.compact Lib.compactUpTo
      rw [List.length_map]
      exact Nat.le_trans (List.length_filter_le _ _) (by simp)
    have O := ownsRow_sortedI (base := B) (n := q) (os := #[]) (ts := Lib.compact T ++ List.replicate (T.length - (Lib.compact T).length) 0) (ss := T) (by rw [List.length_append, List.length_replicate]; omega) hB hb hn hc hcs
    have G := grownBy_sortedI (w := w) (g := g) (n := q) (os := #[]) (Lib.compact T ++ List.replicate (T.length - (Lib.compact T).length) 0).toArray
    have gz : ∀ W : World, grow W #[] = W := fun W => by simp [grow]
    rw [gz] at O G
    generalize putRow (Value.int .i64) (Sort.ahead w q) g 0 (Lib.compact T ++ List.replicate (T.length - (Lib.compact T).length) 0).toArray = w2 at *
    have O2 : OwnI 3 w2 B (.slice (some ⟨g, 0, none⟩) (Lib.compact T ++ List.replicate (T.length - (Lib.compact T).length) 0).length c) (Lib.compact T ++ List.replicate (T.length - (Lib.compact T).length) 0) := by
      have e : (Lib.compact T ++ List.replicate (T.length - (Lib.compact T).length) (0 : Int)).length = T.length := by rw [List.length_append, List.length_replicate]; omega
      unfold OwnI ints
      rw [e]
      exact O
    exact ⟨⟨_, rfl, ownI_cut O2⟩, below_grown (v := .slice (some ⟨g, 0, none⟩) T.length c) G (fun g' e => by simp [Value.ownBlock] at e; omega) (by omega)⟩
set_option maxHeartbeats 6400000 in
theorem gpEnds_any {B q p g h : Nat} {kd l k : Int} {n : Nat} {L : List Nd} (w : World) (d : DgA w B q p g h kd l k n L) (hn : n ≤ 400) :
    Calls Tryz.prog 64 #[.pointer (some ⟨q, 0, none⟩)] w fun e w' => (∃ v, e = .returned v ∧ OwnI 3 w' w.heap.size v (endsN l L)) ∧ Below w.heap.size w w' := by
  obtain ⟨i0, hi, hz0, hz1, hz2⟩ := info_parts gpInt_info
  have u := d.po.uni
  have CF := Lib.hid (dgConf_any w d.box)
  have ND := Lib.hid (fun v (hb : Below w.heap.size w v) => dgNodes_any v (d.below hb).box (d.below hb).po (by omega))
  have LN := Lib.hid (show L.length ≤ 400 by have := d.po.len; omega)
  have NB := Lib.hid (nbds_roll d.v.roll)
  have FD : ∀ w, (Instr.field 23 (.agg #[.int .i64 l, .int .i64 k, .int .i64 kd]) 0).run Tryz.prog w = .ok (.int .i64 l) w := fun _ => by kernel_rfl
  clear d
  go_enter Tryz.func64, Tryz.ntmps64
  go_wp2_with fail
  refine CF.out.mono ?_
  rintro e w1 ⟨rfl, hb1⟩
  have B1 := Lib.hid hb1
  have S1 := Lib.hid hb1.size
  clear hb1 CF
  go_wp2_with fail
  refine (ND.out _ B1.out).mono ?_
  rintro e w2 ⟨A1, n1, c1, rfl, ho1, hb2⟩
  have HL := Lib.hid (nodes_cells (ownNd_nodes ho1)).1
  have n1b : n1 ≤ 400 := by have := HL.out; have := LN.out; omega
  have O2 := Lib.hid ho1
  have B2 := Lib.hid (B1.out.trans (hb2.mono S1.out))
  have S2 := Lib.hid B2.out.size
  clear ho1 hb2 ND
  go_wp2_with fail
  go_loopw [3, 16] (fun v i wr => ∃ j : Nat, j ≤ n1 ∧ i = .int .i64 j ∧ OwnI 3 wr w2.heap.size v (endsN l (L.take j)) ∧ Below w2.heap.size w2 wr) (fun _ i _ => n1 - (intOf i).toNat)
  case atStart => exact ⟨0, by omega, rfl, ownI_nil .., Below.refl _ _⟩
  case round =>
    obtain ⟨j, hj, rfl, hv, hb⟩ := hrel
    have VV := Lib.hid hv
    have HB := Lib.hid hb
    have OO := Lib.hid (own_below O2.out hb)
    have SW := Lib.hid hb.size
    clear hv hb
    by_cases hlt : j < n1
    · have hjl : j < L.length := by have := HL.out; omega
      rcases ownNd_form OO.out with ⟨_, z⟩ | ⟨g2, cap, hv, _, hgw, _, _, hin⟩
      · rw [z] at hjl; simp at hjl
      · injection hv with hv1 hv2 hv3
        subst hv1
        obtain ⟨e0, e1⟩ := hin.2 j hjl
        simp only [Nat.zero_add] at e0 e1
        have nb := nbds_at NB.out hjl
        have ET := Lib.hid (gpEnds_take l hjl)
        have PL : (endsN l (L.take j)).length ≤ 800 := by rw [gpEnds_len, List.length_take]; omega
        generalize (L.getD j nz).1 = id at *
        generalize (L.getD j nz).2 = ct at *
        obtain ⟨P2, hP2⟩ : ∃ P2, P2 = endsN l (L.take (j + 1)) := ⟨_, rfl⟩
        rw [← hP2] at ET
        have HP2 := Lib.hid hP2
        clear hP2
        generalize endsN l (L.take j) = P at *
        have k0' : (0 : Int) ≤ (j : Int) := Int.natCast_nonneg _
        have k1' : (j : Int) < (n1 : Int) := by omega
        have EN := Lib.hid (fun w => ends_any l id w (by omega) (by omega) nb.1.1 nb.1.2)
        generalize loN l id = lo at *
        generalize hiN l id = up at *
        have sw := SW.out
        obtain ⟨Av, mv, cv, rfl⟩ := own_slice VV.out
        clear hv2 hv3 hin
        go_wp2_with fail
        refine (EN.out _).mono ?_
        rintro e w3 ⟨rfl, rfl⟩
        go_wp2_with (at_builtin; refine wpList_append_own _ rfl _ _ 91 rfl w2.heap.size 3 i0 (.int .i64 0) 1 8 Tryz.underlying91 hi hz0 hz1 hz2 rfl (by decide) _ P.length (ints P) rfl (World.ownsRow.alloc (World.ownsRow.alloc VV.out (.cells #[.int .i64 id, .int .i64 ct] 77)) (.cells #[.int .i64 lo, .int .i64 up] 3)) ⟨wr.heap.size + 1, 0, none⟩ 2 2 [.int .i64 lo, .int .i64 up] rfl rfl (two_new _ _ _ _ _ (by simp)) (two_cell _ _) (by unfold maxLen; omega) (by omega) (by simp; omega) ?_)
        intro v' w6 hown hgrow hnil
        have B6 := Lib.hid (((HB.out.alloc sw (.cells #[.int .i64 id, .int .i64 ct] 77)).alloc (by simp; omega) (.cells #[.int .i64 lo, .int .i64 up] 3)).grown hgrow (by simp; omega) (fun g hg => (World.ownsRow.lt VV.out g hg).1))
        have O6 := Lib.hid (gpI2 rfl hown)
        rw [← ET.out] at O6
        clear hown hgrow hnil
        go_wp2_with fail
        go_roundw
        case rel => exact ⟨j + 1, by omega, by go_num, by rw [← HP2.out]; exact O6.out, B6.out⟩
        case measure => simp [intOf]; omega
    · obtain rfl : j = n1 := by omega
      have hd : j = L.length := HL.out
      have v2 := VV.out
      rw [hd, List.take_length] at v2
      have V2 := Lib.hid v2
      have BE := Lib.hid (B2.out.trans (HB.out.mono S2.out))
      have VE := Lib.hid (own_low V2.out S2.out)
      clear hd VV V2 v2
      obtain ⟨Av, mv, cv, rfl⟩ := own_slice VE.out
      go_wp2_with fail
      go_ret
      exact ⟨⟨_, rfl, VE.out⟩, BE.out⟩
theorem gpChanges_any (p q : Option Addr) (w : World) : Calls Tryz.prog 31 #[.pointer p, .pointer q] w fun e w' =>
    e = .returned (.func (.func 63) #[] #[.pointer (some ⟨w.heap.size, 0, none⟩), .pointer (some ⟨w.heap.size + 1, 0, none⟩)]) ∧ w' = (w.alloc (.cells #[.pointer p] 27)).alloc (.cells #[.pointer q] 27) := by
  have mf : ∀ (fn : Fn) (first cap : Array Value) (w : World), (Instr.makeFunc fn first cap).run Tryz.prog w = .ok (.func fn first cap) w := fun _ _ _ _ => rfl
  go_enter Tryz.func31, Tryz.ntmps31
  go_wp2_with fail
  go_ret
  exact ⟨rfl, rfl⟩
/-- the row of all ends, put in order, each once -/
theorem gpRow_len {l : Int} {L M : List Nd} (hL : 0 < L.length) : 0 < (endsN l L ++ endsN l M).length := by rw [List.length_append, gpEnds_len]; omega
theorem gpHeld2 {W a b : World} {p q : Nat} {x y : Value} (h : a.cell? ⟨p, 0, none⟩ = some x ∧ a.cell? ⟨q, 0, none⟩ = some y) (hb : Below W.heap.size a b) (hp : p < W.heap.size) (hq : q < W.heap.size) : b.cell? ⟨p, 0, none⟩ = some x ∧ b.cell? ⟨q, 0, none⟩ = some y :=
  ⟨(hb.cell (p := ⟨p, 0, none⟩) hp).trans h.1, (hb.cell (p := ⟨q, 0, none⟩) hq).trans h.2⟩
set_option maxHeartbeats 6400000 in
/-- the closure goes over the ends -/
theorem gpChanges1_in (n lp ba bb : Nat) {B1 q1 p1 g1 h1 B2 q2 p2 g2 h2 : Nat} {kd1 l k1 kd2 k2 : Int} {n1 n2 : Nat} {L M : List Nd} (hn1 : n1 ≤ 400) (hn2 : n2 ≤ 400) (hL : 0 < L.length) (hM : 0 < M.length) (Fr : World → Nat → Prop) (FR : Frm Fr) (J Jx : List Nat → World → Prop)
    (hY : ∀ pre x W, J pre W → pre.length < (gpC l L M).length → YieldAt Fence.wide (n - 1) Tryz.prog lp #[.int .i64 (gpEl (gpC l L M) x)] W fun e W' =>
      (e = .returned (.bool true) ∧ J (pre ++ [x]) W' ∧ KpF Fr W W') ∨ (e = .returned (.bool false) ∧ Jx (pre ++ [x]) W'))
    (hJ : ∀ pre W W', J pre W → Below W.heap.size W W' → J pre W')
    (W : World) (ca : W.cell? ⟨ba, 0, none⟩ = some (.pointer (some ⟨q1, 0, none⟩))) (cb : W.cell? ⟨bb, 0, none⟩ = some (.pointer (some ⟨q2, 0, none⟩))) (za : ba < W.heap.size) (zb : bb < W.heap.size)
    (d1 : DgA W B1 q1 p1 g1 h1 kd1 l k1 n1 L) (d2 : DgA W B2 q2 p2 g2 h2 kd2 l k2 n2 M)
    (hN : ∀ W2 k, Below W.heap.size W W2 → W.heap.size ≤ k → (∃ o : Obj, W2.heap[k]? = some o ∧ o.isCells = true) → Fr W2 k) (h0 : J [] W) :
    CallsIn Fence.wide n Tryz.prog 63 #[.func (.yield lp) #[] #[], .pointer (some ⟨ba, 0, none⟩), .pointer (some ⟨bb, 0, none⟩)] W fun e W' => (∃ v, e = .returned v) ∧
      ((∃ ys, ys = List.range (gpC l L M).length ∧ J ys W') ∨ (∃ pre, pre <+: List.range (gpC l L M).length ∧ Jx pre W')) := by
  obtain ⟨i0, hi, hz0, hz1, hz2⟩ := info_parts gpInt_info
  have E1 := Lib.hid (fun v (hb : Below W.heap.size W v) => gpEnds_any v (d1.below hb) hn1)
  have E2 := Lib.hid (fun v (hb : Below W.heap.size W v) => gpEnds_any v (d2.below hb) hn2)
  have LL : L.length ≤ 400 := by have := d1.po.len; omega
  have LM : M.length ≤ 400 := by have := d2.po.len; omega
  have bl : (endsN l L).length ≤ 800 := by rw [gpEnds_len]; omega
  have bm : 0 < (endsN l M).length ∧ (endsN l M).length ≤ 800 := by rw [gpEnds_len]; omega
  have HN := Lib.hid hN
  have HJ := Lib.hid hJ
  have HY := Lib.hid hY
  have J0 := Lib.hid h0
  have hw0 := below_drew W
  clear d1 d2 hN hJ hY h0
  have HC : 0 < (gpC l L M).length := by
    obtain ⟨n0, hn0⟩ := List.exists_mem_of_length_pos hL
    exact List.length_pos_of_mem (((gpC_is l L M).2 _).2 (ends_mem (l := l) (n := n0) (L := L ++ M) (by simp [hn0])).1)
  have HC2 : (gpC l L M).length ≤ 2000 := by have := gpC_len l L M; omega
  have CE : Hid (Lib.compact ((endsN l L ++ endsN l M).mergeSort fun x y => decide (x ≤ y)) = gpC l L M) := rfl
  generalize gpC l L M = C at *
  refine callsIn_of_wp Tryz.func63 rfl trivial ?_ rfl
  simp only [Tryz.ntmps63, List.size_toArray, List.length_cons, List.length_nil, Nat.reduceAdd, Nat.reduceSub, Array.replicate_succ, Array.replicate_zero, List.push_toArray, List.append_toArray, List.nil_append, List.cons_append]
  gi_wp2
  refine wpIn_wide.2 ?_
  go_region_held3 (fun w' => w'.cell? ⟨ba, 0, none⟩ = some (.pointer (some ⟨q1, 0, none⟩)) ∧ w'.cell? ⟨bb, 0, none⟩ = some (.pointer (some ⟨q2, 0, none⟩)))
    (first | assumption | (with_reducible exact K3) | (with_reducible exact K2) | (with_reducible exact K1) | (exact ⟨ca, cb⟩))
    (first
      | (go_at_call 64; (with_reducible refine (E2.out _ H1).mono ?_); rintro e v2 ⟨⟨s2, rfl, ho2⟩, hb2⟩; have H2 := H1.trans (hb2.mono H1.size); have K2 := gpHeld2 ⟨ca, cb⟩ H2 za zb; have O1 := Lib.hid (own_below ho1 hb2); obtain ⟨g3, c3, rfl, ho3, _, _, _⟩ := gpForm ho2 (by omega))
      | (go_at_call 64; (with_reducible refine (E1.out _ hw0).mono ?_); rintro e v1 ⟨⟨s1, rfl, ho1⟩, hb1⟩; have H1 := hw0.trans (hb1.mono hw0.size); have K1 := gpHeld2 ⟨ca, cb⟩ H1 za zb; obtain ⟨A1, m1, c1, rfl⟩ := own_slice ho1)
      | (refine step_append_lies _ (by rfl) _ _ _ (by rfl) W.drew.heap.size 3 i0 _ 1 8 Tryz.underlying91 hi hz0 hz1 hz2 rfl (by omega) (.slice A1 m1 c1) (endsN l L).length (ints (endsN l L)) (by rfl) (by exact O1.out) ⟨g3, 0, none⟩ (endsN l M).length c3 (ints (endsN l M)) (by rfl) (by simp [ints]) (gpNewI (ownI_ints ho3)) (gpOneI _) (by omega) (by unfold maxLen; omega) (by omega) (by exact H2.size) v2.heap.size rfl ?_; intro gg cap w6 hown hg hat hlt; have K3 := gpHeld2 K2 (below_grown (B := W.heap.size) hg (fun g hg => (World.ownsRow.lt O1.out g hg).1) H2.size) za zb))
  have hg6 : Below W.heap.size W w6 := H2.trans (below_grown (B := W.heap.size) hg (fun g hg => (World.ownsRow.lt O1.out g hg).1) H2.size)
  have O6 : OwnI 3 w6 W.heap.size (.slice (some ⟨gg, 0, none⟩) ((endsN l L).length + (endsN l M).length) cap) (endsN l L ++ endsN l M) := gpI_app rfl rfl hown
  have H6 := Lib.hid hg6
  have ST := Lib.hid (gpSort_any w6 O6 (gpRow_len hL) (by rw [List.length_append]; omega))
  have SO := Lib.hid (fun g e => (World.ownsRow.lt O6 g e).1)
  clear hown hg hat hlt H1 H2 O1 hb1 hb2 ho1 ho2 ho3 E1 E2 hg6 O6 hw0
  gi_wp2
  refine ⟨trivial, fun hq => (by cases hq), (callsIn_wide.2 ST.out).mono ?_⟩
  rintro e w7 ⟨rfl, ho7, hk7⟩
  have H7 := Lib.hid (H6.out.trans (hk7.below (fun i _ q => SO.out i q) H6.out.size))
  have CP := Lib.hid (gpComp_any w7 ho7 (by rw [List.length_mergeSort]; exact gpRow_len hL) (by rw [List.length_mergeSort, List.length_append]; omega))
  clear ho7 hk7 ST
  gi_wp2
  refine ⟨trivial, fun hq => (by cases hq), (callsIn_wide.2 CP.out).mono ?_⟩
  rintro e w8 ⟨⟨s8, rfl, ho8⟩, hb8⟩
  have hb9 := H7.out.trans hb8
  have ho9 : OwnI 3 w8 W.heap.size s8 C := by
    have q := ho8
    rw [CE.out] at q
    exact q
  obtain ⟨g8, c8, rfl, ho10, hB8, hg8, hx8⟩ := gpForm ho9 HC
  have F8 := Lib.hid (HN.out w8 g8 hb9 hB8 hx8)
  have I8 := Lib.hid (ownI_ints ho10)
  have J8 := Lib.hid (HJ.out _ _ _ J0.out hb9)
  clear ho8 ho9 ho10 hb8 hb9 hx8 CP HN J0 H6 H7 SO bl bm
  gi_wp2
  gi_loopw [17] (fun i wr => ∃ k : Nat, k ≤ C.length ∧ i = .int .i64 k ∧ J (List.range k) wr ∧ Fr wr g8 ∧ IntsAt wr (.slice (some ⟨g8, 0, none⟩) C.length c8) C) (fun i _ => C.length - (intOf i).toNat)
  case atStart => exact ⟨0, Nat.zero_le _, rfl, J8.out, F8.out, I8.out⟩
  case round =>
    obtain ⟨k, hk, rfl, hJs, hF, hin⟩ := hrel
    have FF := Lib.hid hF
    have II := Lib.hid hin
    have JS := Lib.hid hJs
    clear hJs hF hin J8 F8 I8
    by_cases hlt : k < C.length
    · obtain ⟨e0', ez⟩ := gpInts_cell II.out hlt
      have e0 : wr.cell? ⟨g8, k, none⟩ = some (.int .i64 (gpEl C k)) := e0'
      clear e0'
      have k0 : (0 : Int) ≤ (k : Int) := Int.natCast_nonneg _
      have k1 : (k : Int) < (C.length : Int) := by omega
      obtain ⟨fn, tmps, assign, body, hy, hR⟩ := HY.out _ k _ JS.out (by rw [List.length_range]; omega)
      have hRR := Lib.hid hR
      have RS := Lib.hid (show List.range (k + 1) = List.range k ++ [k] from List.range_succ)
      have PX : Hid (List.range (k + 1) <+: List.range C.length) := by
        show _ <+: _
        have q := List.take_prefix (k + 1) (List.range C.length)
        rwa [List.take_range, show min (k + 1) C.length = k + 1 by omega] at q
      clear hR
      generalize gpEl C k = x at *
      gi_wp2
      refine ⟨fun hq => (by cases hq), hRR.out.mono ?_⟩
      rintro e W3 (⟨rfl, hJ3, hk3⟩ | ⟨rfl, hJx3⟩)
      · have hkk := hk3.2 g8 ez FF.out
        have F3 := Lib.hid hkk.2
        have I3 := Lib.hid (gpInts_blk II.out hk3.1 hkk.1)
        have J3 := Lib.hid (show J (List.range (k + 1)) W3 by rw [RS.out]; exact hJ3)
        clear hk3 hkk hJ3
        gi_wp2
        go_roundw
        case rel => exact ⟨k + 1, by omega, by go_num, J3.out, F3.out, I3.out⟩
        case measure => simp [intOf]; omega
      · gi_wp2
        refine bodyPost_ret (results_none rfl _ _ _) rfl ?_
        exact ⟨⟨_, rfl⟩, .inr ⟨_, PX.out, by rw [RS.out]; exact hJx3⟩⟩
    · obtain rfl : k = C.length := by omega
      gi_wp2
      go_end0
      exact ⟨⟨_, rfl⟩, .inl ⟨_, rfl, JS.out⟩⟩
/-- the value that changes hands out, as the law of loops wants it -/
theorem gpChanges_stops (n ba bb : Nat) {B1 q1 p1 g1 h1 B2 q2 p2 g2 h2 : Nat} {kd1 l k1 kd2 k2 : Int} {n1 n2 : Nat} {L M : List Nd} (hn1 : n1 ≤ 400) (hn2 : n2 ≤ 400) (hL : 0 < L.length) (hM : 0 < M.length) (Fr : World → Nat → Prop) (FR : Frm Fr) (w : World)
    (ca : w.cell? ⟨ba, 0, none⟩ = some (.pointer (some ⟨q1, 0, none⟩))) (cb : w.cell? ⟨bb, 0, none⟩ = some (.pointer (some ⟨q2, 0, none⟩))) (za : ba < w.heap.size) (zb : bb < w.heap.size) (d1 : DgA w B1 q1 p1 g1 h1 kd1 l k1 n1 L) (d2 : DgA w B2 q2 p2 g2 h2 kd2 l k2 n2 M)
    (hN : ∀ W W2 k, Below w.heap.size w W → Below W.heap.size W W2 → W.heap.size ≤ k → (∃ o : Obj, W2.heap[k]? = some o ∧ o.isCells = true) → Fr W2 k) :
    SeqStopsK Fence.wide n Tryz.prog 63 #[.pointer (some ⟨ba, 0, none⟩), .pointer (some ⟨bb, 0, none⟩)] (fun x : Nat => #[.int .i64 (gpEl (gpC l L M) x)]) (KpF Fr) (fun ys => ys = List.range (gpC l L M).length) (fun pre => pre <+: List.range (gpC l L M).length) (gpC l L M).length w := fun lp J Jx W hW hJ hJx hY h0 =>
  gpChanges1_in n lp ba bb hn1 hn2 hL hM Fr FR J Jx hY (fun pre A C hj hb => hJ pre A C none hj (below_none hb) (fun r e => by cases e)) W ((hW.cell (p := ⟨ba, 0, none⟩) za).trans ca) ((hW.cell (p := ⟨bb, 0, none⟩) zb).trans cb) (Nat.lt_of_lt_of_le za hW.size) (Nat.lt_of_lt_of_le zb hW.size) (d1.below hW) (d2.below hW) (fun W2 k => hN W W2 k hW) h0
end Go.Proofs.YtelekchdbiimiaaGreat
