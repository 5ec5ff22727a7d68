/- Texts laid together: RnkSrt, RnkTab, RnkGat, RnkT. -/
import Derived.Test.YtelekchdbiimiaaGreatRnQ
import Derived.Test.YtelekchdbiimiaaGreatMmy
import Derived.Test.YtelekchdbiimiaaGreatSort
import Derived.Test.YtelekchdbiimiaaGreatBgQ
import Derived.Test.YtelekchdbiimiaaGreatRkT
import Derived.Deep.Cut
import Derived.Deep.DeepCutAuto
import Derived.Test.YtelekchdbiimiaaGreatPoQ
import Derived.Test.YtelekchdbiimiaaGreatRoQ
import Derived.Deep.RegionWith
namespace Go.Proofs.YtelekchdbiimiaaGreat
set_option linter.unusedVariables false
set_option maxRecDepth 100000
open Go.RowKit Go.Sort Go.Lib Go.Shelf
/-- a value and its weight, as they lie in a row -/
def encU (p : Nd) : List Value := [.int .i64 p.1, .int .i64 p.2]
def upC (p q : Nd) : Int := Lib.compareInt p.1 q.1
theorem upC_lt (p q : Nd) : ltOf upC p q = decide (p.1 < q.1) := by
  unfold ltOf upC Lib.compareInt
  by_cases h1 : p.1 < q.1
  · simp [h1]
  · by_cases h2 : q.1 < p.1 <;> simp [h1, h2]
theorem up_swo : SWO (ltOf upC) where
  irrefl x := by rw [upC_lt]; simp
  trans x y z h1 h2 := by rw [upC_lt] at *; simp at *; omega
  ntrans x y z h1 h2 := by rw [upC_lt] at *; simp at *; omega
theorem up_holds {e : TypeId} {w : World} {B g cap : Nat} {T : List Nd} (h : OwnNd e w B (.slice (some ⟨g, 0, none⟩) T.length cap) T) : HoldsK encU 2 w g 0 T.toArray := by
  intro t ht
  rw [size_flatK] at ht
  simp at ht
  have e1 : t = t / 2 * 2 + t % 2 := by omega
  have hj : t / 2 < T.length := by omega
  refine ⟨?_, ?_⟩
  · rw [Nat.zero_add, World.ownsRow.cellAt h t ht, get_flatK _ _ _ _ (by simpa using ht)]
    have q := nods_get T (t / 2) hj
    have e2 : T.toArray[t / 2]! = T.getD (t / 2) nz := by
      rw [getElem!_pos _ _ (by simpa using hj)]; simp [List.getD_eq_getElem?_getD, List.getElem?_eq_getElem hj]
    rw [e2]
    rcases (show t % 2 = 0 ∨ t % 2 = 1 by omega) with z | z
    · have e3 : t / 2 * 2 = t := by omega
      rw [e3] at q
      rw [q.1, z]; rfl
    · have e3 : t / 2 * 2 + 1 = t := by omega
      rw [e3] at q
      rw [q.2, z]; rfl
  · exact World.ownsRow.frozenAt h _
theorem holds_nds {w : World} {g : Nat} {d : Array Nd} (h : HoldsK encU 2 w g 0 d) (hg : g < w.heap.size) : NdIn w g 0 d.toList := by
  refine ⟨hg, fun k hk => ?_⟩
  have hk' : k < d.size := by simpa using hk
  have e : d[k]! = d.toList.getD k nz := by rw [getElem!_pos d k hk']; simp [List.getD_eq_getElem?_getD, hk']
  have c0 := (HoldsK.cell h hk' (c := 0) (by omega)).1
  have c1 := (HoldsK.cell h hk' (c := 1) (by omega)).1
  rw [e] at c0 c1
  exact ⟨c0, c1⟩
theorem kp_sort {α : Type} [Inhabited α] {enc : α → List Value} {k : Nat} {w : World} {blk off n : Nat} {d : Array α} {os : Array Obj} : Kp (fun i => some i = some blk) w (sortWorldK enc k w blk off n d os) := by
  refine ⟨rfl, rfl, rfl, ?_, fun i hi hf => ?_⟩
  · simp [sortWorldK, grow, putRowK, putRow, mapBlock]
  · show ((w.heap.modify blk _) ++ os)[i]? = _
    rw [Array.getElem?_append_left (by simp; omega), Array.getElem?_modify, if_neg (fun e => hf (by rw [e]))]
theorem up_sorted {d d' : Array Nd} (hp : PermIn 0 d.size d d') (hs : SortedIn (ltOf upC) 0 d.size d') : d'.toList.Perm d.toList ∧ d'.toList.Pairwise (fun a b => a.1 ≤ b.1) := by
  have e1 : d'.extract 0 d.size = d' := by rw [← hp.1]; simp
  have e2 : d.extract 0 d.size = d := by simp
  have := hp.2.2
  rw [e1, e2] at this
  refine ⟨this, ?_⟩
  rw [List.pairwise_iff_getElem]
  intro i j hi hj hij
  have h := hs i j (Nat.zero_le _) hij (by rw [← hp.1]; simpa using hj)
  rw [upC_lt, getElem!_pos d' i (by simpa using hi), getElem!_pos d' j (by simpa using hj)] at h
  simp at h
  simpa using h
theorem grown_two (W : World) (x y : Obj) : ∃ q os', ((W.alloc x).alloc y) = grow (W.drewN q) os' :=
  ⟨0, #[x, y], by rw [alloc_eq_grow, alloc_eq_grow]; exact grow_grow (W.drewN 0) _ _⟩
/-- sorted values in a row that is read -/
def RnkOrd (v : Value) (T : List Nd) (w : World) (e : Ending) (w' : World) : Prop :=
  e = .returned (.tuple #[]) ∧ ∃ T' : List Nd, T'.Perm T ∧ T'.Pairwise (fun a b => a.1 ≤ b.1) ∧ NodesAt w' v T' ∧ Kp (fun k => v.ownBlock = some k) w w'
theorem upCmp0 (x y : Int) (w : World) : Calls Tryz.prog 109 #[.int .i64 x, .int .i64 y] w fun e w' => e = .returned (.int .i64 (Lib.compareInt x y)) ∧ w = w' := by
  have h := AnyG.cmp_Compare_int Tryz.cmpInt x y w
  change Calls Tryz.prog 109 _ _ _ at h
  exact h.mono fun _ _ ⟨a, b⟩ => ⟨a, b.symm⟩
theorem upCmp_any (a b c d : Int) (W : World) :
    Calls Tryz.prog 108 #[.agg #[.int .i64 a, .int .i64 b], .agg #[.int .i64 c, .int .i64 d]] W fun e w' => e = .returned (.int .i64 (Lib.compareInt a c)) ∧ ∃ q os', w' = grow (W.drewN q) os' := by
  have G := Lib.hid (grown_two W (.cells #[.int .i64 a, .int .i64 b] 129) (.cells #[.int .i64 c, .int .i64 d] 129))
  go_enter Tryz.func108, Tryz.ntmps108
  go_wp2_with (go_at_call 109; refine (upCmp0 _ _ _).mono ?_; rintro e w1 ⟨rfl, rfl⟩)
  go_ret
  exact ⟨rfl, G.out⟩
theorem upIns_nil (fv : Value) (w : World) : Calls Tryz.prog 175 #[.slice none 0 0, .int .i64 0, .int .i64 0, fv] w fun e w' => e = .returned (.tuple #[]) ∧ w = w' := by
  go_enter Tryz.func175, Tryz.ntmps175
  go_wp2_with fail
  refine wp_loop_rounds 1 ?_
  rw [rounds_succ]
  go_wp2_with fail
  go_end0
  exact ⟨rfl, rfl⟩
theorem upPdq_nil (lim : Int) (fv : Value) (w : World) : Calls Tryz.prog 148 #[.slice none 0 0, .int .i64 0, .int .i64 0, .int .i64 lim, fv] w fun e w' => e = .returned (.tuple #[]) ∧ w = w' := by
  go_enter Tryz.func148, Tryz.ntmps148
  go_wp2_with fail
  refine wp_loop_rounds 1 ?_
  rw [rounds_succ]
  go_wp2_with (go_at_call 175; refine (upIns_nil _ _).mono ?_; rintro e w' ⟨rfl, rfl⟩)
  (try simp only [Exit.inBlock, Exit.then]); refine bodyPost_ret (results_none rfl _ _ _) rfl ?_
  exact ⟨rfl, rfl⟩
theorem upLen_any (n : Nat) (w : World) (h : n ≤ 1000) : Calls Tryz.prog 111 #[.int .u64 (n : Int)] w fun e w' => e = .returned (.int .i64 (Lib.bitLen n : Nat)) ∧ w = w' := by
  have q := Tryz.bits_Len (n : Int) w (by omega) (by omega)
  rw [Int.toNat_natCast] at q
  exact q.mono fun _ _ ⟨a, b⟩ => ⟨a, b.symm⟩
theorem upSort_nil (fv : Value) (w : World) : Calls Tryz.prog 107 #[.slice none 0 0, fv] w fun e w' => e = .returned (.tuple #[]) ∧ w = w' := by
  have LN := Lib.hid (fun w => upLen_any 0 w (by omega))
  go_enter Tryz.func107, Tryz.ntmps107
  go_wp2_with (first | (go_at_call 111; refine (LN.out _).mono ?_; rintro e w' ⟨rfl, rfl⟩) | (go_at_call 148; refine (upPdq_nil _ _ _).mono ?_; rintro e w' ⟨rfl, rfl⟩))
  go_end0
  exact ⟨rfl, rfl⟩
set_option maxHeartbeats 1600000 in
theorem upSort_row {g cap : Nat} {d : Array Nd} (w : World) (hH : HoldsK encU 2 w g 0 d) (hg : g < w.heap.size) (hl : d.size ≤ 1000) :
    Calls Tryz.prog 107 #[.slice (some ⟨g, 0, none⟩) d.size cap, .func (.func 108) #[] #[]] w fun e w' => e = .returned (.tuple #[]) ∧ ∃ d' n os, PermIn 0 d.size d d' ∧ SortedIn (ltOf upC) 0 d.size d' ∧ w' = sortWorldK encU 2 w g 0 n d' os := by
  have eg : ∀ args w, (callFunc 108 args).run Tryz.prog w = .ok (.enter 108 args) w := enters_of Tryz.func108 (by kernel_rfl) rfl
  have LN := Lib.hid (fun w => upLen_any d.size w hl)
  have hlim : Lib.bitLen d.size < 4611686018427387904 := Nat.lt_of_le_of_lt (Lib.bitLen_le d.size 62 (by omega) (by omega)) (by omega)
  have PD := Lib.hid (AnyQ.pdqsortCmpFunc_all Tryz.sortUp 2 Tryz.isAgg129 Tryz.sizeOf129 encU upC 108 #[] up_swo g 0 cap d w eg (fun _ _ _ _ x y => upCmp_any x.1 x.2 y.1 y.2 _) ⟨fun _ => rfl, fun x v hv => by simp [encU] at hv; rcases hv with rfl | rfl <;> rfl, hH, hg⟩ (d.size + 1) 0 d.size (Lib.bitLen d.size) d w (by omega) rfl (SWK.start hH) (Nat.zero_le _) (Nat.le_refl _) (by omega) hlim (Or.inl rfl))
  have PS := Lib.hid (pdq_sorts (ltOf upC) up_swo d 0 d.size (Lib.bitLen d.size) true true (Nat.zero_le _) (Nat.le_refl _) (Or.inl rfl))
  have wr : IntKind.u64.wrap (d.size : Int) = d.size := by simp [IntKind.wrap, IntKind.bits, IntKind.signed]; omega
  clear hH
  generalize pdq (ltOf upC) d 0 d.size (Lib.bitLen d.size) true true = d' at *
  generalize hm : d.size = m at *
  go_enter Tryz.func107, Tryz.ntmps107
  go_wp2_with (first | (go_at_call 111; refine (LN.out _).mono ?_; rintro e w' ⟨rfl, rfl⟩) | (go_at_call 148; refine PD.out.mono ?_; rintro e w' ⟨rfl, n, os, hw⟩))
  go_end0
  exact ⟨rfl, d', n, os, PS.out.1, PS.out.2, rfl⟩
theorem rnkSort_any {B : Nat} {v : Value} {T : List Nd} (w : World) (o : OwnNd 129 w B v T) (hl : T.length ≤ 1000) :
    Calls Tryz.prog 107 #[v, .func (.func 108) #[] #[]] w (RnkOrd v T w) := by
  rcases ownNd_form o with ⟨rfl, rfl⟩ | ⟨g, cap, rfl, hB, hg, hn, hc, hin⟩
  · exact (upSort_nil _ w).mono fun e w' ⟨a, b⟩ => by subst b; exact ⟨a, [], .refl _, .nil, nodes_nil _, Kp.refl _ _⟩
  · refine (upSort_row (cap := cap) (d := T.toArray) w (up_holds o) hg (by simpa using hl)).mono ?_
    rintro e w' ⟨rfl, d', n, os, hp, hs, rfl⟩
    obtain ⟨p, q⟩ := up_sorted hp hs
    have hlen : d'.toList.length = T.length := by have := p.length_eq; simpa using this
    have HH := holdsK_sortWorldK encU 2 w g 0 n T.toArray d' os hg (up_holds o) hp.1
    have LT := lt_sortWorldK encU 2 w g 0 n d' os hg
    refine ⟨rfl, d'.toList, by simpa using p, q, ⟨_, cap, by rw [hlen], by rw [hlen]; exact hn, hc, fun e => (by cases e), fun _ => ⟨g, 0, rfl, holds_nds HH LT⟩⟩, ?_⟩
    exact kp_sort.mono fun k _ e => by injection e with e; rw [e]; rfl
end Go.Proofs.YtelekchdbiimiaaGreat
namespace Go.Proofs.YtelekchdbiimiaaGreat
set_option linter.unusedVariables false
set_option maxRecDepth 100000
open Go.RowKit
theorem rk_box (w : World) (v u : Value) (t t' : TypeId) (q : Nat) : (((w.alloc (.cells #[v] t)).alloc (.cells #[u] t')).drewN q).cell? ⟨w.heap.size, 0, none⟩ = some v := by
  show ((w.alloc (.cells #[v] t)).alloc (.cells #[u] t')).cell? ⟨w.heap.size, 0, none⟩ = some v
  exact (World.cell?_alloc_lt _ _ _ (by simp)).trans (by simp)
theorem rnkAt1_any (Ns Nx i : Nat) (x : Int) {A : Option Addr} {n c : Nat} {S : List Nd} (w : World) (h : NodesAt w (.slice A n c) S) (hg : Good S) (hi : i < n) (e0 : w.cell? ⟨Ns, 0, none⟩ = some (.slice A n c)) (e1 : w.cell? ⟨Nx, 0, none⟩ = some (.int .i64 x)) :
    Calls Tryz.prog 189 #[.int .i64 (i : Int), .pointer (some ⟨Ns, 0, none⟩), .pointer (some ⟨Nx, 0, none⟩)] w fun e w' => e = .returned (.bool (decide (leN S x ≤ i))) ∧ ∃ q, w' = w.drewN q := by
  have hl := (nodes_cells h).1
  obtain ⟨b, o, rfl, hin⟩ := (nodes_cells h).2.2.2 (by omega)
  have hk : i < S.length := by omega
  obtain ⟨f0, f1⟩ := hin.2 i hk
  rw [← le_at hg x hk]
  have hi0 : (0 : Int) ≤ (i : Int) := Int.natCast_nonneg _
  have hi1 : (i : Int) < (n : Int) := by omega
  clear h hl hin hg hk
  generalize S.getD i nz = r at *
  obtain ⟨r1, r2⟩ := r
  simp only at f0 f1
  go_enter Tryz.func189, Tryz.ntmps189
  go_wp2_with fail
  go_quiet (fail)
  go_wp2_with fail
  go_ret
  exact ⟨rfl, _, rfl⟩
theorem rnkAt_find (x : Int) {A : Option Addr} {n c : Nat} {S : List Nd} (w : World) (hN : NodesAt w (.slice A n c) S) (hG : Good S) (hn : n ≤ 1000000) :
    Calls Tryz.prog 188 #[.int .i64 (n : Int), .func (.func 189) #[] #[.pointer (some ⟨w.heap.size, 0, none⟩), .pointer (some ⟨w.heap.size + 1, 0, none⟩)]] ((w.alloc (.cells #[.slice A n c] 126)).alloc (.cells #[.int .i64 x] 3)) fun e w' => e = .returned (.int .i64 (leN S x : Int)) ∧ ∃ q, w' = ((w.alloc (.cells #[.slice A n c] 126)).alloc (.cells #[.int .i64 x] 3)).drewN q := by
  have hb0 : Below w.heap.size w ((w.alloc (.cells #[.slice A n c] 126)).alloc (.cells #[.int .i64 x] 3)) := ((Below.refl _ _).alloc (Nat.le_refl _) _).alloc (by simp) _
  have hm := (nodes_cells hN).1
  have hlt : leN S x ≤ n := by have := le_le S x; omega
  refine search_any 189 _ n (leN S x) hlt hn _ (fun _ _ => by kernel_rfl) fun m k hk => ?_
  have hw : Below ((w.alloc (.cells #[.slice A n c] 126)).alloc (.cells #[.int .i64 x] 3)).heap.size ((w.alloc (.cells #[.slice A n c] 126)).alloc (.cells #[.int .i64 x] 3)) (((w.alloc (.cells #[.slice A n c] 126)).alloc (.cells #[.int .i64 x] 3)).drewN m) := drewN_below (Below.refl _ _) m
  refine (rnkAt1_any w.heap.size (w.heap.size + 1) k x _ ((hN.below hb0).below hw) hG hk ?_ ?_).mono fun e w' ⟨e1, q, e2⟩ => ⟨e1, m + q, ?_⟩
  · exact (hw.cell (p := ⟨w.heap.size, 0, none⟩) (by simp; omega)).trans (by simp)
  · exact (hw.cell (p := ⟨w.heap.size + 1, 0, none⟩) (by simp)).trans (by simp)
  · rw [e2]; exact World.drewN_drewN _ _ _
set_option maxHeartbeats 800000 in
theorem rnkAt_any (x : Int) {A : Option Addr} {n c : Nat} {S : List Nd} (w : World) (hN : NodesAt w (.slice A n c) S) (hG : Good S) (hn : n ≤ 1000000) :
    Calls Tryz.prog 161 #[.slice A n c, .int .i64 x] w fun e w' => e = .returned (.int .i64 (rkAt S x)) ∧ Below w.heap.size w w' := by
  have hb0 : Below w.heap.size w ((w.alloc (.cells #[.slice A n c] 126)).alloc (.cells #[.int .i64 x] 3)) := ((Below.refl _ _).alloc (Nat.le_refl _) _).alloc (by simp) _
  have SE := Lib.hid (rnkAt_find x w hN hG hn)
  have HB := Lib.hid hb0
  have hm := (nodes_cells hN).1
  have hlt : leN S x ≤ n := by have := le_le S x; omega
  have X0 : Hid (∀ q, (((w.alloc (.cells #[.slice A n c] 126)).alloc (.cells #[.int .i64 x] 3)).drewN q).cell? ⟨w.heap.size, 0, none⟩ = some (.slice A n c)) := fun q => rk_box w _ _ _ _ q
  have NN : Hid (∀ q, NodesAt (((w.alloc (.cells #[.slice A n c] 126)).alloc (.cells #[.int .i64 x] 3)).drewN q) (.slice A n c) S) := fun q => (hN.below hb0).below (drewN_below (Below.refl _ _) q)
  have RK : Hid (rkAt S x = if leN S x = 0 then 0 else (S.getD (leN S x - 1) nz).2) := rfl
  generalize rkAt S x = R at *
  generalize leN S x = t at *
  have HM := Lib.hid hm
  clear hb0 hG hm hN
  rcases t with _ | k
  · have hR : R = 0 := by rw [RK.out, if_pos rfl]
    subst hR
    go_enter Tryz.func161, Tryz.ntmps161
    go_wp2_with fail
    refine SE.out.mono ?_
    rintro e w1 ⟨rfl, q, rfl⟩
    go_wp2_with fail
    go_ret
    exact ⟨rfl, drewN_below HB.out q⟩
  · have hR : R = (S.getD k nz).2 := by rw [RK.out, if_neg (by omega)]; rfl
    have SE2 : Hid _ := SE
    rw [show ((k + 1 : Nat) : Int) = (k : Int) + 1 by omega] at SE2
    have HR := Lib.hid hR
    clear hR
    have hk : k < S.length := by have := HM.out; omega
    have hkn : k < n := by omega
    have k0 : (0 : Int) ≤ (k : Int) := Int.natCast_nonneg _
    have k1 : (k : Int) < (n : Int) := by omega
    have z1 : ((k : Int) + 1 == 0) = false := by rw [beq_eq_false_iff_ne]; omega
    clear SE RK hlt
    go_enter Tryz.func161, Tryz.ntmps161
    go_wp2_with (go_at_call 188; refine SE2.out.mono ?_; rintro e w1 ⟨rfl, q, rfl⟩; have c0 := X0.out q; obtain ⟨b, o, rfl, hin⟩ := (nodes_cells (NN.out q)).2.2.2 (by have := HM.out; omega); obtain ⟨_, f1⟩ := hin.2 k hk; rw [← HR.out] at f1)
    go_ret
    exact ⟨rfl, drewN_below HB.out q⟩
theorem upto_info : (Tryz.prog.info? 129).map (fun i => (i.zero, i.size, i.bytes)) = some (some (.agg #[.int .i64 0, .int .i64 0]), 2, 16) := by kernel_rfl
/-- sums of what the values weigh -/
def RnkSums (v : Value) (T : List Nd) (w : World) (e : Ending) (w' : World) : Prop :=
  ∃ A m c S, e = .returned (.slice A m c) ∧ OwnNd 129 w' w.heap.size (.slice A m c) S ∧ SumI T S ∧ S.length ≤ T.length ∧ Kp (fun k => v.ownBlock = some k) w w'
set_option maxHeartbeats 6400000 in
theorem rnkAdded_any {B : Nat} {v : Value} {T : List Nd} (w : World) (o : OwnNd 129 w B v T) (hp : ∀ n ∈ T, 1 ≤ n.2) (hb : NBds T) (ht : sumC T ≤ 72057594037927935) (hl : T.length ≤ 400) :
    Calls Tryz.prog 62 #[v] w (RnkSums v T w) := by
  obtain ⟨A, n, c, rfl⟩ := ownNd_slice o
  obtain ⟨i0, hi, hz0, hz1, hz2⟩ := info_parts upto_info
  have SO := Lib.hid (rnkSort_any w o (by omega))
  have HN := Lib.hid (nodes_cells (ownNd_nodes o)).1
  have n4 : n ≤ 400 := by have := HN.out; omega
  have HP := Lib.hid (And.intro hp (And.intro hb ht))
  clear o hp hb ht
  go_enter Tryz.func62, Tryz.ntmps62
  go_wp2_with (go_at_call 107; refine SO.out.mono ?_; rintro e w1 ⟨rfl, T', pm, asc, hN, kp⟩)
  have HL : Hid (T'.length = n) := by show _ = _; have := pm.length_eq; have := HN.out; omega
  have NA := Lib.hid (nodes_cells hN).2.2.2
  have P1 : Hid (∀ m ∈ T', 1 ≤ m.2) := fun m hm => HP.out.1 m (pm.mem_iff.1 hm)
  have NB := Lib.hid (nbds_perm pm HP.out.2.1)
  have NN : NonNeg T' := fun m hm => by have := P1.out m hm; omega
  have BD : Hid (∀ j, 0 ≤ sumC (T'.take j) ∧ sumC (T'.take j) ≤ 72057594037927935) := fun j => by
    have a := sum_take_le NN j
    have b := sumC_perm pm
    have c := HP.out.2.2
    exact ⟨sumC_nonneg fun m hm => NN m (List.mem_of_mem_take hm), by omega⟩
  have AS := Lib.hid asc
  have KP := Lib.hid kp
  have PM := Lib.hid pm
  clear pm asc hN kp NN SO
  go_loopw [3, 4, 12] (fun s x i wr => ∃ (j : Nat) (S : List Nd), j ≤ n ∧ i = .int .i64 j ∧ x = .int .i64 (sumC (T'.take j)) ∧ OwnNd 129 wr w1.heap.size s S ∧ SumI (T'.take j) S ∧ S.length ≤ j ∧ Below w1.heap.size w1 wr) (fun _ _ i _ => n - (intOf i).toNat)
  case atStart => exact ⟨0, [], by omega, rfl, rfl, ownNd_nil .., SumI.nil, by simp, Below.refl _ _⟩
  case round =>
    obtain ⟨j, S, hj, rfl, rfl, ho, hS, hlen, hbw⟩ := hrel
    obtain ⟨A2, m, c2, rfl⟩ := ownNd_slice ho
    have MS := Lib.hid (nodes_cells (ownNd_nodes ho)).1
    have OO := Lib.hid ho
    have SS := Lib.hid hS
    have BW := Lib.hid hbw
    have SL := Lib.hid hlen
    by_cases hlt : j < n
    · have hjl : j < T'.length := by have := HL.out; omega
      obtain ⟨b, o, rfl, hin⟩ := NA.out (by omega)
      obtain ⟨e0, e1⟩ := (hin.below BW.out hin.1).2 j hjl
      have hbz : b < wr.heap.size := Nat.lt_of_lt_of_le hin.1 BW.out.size
      have ASJ := Lib.hid (asc_take AS.out hjl)
      have TK := Lib.hid (nd_take hjl)
      have st := sum_take_step hjl
      have b1 := BD.out j
      have b2 := BD.out (j + 1)
      have nb := nbds_at NB.out hjl
      have TS : Hid (sumC (T'.take j ++ [T'.getD j nz]) = sumC (T'.take (j + 1))) := by show _ = _; rw [nd_take hjl]
      clear ho hS hbw hlen hin
      obtain ⟨p, hpe⟩ : ∃ p, p = T'.getD j nz := ⟨_, rfl⟩
      rw [← hpe] at e0 e1 ASJ TK st nb TS
      obtain ⟨x, y⟩ := p
      simp only at e0 e1 ASJ st nb
      clear hpe
      generalize sumC (T'.take j) = s1 at *
      generalize hs2 : sumC (T'.take (j + 1)) = s2 at *
      have HS2 := Lib.hid hs2
      clear hs2
      have hw : IntKind.i64.wrap (s1 + y) = s2 := by rw [st]; exact wrap_lit rfl (by omega) (by omega)
      have j0 : (0 : Int) ≤ (j : Int) := Int.natCast_nonneg _
      have j1 : (j : Int) < (n : Int) := by omega
      have HB1 : Hid (Below w1.heap.size w1 (wr.alloc (.cells #[.int .i64 x, .int .i64 y] 129))) := BW.out.alloc BW.out.size _
      have OB := Lib.hid (World.ownsRow.alloc OO.out (.cells #[.int .i64 x, .int .i64 y] 129))
      have c0 : (wr.alloc (.cells #[.int .i64 x, .int .i64 y] 129)).cell? ⟨wr.heap.size, 0, none⟩ = some (.int .i64 x) := by simp
      have sl := SL.out
      have hz1' : w1.heap.size ≤ (wr.alloc (.cells #[.int .i64 x, .int .i64 y] 129)).heap.size := HB1.out.size
      have SUM : Hid (∀ S2, SumI (T'.take j ++ [(x, y)]) S2 → SumI (T'.take (j + 1)) S2) := fun S2 h => by rw [TK.out]; exact h
      have MORE : Hid ((∀ k, S.length = k + 1 → (S.getD k nz).1 ≠ x) → SumI (T'.take (j + 1)) (S ++ [(x, s2)])) := fun h => SUM.out _ (by
        have q := SS.out.more (v := (x, y)) (SS.out.lt ASJ.out h)
        rw [TS.out] at q; exact q)
      have PUT : Hid (∀ k, S.length = k + 1 → (S.getD k nz).1 = x → SumI (T'.take (j + 1)) (S.set k (x, s2))) := fun k hk e => SUM.out _ (by
        have q := SS.out.put (v := (x, y)) hk e ASJ.out
        rw [TS.out] at q; exact q)
      clear st
      rcases Nat.eq_zero_or_pos m with rfl | hmp
      · have MO := Lib.hid (MORE.out fun k h => by have := MS.out; omega)
        go_wp2_with fail
        have C0 := Lib.hid c0
        clear c0
        generalize wr.alloc (.cells #[.int .i64 x, .int .i64 y] 129) = W1 at *
        have c0 : W1.cell? ⟨wr.heap.size, 0, none⟩ = some (.int .i64 x) := C0.out
        go_quiet (fail)
        have D1 : Below W1.heap.size W1 (W1.drewN nq) := drewN_below (Below.refl _ _) nq
        have O2 := Lib.hid (own_below OB.out D1)
        have DD := Lib.hid D1
        clear D1
        go_wp2_with (at_builtin; refine wpList_append_own _ rfl _ _ 126 rfl w1.heap.size 129 i0 (.agg #[.int .i64 0, .int .i64 0]) 2 16 Tryz.underlying126 hi hz0 hz1 hz2 rfl (by decide) _ S.length (nods S) rfl (World.ownsRow.alloc O2.out _) ⟨W1.heap.size, 0, none⟩ 1 1 [.int .i64 x, .int .i64 s2] rfl rfl (two_new _ _ _ _ _ rfl) (two_cell _ _) (by unfold maxLen; omega) (by omega) (by simp; omega) ?_)
        intro v' w4 hown hgrow hnil
        have hb4 : Below w1.heap.size w1 w4 := (((HB1.out.trans (DD.out.mono HB1.out.size)).alloc (by simpa using hz1') _).grown hgrow (by simp; omega) (fun g hg => (World.ownsRow.lt OB.out g hg).1))
        have B4 := Lib.hid hb4
        have O4 := Lib.hid (ownNd_snoc hown)
        clear hown hgrow hnil hb4
        go_wp2_with fail
        go_roundw
        case rel => exact ⟨j + 1, S ++ [(x, s2)], by omega, by go_num, by rw [HS2.out], O4.out, MO.out, by simp; omega, B4.out⟩
        case measure => simp [intOf]; omega
      · obtain ⟨k, hk⟩ : ∃ k, m = k + 1 := ⟨m - 1, by omega⟩
        have hkS : Hid (S.length = k + 1) := by show _ = _; have := MS.out; omega
        have HK := Lib.hid hk
        clear hk hmp
        rcases ownNd_form OO.out with ⟨_, z⟩ | ⟨g, cap, hv, hBg, hgw, hgn, hgc, hin⟩
        · exfalso; have := hkS.out; rw [z] at this; simp at this
        · injection hv with hv1 hv2 hv3
          subst hv1 hv3
          obtain ⟨f0, f1⟩ := hin.2 k (by have := hkS.out; omega)
          simp only [Nat.zero_add] at f0 f1
          have PUTK := Lib.hid (PUT.out k hkS.out)
          have MOREK : Hid ((S.getD k nz).1 ≠ x → SumI (T'.take (j + 1)) (S ++ [(x, s2)])) := fun h => MORE.out fun k2 h2 => by
            have := hkS.out
            obtain rfl : k2 = k := by omega
            exact h
          have NPUT := Lib.hid (fun (e : (S.getD k nz).1 = x) => nods_put1 S k s2 x e)
          obtain ⟨p, hpe⟩ : ∃ p, p = S.getD k nz := ⟨_, rfl⟩
          rw [← hpe] at f0 f1 PUTK MOREK NPUT
          obtain ⟨a1, a2⟩ := p
          simp only at f0 f1 PUTK MOREK
          clear hin hv2 hpe hgn
          have k0 : (0 : Int) ≤ (k : Int) := Int.natCast_nonneg _
          have k4 : k ≤ 400 := by have := hkS.out; omega
          have k5 : (k : Int) ≤ 400 := by omega
          have k6 : (k : Int) < (m : Int) := by have := HK.out; omega
          have k7 : k < m := by have := HK.out; omega
          have m4 : m ≤ 400 := by have := HK.out; have := hkS.out; omega
          have hwk : wrap64 ((m : Int) - 1) = (k : Int) := by have := HK.out; rw [IntWalk.wrap64_in _ (by omega)]; omega
          have hwk2 : IntKind.i64.wrap ((m : Int) - 1) = (k : Int) := by have := HK.out; rw [wrap_lit rfl (by omega) (by omega)]; omega
          have f0' : (wr.alloc (.cells #[.int .i64 x, .int .i64 y] 129)).cell? ⟨g, k * 2, none⟩ = some (.int .i64 a1) := (World.cell?_alloc_lt _ _ _ hgw).trans f0
          have f1' : (wr.alloc (.cells #[.int .i64 x, .int .i64 y] 129)).cell? ⟨g, k * 2 + 1, none⟩ = some (.int .i64 a2) := (World.cell?_alloc_lt _ _ _ hgw).trans f1
          have hgw' : g < (wr.alloc (.cells #[.int .i64 x, .int .i64 y] 129)).heap.size := by simp; omega
          have C0 := Lib.hid c0
          have F1 := Lib.hid f1'
          by_cases hax : a1 = x
          · have PU := Lib.hid (PUTK.out hax)
            have NP := Lib.hid (NPUT.out hax)
            have hq : (a1 == x) = true := by rw [hax]; exact beq_self_eq_true x
            clear PUTK MOREK NPUT f0 f1 f1' c0 hax
            go_wp2_with fail
            generalize wr.alloc (.cells #[.int .i64 x, .int .i64 y] 129) = W1 at *
            have c0 : W1.cell? ⟨wr.heap.size, 0, none⟩ = some (.int .i64 x) := C0.out
            go_quiet (fail)
            have D1 : Below W1.heap.size W1 (W1.drewN nq) := drewN_below (Below.refl _ _) nq
            have DD := Lib.hid D1
            have O2 := Lib.hid (own_below OB.out D1)
            have Q2 : Hid ((W1.drewN nq).ownsRow w1.heap.size 129 2 (.slice (some ⟨g, 0, none⟩) m c2) m (nods S)) := by
              have q := O2.out
              rw [← MS.out] at q
              exact q
            have g1 : (W1.drewN nq).cell? ⟨g, k * 2 + 1, none⟩ = some (.int .i64 a2) := F1.out
            have g2 : (W1.drewN nq).frozen? ⟨g, k * 2 + 1, none⟩ = false := World.ownsRow.frozenAt Q2.out (k * 2 + 1)
            have g3 : g < (W1.drewN nq).heap.size := hgw'
            have OS : Hid (OwnNd 129 ((W1.drewN nq).setCell ⟨g, k * 2 + 1, none⟩ (.int .i64 s2)) w1.heap.size (.slice (some ⟨g, 0, none⟩) m c2) (S.set k (x, s2))) := by
              show World.ownsRow _ _ _ _ _ _ _
              rw [NP.out, List.length_set, ← MS.out]
              exact (World.ownsRow.stored Q2.out (k * 2 + 1) (.int .i64 s2)).1
            have B4 : Hid (Below w1.heap.size w1 ((W1.drewN nq).setCell ⟨g, k * 2 + 1, none⟩ (.int .i64 s2))) := (HB1.out.trans (D1.mono HB1.out.size)).setCell (p := ⟨g, k * 2 + 1, none⟩) hBg _
            have LS : Hid ((S.set k (x, s2)).length ≤ j + 1) := by show _ ≤ _; rw [List.length_set]; omega
            clear D1
            go_wp2_with fail
            go_roundw
            case rel => exact ⟨j + 1, S.set k (x, s2), by omega, by go_num, by rw [HS2.out], OS.out, PU.out, LS.out, B4.out⟩
            case measure => simp [intOf]; omega
          · have MO := Lib.hid (MOREK.out hax)
            have hq : (a1 == x) = false := beq_eq_false_iff_ne.2 hax
            clear PUTK MOREK NPUT f0 f1 f1' c0 hax
            go_wp2_with fail
            generalize wr.alloc (.cells #[.int .i64 x, .int .i64 y] 129) = W1 at *
            have c0 : W1.cell? ⟨wr.heap.size, 0, none⟩ = some (.int .i64 x) := C0.out
            go_quiet (fail)
            have D1 : Below W1.heap.size W1 (W1.drewN nq) := drewN_below (Below.refl _ _) nq
            have O2 := Lib.hid (own_below OB.out D1)
            have DD := Lib.hid D1
            clear D1
            go_wp2_with (at_builtin; refine wpList_append_own _ rfl _ _ 126 rfl w1.heap.size 129 i0 (.agg #[.int .i64 0, .int .i64 0]) 2 16 Tryz.underlying126 hi hz0 hz1 hz2 rfl (by decide) _ S.length (nods S) rfl (World.ownsRow.alloc O2.out _) ⟨W1.heap.size, 0, none⟩ 1 1 [.int .i64 x, .int .i64 s2] rfl rfl (two_new _ _ _ _ _ rfl) (two_cell _ _) (by unfold maxLen; omega) (by omega) (by simp; omega) ?_)
            intro v' w4 hown hgrow hnil
            have hb4 : Below w1.heap.size w1 w4 := (((HB1.out.trans (DD.out.mono HB1.out.size)).alloc (by simpa using hz1') _).grown hgrow (by simp; omega) (fun g hg => (World.ownsRow.lt OB.out g hg).1))
            have B4 := Lib.hid hb4
            have O4 := Lib.hid (ownNd_snoc hown)
            clear hown hgrow hnil hb4
            go_wp2_with fail
            go_roundw
            case rel => exact ⟨j + 1, S ++ [(x, s2)], by omega, by go_num, by rw [HS2.out], O4.out, MO.out, by simp; omega, B4.out⟩
            case measure => simp [intOf]; omega
    · obtain rfl : j = n := by omega
      have e : T'.take j = T' := List.take_of_length_le (by have := HL.out; omega)
      rw [e] at SS
      have R : Hid (RnkSums (.slice A j c) T w (.returned (.slice A2 m c2)) wr) := by
        refine ⟨A2, m, c2, S, rfl, own_low OO.out KP.out.size, SS.out.perm PM.out, by have := SL.out; have := HN.out; omega, ?_⟩
        exact KP.out.trans (Kp.of (F := fun k => (Value.slice A j c).ownBlock = some k) BW.out) fun k _ h => h
      clear ho hS hbw hlen e
      go_wp2_with fail
      go_ret
      exact R.out
end Go.Proofs.YtelekchdbiimiaaGreat
namespace Go.Proofs.YtelekchdbiimiaaGreat
set_option linter.unusedVariables false
open Go.RowKit
/-- two boxes, each with a row of the call's own -/
structure RnkGat (TB TR : TypeId) (w : World) (B bf bl : Nat) (vf vl : Value) (F G : List Nd) : Prop where
  f : w.ownsRow B TB 1 (.slice (some ⟨bf, 0, none⟩) 1 1) 1 [vf]
  l : w.ownsRow B TB 1 (.slice (some ⟨bl, 0, none⟩) 1 1) 1 [vl]
  ne : bf ≠ bl
  rf : OwnNd TR w B vf F
  rl : OwnNd TR w B vl G
  ap : ∀ k, vf.ownBlock = some k → vl.ownBlock ≠ some k
variable {TB TR : TypeId} {w : World} {B bf bl : Nat} {vf vl : Value} {F G : List Nd}
theorem RnkGat.swap (h : RnkGat TB TR w B bf bl vf vl F G) : RnkGat TB TR w B bl bf vl vf G F :=
  ⟨h.l, h.f, Ne.symm h.ne, h.rl, h.rf, fun k a b => h.ap k b a⟩
theorem RnkGat.below {w' : World} (h : RnkGat TB TR w B bf bl vf vl F G) (q : Below w.heap.size w w') : RnkGat TB TR w' B bf bl vf vl F G :=
  ⟨own_below h.f q, own_below h.l q, h.ne, own_below h.rf q, own_below h.rl q, h.ap⟩
theorem RnkGat.cells (h : RnkGat TB TR w B bf bl vf vl F G) : w.cell? ⟨bf, 0, none⟩ = some vf ∧ w.frozen? ⟨bf, 0, none⟩ = false ∧ bf < w.heap.size ∧ w.cell? ⟨bl, 0, none⟩ = some vl ∧ w.frozen? ⟨bl, 0, none⟩ = false ∧ bl < w.heap.size :=
  ⟨h.f.cellAt 0 (by omega), h.f.frozenAt 0, (h.f.lt bf rfl).2, h.l.cellAt 0 (by omega), h.l.frozenAt 0, (h.l.lt bl rfl).2⟩
theorem gat_ne {TB TR : TypeId} {w : World} {B1 B2 b n m s1 s2 : Nat} {v : Value} {xs ys : List Value} (h : w.ownsRow B1 TB s1 (.slice (some ⟨b, 0, none⟩) 1 1) n xs) (r : w.ownsRow B2 TR s2 v m ys) (t : TB ≠ TR) : ∀ k, v.ownBlock = some k → k ≠ b := fun k e q => by
  rcases own_apart h r t with z | z
  · simp [Value.ownBlock] at z
  · exact z (by rw [e, q]; rfl)
/-- the first row has grown, and stands in its box anew -/
theorem RnkGat.put {w1 : World} {o : Obj} {v' : Value} {F' : List Nd} (h : RnkGat TB TR w B bf bl vf vl F G) (t : TB ≠ TR) (ho : OwnNd TR w1 B v' F') (hg : (w.alloc o).grownBy w1 vf.ownBlock) (ha : v'.ownBlock = vf.ownBlock ∨ v'.ownBlock = some (w.heap.size + 1)) :
    RnkGat TB TR (w1.setCell ⟨bf, 0, none⟩ v') B bf bl v' vl F' G ∧ Kp (fun i => i = bf ∨ vf.ownBlock = some i) w (w1.setCell ⟨bf, 0, none⟩ v') ∧ w1.frozen? ⟨bf, 0, none⟩ = false ∧ bf < w1.heap.size ∧ w1.cell? ⟨bf, 0, none⟩ = some vf := by
  have k1 : Kp (fun i => vf.ownBlock = some i) w w1 := ((Kp.of (F := fun i => vf.ownBlock = some i) (below_one w o)).trans (Kp.grown hg) (fun k _ h => h.symm))
  have f1 := own_kp h.f k1 fun k e q => gat_ne h.f h.rf t k q (by simp [Value.ownBlock] at e; exact e.symm)
  have l1 := own_kp h.l k1 fun k e q => gat_ne h.l h.rf t k q (by simp [Value.ownBlock] at e; exact e.symm)
  have rl1 := own_kp h.rl k1 fun k e q => h.ap k q e
  have ks := Kp.setCell w1 ⟨bf, 0, none⟩ v'
  refine ⟨⟨(f1.stored 0 v').1, own_kp l1 ks fun k e q => ?_, h.ne, own_kp ho ks fun k e q => gat_ne f1 ho t k e q, own_kp rl1 ks fun k e q => gat_ne f1 rl1 t k e q, fun k e q => ?_⟩, (k1.mono fun k _ q => .inr q).trans ks fun k _ q => .inl q, f1.frozenAt 0, (f1.lt bf rfl).2, f1.cellAt 0 (by omega)⟩
  · simp only [Value.ownBlock, Option.some.injEq] at e
    have z : k = bf := q
    exact h.ne (by omega)
  · rcases ha with z | z
    · exact h.ap k (by rw [← z]; exact e) q
    · rw [e] at z
      injection z with z
      have := (World.ownsRow.lt h.rl k q).2
      omega
theorem RnkGat.new (TB TR : TypeId) (w : World) : RnkGat TB TR ((w.alloc (.cells #[.slice none 0 0] TB)).alloc (.cells #[.slice none 0 0] TB)) w.heap.size w.heap.size (w.heap.size + 1) (.slice none 0 0) (.slice none 0 0) [] [] := by
  have e : (w.alloc (.cells #[.slice none 0 0] TB)).heap.size = w.heap.size + 1 := by simp
  have b := box1 (w.alloc (.cells #[.slice none 0 0] TB)) TB (.slice none 0 0)
  rw [e] at b
  exact ⟨(box1 w TB _).alloc _, own_low b (by omega), by omega, ownNd_nil .., ownNd_nil .., fun k h => by simp [Value.ownBlock] at h⟩
/-- rows of another type are kept -/
theorem RnkGat.far {TN : TypeId} {w' : World} {v : Value} {M : List Nd} {B2 : Nat} (h : RnkGat TB TR w B bf bl vf vl F G) (t1 : TB ≠ TN) (t2 : TR ≠ TN) (k : Kp (fun i => (i = bf ∨ vf.ownBlock = some i) ∨ i = bl ∨ vl.ownBlock = some i) w w') (o : OwnNd TN w B2 v M) : OwnNd TN w' B2 v M :=
  own_kp o k fun g e q => by
    rcases q with (q | q) | (q | q)
    · exact gat_ne h.f o t1 g e q
    · rcases own_apart h.rf o t2 with z | z
      · rw [q] at z; cases z
      · exact z (by rw [q, e])
    · exact gat_ne h.l o t1 g e q
    · rcases own_apart h.rl o t2 with z | z
      · rw [q] at z; cases z
      · exact z (by rw [q, e])
theorem RnkGat.low {w' : World} (h : RnkGat TB TR w B bf bl vf vl F G) (hB : B ≤ w.heap.size) (k : Kp (fun i => (i = bf ∨ vf.ownBlock = some i) ∨ i = bl ∨ vl.ownBlock = some i) w w') : Below B w w' :=
  k.below (fun g _ q => by
    rcases q with (q | q) | (q | q)
    · have := (h.f.lt bf rfl).1; omega
    · exact (World.ownsRow.lt h.rf g q).1
    · have := (h.l.lt bl rfl).1; omega
    · exact (World.ownsRow.lt h.rl g q).1) hB
end Go.Proofs.YtelekchdbiimiaaGreat
namespace Go.Proofs.YtelekchdbiimiaaGreat
set_option linter.unusedVariables false
set_option maxRecDepth 100000
open Go.RowKit
abbrev GatA (w : World) (B bf bl : Nat) (vf vl : Value) (F G : List Nd) : Prop := RnkGat 126 129 w B bf bl vf vl F G
set_option maxHeartbeats 3200000 in
theorem rnkOf1_any (f t c : Int) {B bf bl : Nat} {vf vl : Value} {F G : List Nd} (w : World) (h : GatA w B bf bl vf vl F G) (hB : B ≤ w.heap.size) (hF : F.length ≤ 1000) (hG : G.length ≤ 1000) :
    Calls Tryz.prog 61 #[.int .i64 f, .int .i64 t, .int .i64 c, .pointer (some ⟨bf, 0, none⟩), .pointer (some ⟨bl, 0, none⟩)] w fun e w' =>
      e = .returned (.tuple #[]) ∧ ∃ vf' vl', GatA w' B bf bl vf' vl' (F ++ [(f, c)]) (G ++ [(t, c)]) ∧ Kp (fun i => (i = bf ∨ vf.ownBlock = some i) ∨ i = bl ∨ vl.ownBlock = some i) w w' := by
  obtain ⟨i0, hi, hz0, hz1, hz2⟩ := info_parts upto_info
  have GG := Lib.hid h
  obtain ⟨cf, _, zf, _, _, _⟩ := h.cells
  clear h
  go_enter Tryz.func61, Tryz.ntmps61
  go_wp2_with (at_builtin; refine wpList_append_own_at _ rfl _ _ 126 rfl B 129 i0 (.agg #[.int .i64 0, .int .i64 0]) 2 16 Tryz.underlying126 hi hz0 hz1 hz2 rfl (by decide) _ F.length (nods F) rfl (World.ownsRow.alloc GG.out.rf _) ⟨w.heap.size, 0, none⟩ 1 1 [.int .i64 f, .int .i64 c] rfl rfl (two_new _ _ _ _ _ rfl) (two_cell _ _) (by unfold maxLen; omega) (by omega) (by simp; omega) ?_)
  intro v1 w1 hown hgrow _ hat
  obtain ⟨A1, m1, k1, rfl⟩ := ownNd_slice hown
  obtain ⟨hg1, hk1, f1, z1, c1⟩ := GG.out.put (by decide) (ownNd_snoc hown) hgrow hat
  have G1 := Lib.hid hg1
  have K1 := Lib.hid hk1
  obtain ⟨_, _, _, cl, fl, zl⟩ := hg1.cells
  have hBz : B ≤ (w1.setCell ⟨bf, 0, none⟩ (.slice A1 m1 k1)).heap.size := Nat.le_trans hB hk1.size
  clear hown hgrow hat hg1 hk1 cf zf
  go_wp2_with (at_builtin; refine wpList_append_own_at _ rfl _ _ 126 rfl B 129 i0 (.agg #[.int .i64 0, .int .i64 0]) 2 16 Tryz.underlying126 hi hz0 hz1 hz2 rfl (by decide) _ G.length (nods G) rfl (World.ownsRow.alloc G1.out.rl _) ⟨w1.heap.size, 0, none⟩ 1 1 [.int .i64 t, .int .i64 c] rfl rfl (two_new _ _ _ _ _ (by simp)) (two_cell _ _) (by unfold maxLen; omega) (by omega) (by simp at *; omega) ?_)
  intro v2 w2 hown hgrow _ hat
  obtain ⟨A2, m2, k2, rfl⟩ := ownNd_slice hown
  obtain ⟨hg2, hk2, f2, z2, c2⟩ := G1.out.swap.put (by decide) (ownNd_snoc hown) hgrow (by simpa using hat)
  have G2 := Lib.hid hg2.swap
  have K2 := Lib.hid hk2
  clear hown hgrow hat hg2 hk2 cl fl zl
  go_wp2_with fail
  go_end0
  exact ⟨rfl, _, _, G2.out, (K1.out.mono fun i _ h => .inl h).trans K2.out fun i _ h => .inr h⟩
theorem rnkOf_tell {B q p g h : Nat} {kd l k : Int} {n : Nat} {L : List Nd} (w : World) (d : DgA w B q p g h kd l k n L) (hn : n ≤ 400) :
    Calls Tryz.prog 60 #[.pointer (some ⟨q, 0, none⟩), .func (.func 61) #[] #[.pointer (some ⟨w.heap.size, 0, none⟩), .pointer (some ⟨w.heap.size + 1, 0, none⟩)]] ((w.alloc (.cells #[.slice none 0 0] 126)).alloc (.cells #[.slice none 0 0] 126)) fun e w' =>
      e = .returned (.tuple #[]) ∧ (∃ vf vl, GatA w' w.heap.size w.heap.size (w.heap.size + 1) vf vl (mapN (loN l) L) (mapN (hiN l) L)) ∧ Below w.heap.size w w' := by
  have hb0 : Below w.heap.size w ((w.alloc (.cells #[.slice none 0 0] 126)).alloc (.cells #[.slice none 0 0] 126)) := ((Below.refl _ _).alloc (Nat.le_refl _) _).alloc (by simp) _
  have LN : L.length ≤ 400 := by have := d.po.len; omega
  refine (rnkEach_any (F := 61) (caps := #[.pointer (some ⟨w.heap.size, 0, none⟩), .pointer (some ⟨w.heap.size + 1, 0, none⟩)]) (I := fun j v => (∃ vf vl, GatA v w.heap.size w.heap.size (w.heap.size + 1) vf vl (mapN (loN l) (L.take j)) (mapN (hiN l) (L.take j))) ∧ Below w.heap.size w v) _ (d.below hb0) (by omega)
    ⟨enters_of Tryz.func61 (by kernel_rfl) rfl, fun _ _ _ ⟨⟨vf, vl, a⟩, b⟩ hb => ⟨⟨vf, vl, a.below hb⟩, b.trans (hb.mono b.size)⟩, fun j hj v ⟨⟨vf, vl, a⟩, b⟩ => ?_⟩ ⟨⟨_, _, RnkGat.new ..⟩, hb0⟩).mono ?_
  · refine (rnkOf1_any (loN l (L.getD j nz).1) (hiN l (L.getD j nz).1) (L.getD j nz).2 v a b.size (by simp [mapN]; omega) (by simp [mapN]; omega)).mono ?_
    rintro e v' ⟨rfl, vf', vl', h1, h2⟩
    refine ⟨rfl, ⟨⟨vf', vl', ?_⟩, b.trans (a.low b.size h2)⟩, h2.size, fun u M o => a.far (by decide) (by decide) h2 o⟩
    rw [mapN_take _ _ hj, mapN_take _ _ hj]; exact h1
  · rintro e v' ⟨rfl, ⟨vf, vl, a⟩, b⟩
    rw [List.take_length] at a
    exact ⟨rfl, ⟨vf, vl, a⟩, b⟩
/-- a table in memory -/
def rnkTB (w : World) (B t : Nat) (l : Int) (L : List Nd) : Prop :=
  RollC l L ∧ L.length ≤ 400 ∧ ∃ vl vh SL SH, w.ownsRow B 133 2 (.slice (some ⟨t, 0, none⟩) 1 1) 1 [vl, vh] ∧ OwnNd 129 w B vl SL ∧ OwnNd 129 w B vh SH ∧ SumI (mapN (hiN l) L) SL ∧ SumI (mapN (loN l) L) SH
theorem rnkTB_kp {w w' : World} {B t : Nat} {l : Int} {L : List Nd} {F : Nat → Prop} (h : rnkTB w B t l L) (k : Kp F w w') (f : ∀ i, F i → i < B) : rnkTB w' B t l L := by
  obtain ⟨r, n, vl, vh, SL, SH, a, b, c, x, y⟩ := h
  exact ⟨r, n, vl, vh, SL, SH, own_kp a k fun g e q => by (have := (a.lt g e).1; have := f g q; omega), own_kp b k fun g e q => by (have := (World.ownsRow.lt b g e).1; have := f g q; omega), own_kp c k fun g e q => by (have := (World.ownsRow.lt c g e).1; have := f g q; omega), x, y⟩
theorem rnkTB_below {w w' : World} {B t : Nat} {l : Int} {L : List Nd} (h : rnkTB w B t l L) (hb : Below w.heap.size w w') : rnkTB w' B t l L :=
  rnkTB_kp (F := fun _ => False) h (Kp.of hb) fun i q => q.elim
theorem rnk_map {l : Int} {L : List Nd} (r : RollC l L) (f : Int → Int) (hf : ∀ n ∈ L, 0 ≤ f n.1 ∧ f n.1 ≤ 9223372036854775807) : (∀ n ∈ mapN f L, 1 ≤ n.2) ∧ NBds (mapN f L) ∧ sumC (mapN f L) ≤ 72057594037927935 ∧ (mapN f L).length = L.length := by
  refine ⟨map_pos (roll_pos r), fun n hn => ?_, by rw [map_tot]; exact r.2.2.2.2, by unfold mapN; rw [List.length_map]⟩
  obtain ⟨m, hm, e⟩ := List.mem_map.1 (show n ∈ L.map fun n => (f n.1, n.2) from hn)
  subst e
  have b := (nbds_roll r m hm).2
  have := hf m hm
  exact ⟨by show _ ≤ f m.1 ∧ f m.1 ≤ _; omega, b⟩
theorem rnk_ends {l : Int} {L : List Nd} (r : RollC l L) : (∀ n ∈ L, 0 ≤ loN l n.1 ∧ loN l n.1 ≤ 9223372036854775807) ∧ (∀ n ∈ L, 0 ≤ hiN l n.1 ∧ hiN l n.1 ≤ 9223372036854775807) := by
  have u : 1 ≤ l ∧ l ≤ 48 := of_decide_eq_true r.1
  have p : (2 : Int) ^ l.toNat ≤ 281474976710656 := by
    have q : (2 : Nat) ^ l.toNat ≤ 2 ^ 48 := Nat.pow_le_pow_right (by omega) (by omega)
    have e : (2 : Int) ^ l.toNat = ((2 ^ l.toNat : Nat) : Int) := by rw [Int.natCast_pow]; rfl
    rw [e]; omega
  exact ⟨fun n hn => by have := node_ends r hn; omega, fun n hn => by have := node_ends r hn; omega⟩
theorem rnkOf_fin {w w3 v1 v2 : World} {Af Al A1 A2 : Option Addr} {mf cf ml cl m1 k1 m2 k2 : Nat} {l : Int} {L F G S1 S2 : List Nd} (r : RollC l L) (ln : L.length ≤ 400) (gg : GatA w3 w.heap.size w.heap.size (w.heap.size + 1) (.slice Af mf cf) (.slice Al ml cl) F G) (b3 : Below w.heap.size w w3)
    (ho1 : OwnNd 129 v1 w3.drew.heap.size (.slice A1 m1 k1) S1) (hs1 : SumI (mapN (hiN l) L) S1) (hk1 : Kp (fun i => (Value.slice Al ml cl).ownBlock = some i) w3.drew v1) (ho2 : OwnNd 129 v2 v1.heap.size (.slice A2 m2 k2) S2) (hs2 : SumI (mapN (loN l) L) S2) (hk2 : Kp (fun i => (Value.slice Af mf cf).ownBlock = some i) v1 v2) :
    rnkTB (v2.alloc (.cells #[.slice A1 m1 k1, .slice A2 m2 k2] 133)) w.heap.size v2.heap.size l L ∧ Below w.heap.size w (v2.alloc (.cells #[.slice A1 m1 k1, .slice A2 m2 k2] 133)) := by
  have s3 := b3.size
  have z1 : w3.heap.size ≤ v1.heap.size := hk1.size
  have z2 := hk2.size
  have zf := fun i e => World.ownsRow.lt gg.rf i e
  have zl := fun i e => World.ownsRow.lt gg.rl i e
  have o1 : OwnNd 129 v2 w3.drew.heap.size (.slice A1 m1 k1) S1 := own_kp ho1 hk2 fun i e q => by
    have a := (World.ownsRow.lt ho1 i e).1
    have b := (zf i q).2
    have c : w3.drew.heap.size = w3.heap.size := rfl
    omega
  have bb : Below w.heap.size w v2 := ((b3.trans ((below_drew w3).mono s3)).trans (hk1.below (fun i _ q => (zl i q).1) s3)).trans (hk2.below (fun i _ q => (zf i q).1) (by omega))
  exact ⟨⟨r, ln, _, _, S1, S2, own_low (box2 ..) bb.size, own_low (World.ownsRow.alloc o1 _) s3, own_low (World.ownsRow.alloc ho2 _) (by omega), hs1, hs2⟩, bb.alloc bb.size _⟩
set_option maxHeartbeats 6400000 in
theorem rnkOf_any {B q p g h : Nat} {kd l k : Int} {n : Nat} {L : List Nd} (w : World) (d : DgA w B q p g h kd l k n L) (hn : n ≤ 400) :
    Calls Tryz.prog 30 #[.pointer (some ⟨q, 0, none⟩)] w fun e w' => (∃ t, e = .returned (.pointer (some ⟨t, 0, none⟩)) ∧ rnkTB w' w.heap.size t l L) ∧ Below w.heap.size w w' := by
  have PN : ∀ w, (binOp .eql 27 (.pointer (some ⟨q, 0, none⟩)) (.pointer none)).run Tryz.prog w = .ok (.bool false) w := fun _ => by kernel_rfl
  have TE := Lib.hid (rnkOf_tell w d hn)
  have RO := Lib.hid d.v.roll
  have LN := Lib.hid (show L.length ≤ 400 by have := d.po.len; omega)
  have ML := Lib.hid (rnk_map d.v.roll (loN l) (rnk_ends d.v.roll).1)
  have MH := Lib.hid (rnk_map d.v.roll (hiN l) (rnk_ends d.v.roll).2)
  clear d
  go_enter Tryz.func30, Tryz.ntmps30
  go_wp2_with fail
  refine TE.out.mono ?_
  rintro e w3 ⟨rfl, ⟨vf, vl, hG⟩, hb3⟩
  have GG := Lib.hid hG
  have B3 := Lib.hid hb3
  have S3 := Lib.hid hb3.size
  obtain ⟨Af, mf, cf, rfl⟩ := ownNd_slice hG.rf
  obtain ⟨Al, ml, cl, rfl⟩ := ownNd_slice hG.rl
  obtain ⟨c0, _, z0, c1, _, z1⟩ := hG.cells
  clear hG hb3 TE
  have AD1 := Lib.hid (fun v (hb : Below w3.heap.size w3 v) => rnkAdded_any v (own_below GG.out.rl hb) MH.out.1 MH.out.2.1 MH.out.2.2.1 (by have := MH.out.2.2.2; have := LN.out; omega))
  have AD2 := Lib.hid (fun v v1 (hb : Below w3.heap.size w3 v) (hk : Kp (fun i => (Value.slice Al ml cl).ownBlock = some i) v v1) => rnkAdded_any v1 (own_kp (own_below GG.out.rf hb) hk fun i e q => GG.out.ap i e q) ML.out.1 ML.out.2.1 ML.out.2.2.1 (by have := ML.out.2.2.2; have := LN.out; omega))
  have KC := Lib.hid (fun v v1 (hb : Below w3.heap.size w3 v) (hk : Kp (fun i => (Value.slice Al ml cl).ownBlock = some i) v v1) => ((own_kp (own_below GG.out.f hb) hk fun g e q => gat_ne GG.out.f GG.out.rl (by decide) g q (by simp [Value.ownBlock] at e; exact e.symm)).cellAt 0 (by omega) : v1.cell? ⟨w.heap.size, 0, none⟩ = some (.slice Af mf cf)))
  go_wp2_with fail
  go_region_with (first
    | (go_at_call 62; (with_reducible refine (AD1.out _ (below_drew _)).mono ?_); rintro e v1 ⟨A1, m1, k1, S1, rfl, ho1, hs1, hl1, hk1⟩; have c0' := KC.out _ _ (below_drew _) hk1)
    | (go_at_call 62; (with_reducible refine (AD2.out _ _ (below_drew _) hk1).mono ?_); rintro e v2 ⟨A2, m2, k2, S2, rfl, ho2, hs2, hl2, hk2⟩))
  all_goals have FN := Lib.hid (rnkOf_fin RO.out LN.out GG.out B3.out ho1 hs1 hk1 ho2 hs2 hk2)
  all_goals clear ho1 hs1 hl1 hk1 ho2 hs2 hl2 hk2 c0'
  all_goals go_wp2_with fail
  all_goals go_ret
  all_goals exact ⟨⟨_, rfl, FN.out.1⟩, FN.out.2⟩
theorem rnkTB_two {w : World} {B t : Nat} {l : Int} {L : List Nd} (h : rnkTB w B t l L) : ∃ A m c A2 m2 c2 SL SH, w.cell? ⟨t, 0, none⟩ = some (.slice A m c) ∧ w.cell? ⟨t, 1, none⟩ = some (.slice A2 m2 c2) ∧ t < w.heap.size ∧ NodesAt w (.slice A m c) SL ∧ NodesAt w (.slice A2 m2 c2) SH ∧ m ≤ 1000000 ∧ m2 ≤ 1000000 ∧ Good SL ∧ Good SH ∧
    (∀ y, rkAt SL y = lowR l L y) ∧ (∀ y, rkAt SH y = highR l L y) ∧ SL.map (fun n => n.1) = stepsN l L ∧ SL.length ≤ 400 := by
  obtain ⟨r, n, vl, vh, SL, SH, a, b, c, x, y⟩ := h
  obtain ⟨A, m, c1, rfl⟩ := ownNd_slice b
  obtain ⟨A2, m2, c2, rfl⟩ := ownNd_slice c
  have pl := (rnk_map r (hiN l) (rnk_ends r).2)
  have ph := (rnk_map r (loN l) (rnk_ends r).1)
  have ll := x.len
  have lh := y.len
  have e1 := (nodes_cells (ownNd_nodes b)).1
  have e2 := (nodes_cells (ownNd_nodes c)).1
  exact ⟨A, m, c1, A2, m2, c2, SL, SH, a.cellAt 0 (by omega), a.cellAt 1 (by omega), (a.lt t rfl).2, ownNd_nodes b, ownNd_nodes c, by omega, by omega, x.good pl.1, y.good ph.1, fun z => (x.at pl.1 z).trans (low_up l L z).symm, fun z => (y.at ph.1 z).trans (high_up l L z).symm, x.steps, by omega⟩
theorem rnkTLow_any {B t : Nat} {l : Int} {L : List Nd} (x : Int) (w : World) (h : rnkTB w B t l L) :
    Calls Tryz.prog 112 #[.pointer (some ⟨t, 0, none⟩), .int .i64 x] w fun e w' => e = .returned (.int .i64 (lowR l L x)) ∧ Below w.heap.size w w' := by
  obtain ⟨A, m, c, A2, m2, c2, SL, SH, c0, c1, tz, n1, n2, b1, b2, g1, g2, r1, r2, _, _⟩ := rnkTB_two h
  have AT := Lib.hid (rnkAt_any x w n1 g1 b1)
  rw [r1] at AT
  clear h n1 n2 g1 g2 r1 r2
  go_enter Tryz.func112, Tryz.ntmps112
  go_wp2_with (go_at_call 161; refine AT.out.mono ?_; rintro e w1 ⟨rfl, hb⟩)
  go_ret
  exact ⟨rfl, hb⟩
theorem rnkTHigh_any {B t : Nat} {l : Int} {L : List Nd} (x : Int) (w : World) (h : rnkTB w B t l L) :
    Calls Tryz.prog 113 #[.pointer (some ⟨t, 0, none⟩), .int .i64 x] w fun e w' => e = .returned (.int .i64 (highR l L x)) ∧ Below w.heap.size w w' := by
  obtain ⟨A, m, c, A2, m2, c2, SL, SH, c0, c1, tz, n1, n2, b1, b2, g1, g2, r1, r2, _, _⟩ := rnkTB_two h
  have AT := Lib.hid (rnkAt_any x w n2 g2 b2)
  rw [r2] at AT
  clear h n1 n2 g1 g2 r1 r2
  go_enter Tryz.func113, Tryz.ntmps113
  go_wp2_with (go_at_call 161; refine AT.out.mono ?_; rintro e w1 ⟨rfl, hb⟩)
  go_ret
  exact ⟨rfl, hb⟩
theorem rnkTN_any {B t : Nat} {l : Int} {L : List Nd} (w : World) (h : rnkTB w B t l L) :
    Calls Tryz.prog 68 #[.pointer (some ⟨t, 0, none⟩)] w fun e w' => e = .returned (.int .i64 (sumC L)) ∧ Below w.heap.size w w' := by
  have e : lowR l L 9223372036854775807 = sumC L := (rank_last h.1 (by
    have u : 1 ≤ l ∧ l ≤ 48 := of_decide_eq_true h.1.1
    have q : (2 : Nat) ^ l.toNat ≤ 2 ^ 48 := Nat.pow_le_pow_right (by omega) (by omega)
    have e : (2 : Int) ^ l.toNat = ((2 ^ l.toNat : Nat) : Int) := by rw [Int.natCast_pow]; rfl
    rw [e]; omega)).1
  have AT := Lib.hid (rnkTLow_any 9223372036854775807 w h)
  rw [e] at AT
  clear h e
  go_enter Tryz.func68, Tryz.ntmps68
  go_wp2_with (go_at_call 112; refine AT.out.mono ?_; rintro e w1 ⟨rfl, hb⟩)
  go_ret
  exact ⟨rfl, hb⟩
set_option maxHeartbeats 1600000 in
theorem rnkTBoth_core (pv : Option Addr) (x a b : Int) (w : World) (CL : ∀ v, Below w.heap.size w v → Calls Tryz.prog 112 #[.pointer pv, .int .i64 x] v fun e w' => e = .returned (.int .i64 a) ∧ Below v.heap.size v w')
    (CH : ∀ v, Below w.heap.size w v → Calls Tryz.prog 113 #[.pointer pv, .int .i64 x] v fun e w' => e = .returned (.int .i64 b) ∧ Below v.heap.size v w') :
    Calls Tryz.prog 67 #[.pointer pv, .int .i64 x] w fun e w' => e = .returned (.agg #[.int .i64 a, .int .i64 b]) ∧ Below w.heap.size w w' := by
  have B0 : Hid (Below w.heap.size w (w.alloc (.cells #[.int .i64 0, .int .i64 0] 46))) := below_one _ _
  have X := Lib.hid (box2 w 46 (.int .i64 0) (.int .i64 0))
  have HL := Lib.hid CL
  have HH := Lib.hid CH
  clear CL CH
  go_enter Tryz.func67, Tryz.ntmps67
  go_wp2_with fail
  generalize w.alloc (.cells #[.int .i64 0, .int .i64 0] 46) = W at *
  refine (HL.out _ B0.out).mono ?_
  rintro e w1 ⟨rfl, hb1⟩
  have B1 := Lib.hid (B0.out.trans (hb1.mono B0.out.size))
  have X1 := Lib.hid (own_below X.out hb1)
  clear hb1
  go_wp2_with fail
  refine (HH.out _ B1.out).mono ?_
  rintro e w2 ⟨rfl, hb2⟩
  have X2 := Lib.hid (own_below X1.out hb2)
  obtain ⟨y0, y1, f0, f1, hz2⟩ := box_cells X2.out
  obtain ⟨q0, q1, _, _, _⟩ := box_cells (box_set X2.out (.int .i64 a) (.int .i64 b)).1
  have BB := Lib.hid ((B1.out.trans (hb2.mono B1.out.size)).trans (box_set X2.out (.int .i64 a) (.int .i64 b)).2.2.1)
  clear hb2
  go_wp2_with fail
  exact bodyPost_ret (v := .agg #[.int .i64 a, .int .i64 b]) (by simp [results, Tryz.results67, go_sem, q0, q1]) rfl ⟨rfl, BB.out⟩
theorem rnkTBoth_any {B t : Nat} {l : Int} {L : List Nd} (x : Int) (w : World) (h : rnkTB w B t l L) :
    Calls Tryz.prog 67 #[.pointer (some ⟨t, 0, none⟩), .int .i64 x] w fun e w' => e = .returned (.agg #[.int .i64 (lowR l L x), .int .i64 (highR l L x)]) ∧ Below w.heap.size w w' :=
  rnkTBoth_core _ x _ _ w (fun v hb => rnkTLow_any x v (rnkTB_below h hb)) (fun v hb => rnkTHigh_any x v (rnkTB_below h hb))
end Go.Proofs.YtelekchdbiimiaaGreat
