/- The project's package rank: values put in order. -/
import Derived.Test.YtfmgcabgbnfjlaaGreatRnQ
import Derived.Test.YtfmgcabgbnfjlaaGreatMmy
import Derived.Test.YtfmgcabgbnfjlaaGreatKeep
import Derived.Test.YtfmgcabgbnfjlaaGreatSort
namespace Go.Proofs.YtfmgcabgbnfjlaaGreat
set_option linter.unusedVariables false
set_option maxRecDepth 100000
open Go.RowKit Go.Sort Go.Lib Go.Shelf

/-- a value and its weight, as they lie in a row -/
def encU (p : Nd) : List Value := [.int .i64 p.1, .int .i64 p.2]
def upC (p q : Nd) : Int := Lib.compareInt p.1 q.1
theorem upC_lt (p q : Nd) : ltOf upC p q = decide (p.1 < q.1) := by
  unfold ltOf upC Lib.compareInt
  by_cases h1 : p.1 < q.1
  · simp [h1]
  · by_cases h2 : q.1 < p.1 <;> simp [h1, h2]
theorem up_swo : SWO (ltOf upC) where
  irrefl x := by rw [upC_lt]; simp
  trans x y z h1 h2 := by rw [upC_lt] at *; simp at *; omega
  ntrans x y z h1 h2 := by rw [upC_lt] at *; simp at *; omega
theorem up_holds {e : TypeId} {w : World} {B g cap : Nat} {T : List Nd} (h : OwnNd e w B (.slice (some ⟨g, 0, none⟩) T.length cap) T) : HoldsK encU 2 w g 0 T.toArray := by
  intro t ht
  rw [size_flatK] at ht
  simp at ht
  have e1 : t = t / 2 * 2 + t % 2 := by omega
  have hj : t / 2 < T.length := by omega
  refine ⟨?_, ?_⟩
  · rw [Nat.zero_add, World.ownsRow.cellAt h t ht, get_flatK _ _ _ _ (by simpa using ht)]
    have q := nods_get T (t / 2) hj
    have e2 : T.toArray[t / 2]! = T.getD (t / 2) nz := by
      rw [getElem!_pos _ _ (by simpa using hj)]; simp [List.getD_eq_getElem?_getD, List.getElem?_eq_getElem hj]
    rw [e2]
    rcases (show t % 2 = 0 ∨ t % 2 = 1 by omega) with z | z
    · have e3 : t / 2 * 2 = t := by omega
      rw [e3] at q
      rw [q.1, z]; rfl
    · have e3 : t / 2 * 2 + 1 = t := by omega
      rw [e3] at q
      rw [q.2, z]; rfl
  · exact World.ownsRow.frozenAt h _
theorem holds_nds {w : World} {g : Nat} {d : Array Nd} (h : HoldsK encU 2 w g 0 d) (hg : g < w.heap.size) : NdIn w g 0 d.toList := by
  refine ⟨hg, fun k hk => ?_⟩
  have hk' : k < d.size := by simpa using hk
  have e : d[k]! = d.toList.getD k nz := by rw [getElem!_pos d k hk']; simp [List.getD_eq_getElem?_getD, hk']
  have c0 := (HoldsK.cell h hk' (c := 0) (by omega)).1
  have c1 := (HoldsK.cell h hk' (c := 1) (by omega)).1
  rw [e] at c0 c1
  exact ⟨c0, c1⟩
theorem kp_sort {α : Type} [Inhabited α] {enc : α → List Value} {k : Nat} {w : World} {blk off n : Nat} {d : Array α} {os : Array Obj} : Kp (fun i => some i = some blk) w (sortWorldK enc k w blk off n d os) := by
  refine ⟨rfl, rfl, rfl, ?_, fun i hi hf => ?_⟩
  · simp [sortWorldK, grow, putRowK, putRow, mapBlock]
  · show ((w.heap.modify blk _) ++ os)[i]? = _
    rw [Array.getElem?_append_left (by simp; omega), Array.getElem?_modify, if_neg (fun e => hf (by rw [e]))]
theorem up_sorted {d d' : Array Nd} (hp : PermIn 0 d.size d d') (hs : SortedIn (ltOf upC) 0 d.size d') : d'.toList.Perm d.toList ∧ d'.toList.Pairwise (fun a b => a.1 ≤ b.1) := by
  have e1 : d'.extract 0 d.size = d' := by rw [← hp.1]; simp
  have e2 : d.extract 0 d.size = d := by simp
  have := hp.2.2
  rw [e1, e2] at this
  refine ⟨this, ?_⟩
  rw [List.pairwise_iff_getElem]
  intro i j hi hj hij
  have h := hs i j (Nat.zero_le _) hij (by rw [← hp.1]; simpa using hj)
  rw [upC_lt, getElem!_pos d' i (by simpa using hi), getElem!_pos d' j (by simpa using hj)] at h
  simp at h
  simpa using h
theorem grown_two (W : World) (x y : Obj) : ∃ q os', ((W.alloc x).alloc y) = grow (W.drewN q) os' :=
  ⟨0, #[x, y], by rw [alloc_eq_grow, alloc_eq_grow]; exact grow_grow (W.drewN 0) _ _⟩
/-- sorted values in a row that is read -/
def RnkOrd (v : Value) (T : List Nd) (w : World) (e : Ending) (w' : World) : Prop :=
  e = .returned (.tuple #[]) ∧ ∃ T' : List Nd, T'.Perm T ∧ T'.Pairwise (fun a b => a.1 ≤ b.1) ∧ NodesAt w' v T' ∧ Kp (fun k => v.ownBlock = some k) w w'
theorem upCmp0 (x y : Int) (w : World) : Calls Tryz.prog 51 #[.int .i64 x, .int .i64 y] w fun e w' => e = .returned (.int .i64 (Lib.compareInt x y)) ∧ w = w' := by
  have h := AnyG.cmp_Compare_int Tryz.cmpInt x y w
  change Calls Tryz.prog 51 _ _ _ at h
  exact h.mono fun _ _ ⟨a, b⟩ => ⟨a, b.symm⟩
theorem upCmp_any (a b c d : Int) (W : World) :
    Calls Tryz.prog 50 #[.agg #[.int .i64 a, .int .i64 b], .agg #[.int .i64 c, .int .i64 d]] W fun e w' => e = .returned (.int .i64 (Lib.compareInt a c)) ∧ ∃ q os', w' = grow (W.drewN q) os' := by
  have G := Lib.hid (grown_two W (.cells #[.int .i64 a, .int .i64 b] 75) (.cells #[.int .i64 c, .int .i64 d] 75))
  go_enter Tryz.func50, Tryz.ntmps50
  go_wp2_with (go_at_call 51; refine (upCmp0 _ _ _).mono ?_; rintro e w1 ⟨rfl, rfl⟩)
  go_ret
  exact ⟨rfl, G.out⟩
theorem upIns_nil (fv : Value) (w : World) : Calls Tryz.prog 118 #[.slice none 0 0, .int .i64 0, .int .i64 0, fv] w fun e w' => e = .returned (.tuple #[]) ∧ w = w' := by
  go_enter Tryz.func118, Tryz.ntmps118
  go_wp2_with fail
  refine wp_loop_rounds 1 ?_
  rw [rounds_succ]
  go_wp2_with fail
  go_end0
  exact ⟨rfl, rfl⟩
theorem upPdq_nil (lim : Int) (fv : Value) (w : World) : Calls Tryz.prog 83 #[.slice none 0 0, .int .i64 0, .int .i64 0, .int .i64 lim, fv] w fun e w' => e = .returned (.tuple #[]) ∧ w = w' := by
  go_enter Tryz.func83, Tryz.ntmps83
  go_wp2_with fail
  refine wp_loop_rounds 1 ?_
  rw [rounds_succ]
  go_wp2_with (go_at_call 118; refine (upIns_nil _ _).mono ?_; rintro e w' ⟨rfl, rfl⟩)
  (try simp only [Exit.inBlock, Exit.then]); refine bodyPost_ret (results_none rfl _ _ _) rfl ?_
  exact ⟨rfl, rfl⟩
theorem upLen_any (n : Nat) (w : World) (h : n ≤ 1000) : Calls Tryz.prog 84 #[.int .u64 (n : Int)] w fun e w' => e = .returned (.int .i64 (Lib.bitLen n : Nat)) ∧ w = w' := by
  have q := Tryz.bits_Len (n : Int) w (by omega) (by omega)
  rw [Int.toNat_natCast] at q
  exact q.mono fun _ _ ⟨a, b⟩ => ⟨a, b.symm⟩
theorem upSort_nil (fv : Value) (w : World) : Calls Tryz.prog 49 #[.slice none 0 0, fv] w fun e w' => e = .returned (.tuple #[]) ∧ w = w' := by
  have LN := Lib.hid (fun w => upLen_any 0 w (by omega))
  go_enter Tryz.func49, Tryz.ntmps49
  go_wp2_with (first | (go_at_call 84; refine (LN.out _).mono ?_; rintro e w' ⟨rfl, rfl⟩) | (go_at_call 83; refine (upPdq_nil _ _ _).mono ?_; rintro e w' ⟨rfl, rfl⟩))
  go_end0
  exact ⟨rfl, rfl⟩
set_option maxHeartbeats 1600000 in
theorem upSort_row {g cap : Nat} {d : Array Nd} (w : World) (hH : HoldsK encU 2 w g 0 d) (hg : g < w.heap.size) (hl : d.size ≤ 1000) :
    Calls Tryz.prog 49 #[.slice (some ⟨g, 0, none⟩) d.size cap, .func (.func 50) #[] #[]] w fun e w' => e = .returned (.tuple #[]) ∧ ∃ d' n os, PermIn 0 d.size d d' ∧ SortedIn (ltOf upC) 0 d.size d' ∧ w' = sortWorldK encU 2 w g 0 n d' os := by
  have eg : ∀ args w, (callFunc 50 args).run Tryz.prog w = .ok (.enter 50 args) w := enters_of Tryz.func50 (by kernel_rfl) rfl
  have LN := Lib.hid (fun w => upLen_any d.size w hl)
  have hlim : Lib.bitLen d.size < 4611686018427387904 := Nat.lt_of_le_of_lt (Lib.bitLen_le d.size 62 (by omega) (by omega)) (by omega)
  have PD := Lib.hid (AnyQ.pdqsortCmpFunc_all Tryz.sortUp 2 Tryz.isAgg75 Tryz.sizeOf75 encU upC 50 #[] up_swo g 0 cap d w eg (fun _ _ _ _ x y => upCmp_any x.1 x.2 y.1 y.2 _) ⟨fun _ => rfl, fun x v hv => by simp [encU] at hv; rcases hv with rfl | rfl <;> rfl, hH, hg⟩ (d.size + 1) 0 d.size (Lib.bitLen d.size) d w (by omega) rfl (SWK.start hH) (Nat.zero_le _) (Nat.le_refl _) (by omega) hlim (Or.inl rfl))
  have PS := Lib.hid (pdq_sorts (ltOf upC) up_swo d 0 d.size (Lib.bitLen d.size) true true (Nat.zero_le _) (Nat.le_refl _) (Or.inl rfl))
  have wr : IntKind.u64.wrap (d.size : Int) = d.size := by simp [IntKind.wrap, IntKind.bits, IntKind.signed]; omega
  clear hH
  generalize pdq (ltOf upC) d 0 d.size (Lib.bitLen d.size) true true = d' at *
  generalize hm : d.size = m at *
  go_enter Tryz.func49, Tryz.ntmps49
  go_wp2_with (first | (go_at_call 84; refine (LN.out _).mono ?_; rintro e w' ⟨rfl, rfl⟩) | (go_at_call 83; refine PD.out.mono ?_; rintro e w' ⟨rfl, n, os, hw⟩))
  go_end0
  exact ⟨rfl, d', n, os, PS.out.1, PS.out.2, rfl⟩
theorem rnkSort_any {B : Nat} {v : Value} {T : List Nd} (w : World) (o : OwnNd 75 w B v T) (hl : T.length ≤ 1000) :
    Calls Tryz.prog 49 #[v, .func (.func 50) #[] #[]] w (RnkOrd v T w) := by
  rcases ownNd_form o with ⟨rfl, rfl⟩ | ⟨g, cap, rfl, hB, hg, hn, hc, hin⟩
  · exact (upSort_nil _ w).mono fun e w' ⟨a, b⟩ => by subst b; exact ⟨a, [], .refl _, .nil, nodes_nil _, Kp.refl _ _⟩
  · refine (upSort_row (cap := cap) (d := T.toArray) w (up_holds o) hg (by simpa using hl)).mono ?_
    rintro e w' ⟨rfl, d', n, os, hp, hs, rfl⟩
    obtain ⟨p, q⟩ := up_sorted hp hs
    have hlen : d'.toList.length = T.length := by have := p.length_eq; simpa using this
    have HH := holdsK_sortWorldK encU 2 w g 0 n T.toArray d' os hg (up_holds o) hp.1
    have LT := lt_sortWorldK encU 2 w g 0 n d' os hg
    refine ⟨rfl, d'.toList, by simpa using p, q, ⟨_, cap, by rw [hlen], by rw [hlen]; exact hn, hc, fun e => (by cases e), fun _ => ⟨g, 0, rfl, holds_nds HH LT⟩⟩, ?_⟩
    exact kp_sort.mono fun k _ e => by injection e with e; rw [e]; rfl

end Go.Proofs.YtfmgcabgbnfjlaaGreat
