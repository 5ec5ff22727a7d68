/- Texts laid together: RdSl, Copy2, BgMem, Bg, Bg2, Bg3, Bg4. -/
import Derived.Test.YtkoefclkpdpdpaaGreatMmy
import Derived.Test.YtkoefclkpdpdpaaGreatPln
import Derived.Test.YtkoefclkpdpdpaaGreatRkT
import Derived.Lib.SliceRun
import Derived.Lib.AppendZeros
import Derived.Laws.AppendOwnNone
import Derived.Laws.StructEq
import Derived.Deep.QuietTactic
import Derived.BigQuiet
import Derived.Deep.RegionHeld3
import Derived.Deep.RegionWith
import Derived.Deep.DrawnRows
import Derived.WalkSpells
import Derived.StillTactics
import Derived.Test.YtkoefclkpdpdpaaGreatPoQ
import Derived.Test.YtkoefclkpdpdpaaGreatDgN
/- The library's slices.Equal, slices.Grow and slices.Concat at readings: as at nodes (made of those texts by exchange of names). -/
namespace Go.Proofs.YtkoefclkpdpdpaaGreat
set_option linter.unusedVariables false
open Go.RowKit
attribute [local go_sem ↓] Go.wp_at_zero Go.wp_at_succ

theorem read_info : (Tryz.prog.info? 72).map (fun i => (i.zero, i.size, i.bytes)) = some (some (.agg #[.int .i64 0, .int .i64 0]), 2, 16) := by kernel_rfl
def RdOwn (S : List Nd) (w : World) (e : Ending) (w' : World) : Prop := ∃ v, e = .returned v ∧ OwnNd 72 w' w.heap.size v S ∧ Below w.heap.size w w'
def RdSPost (S : List Nd) (w : World) (e : Ending) (w' : World) : Prop := ∃ v, e = .returned v ∧ NodesAt w' v S ∧ Below w.heap.size w w'
theorem run_neq_reads (i1 x1 i2 x2 : Int) (w : World) : (binOp .neq 72 (.agg #[.int .i64 i1, .int .i64 x1]) (.agg #[.int .i64 i2, .int .i64 x2])).run Tryz.prog w = .ok (.bool (!(i1 == i2 && x1 == x2))) w := by
  have i3 := fun (a b : Int) (w : World) => run_equalIn_int (P := Tryz.prog) w 9998 3 .i64 .i64 a b Tryz.underlying3
  rw [run_neq_struct, run_equalIn_agg _ _ _ _ _ (by kernel_rfl) (by kernel_rfl)]
  unfold Program.fieldsOf
  rw [Tryz.underlying72]
  have p0 : ∀ (a b : Value) w, (part 3 #[a, b] 0).run Tryz.prog w = .ok a w := fun _ _ _ => by kernel_rfl
  have p1 : ∀ (a b : Value) w, (part 3 #[a, b] 1).run Tryz.prog w = .ok b w := fun _ _ _ => by kernel_rfl
  simp only [Op.eqFields, Sem.run_bind, Sem.run_ite, p0, p1, Result.andThen_ok, i3]
  by_cases h1 : i1 = i2 <;> by_cases h2 : x1 = x2 <;> simp [h1, h2, Result.andThen]
def RSame (L M : List Nd) (w : World) (e : Ending) (w' : World) : Prop := e = .returned (.bool (sameB L M)) ∧ ∃ q, w' = w.drewN q
theorem rsame_post {L M : List Nd} {b : Bool} {w w' : World} (h : sameB L M = b) (hb : ∃ q, w' = w.drewN q) : RSame L M w (.returned (.bool b)) w' := by
  subst h
  exact ⟨rfl, hb⟩
end Go.Proofs.YtkoefclkpdpdpaaGreat

/- copy of elements of several cells each into a part of a row that the call itself made; copy of none. No program is spoken of here. -/
namespace Go.Proofs.YtkoefclkpdpdpaaGreat
set_option linter.unusedVariables false
open Go.RowKit

theorem run_copy_zero (P : Program) (w : World) (dT sT ty elem : TypeId) (d a : Option Addr) (dLen dCap sLen sCap sz : Nat) (hu : P.underlying dT = some (.slice elem)) (hs : (P.info? elem).map (·.size) = some sz) (hn : Nat.min sLen dLen = 0) :
    (Builtin.copy_ #[dT, sT] ty #[.slice d dLen dCap, .slice a sLen sCap]).run P w = .ok (goInt 0) w := by
  cases hq : P.info? elem with
  | none => simp [hq] at hs
  | some i =>
    have hl : ∀ (x : Addr), (loadCells x 0).run P w = .ok #[] w := fun x => by simpa using run_loadCells_list (P := P) w x [] (by simp)
    cases d <;> cases a <;> simp [Builtin.copy_, run_underlying hu, Builtin.lenOf, Builtin.firstCells, sizeOf, typeInfo, hq, hn, storeCells, hl]
theorem wpList_copy_zero {P : Program} {w : World} {ops : Array Oper} {rest : List Oper} {o : Oper} {a : Act} {Q : Exit → Act → World → Prop} (hgd : o.guard = none) (d s : Operand) (dT sT : TypeId)
    (ho : o.op = .call { callee := .builtin .copy, args := #[d, s], argTypes := #[dT, sT] }) (elem : TypeId) (sz : Nat) (hu : P.underlying dT = some (.slice elem)) (hsz : (P.info? elem).map (·.size) = some sz)
    (dp sp : Option Addr) (dLen dCap sLen sCap : Nat) (hd : a.eval d = .slice dp dLen dCap) (hs : a.eval s = .slice sp sLen sCap) (hn : Nat.min sLen dLen = 0)
    (h : wpList P ops Q rest (a.put o.dst (goInt 0)) w) : wpList P ops Q (o :: rest) a w := by
  refine wpList_plain hgd fun K hK => ?_
  have hrun := run_copy_zero P w dT sT o.type elem dp sp dLen dCap sLen sCap sz hu hsz hn
  unfold Oper.wp
  simp [execOp, ho, resolve, invoke, builtin, hd, hs, hrun, Result.andThen]
  exact hK _ _ h
theorem run_copy_into (P : Program) (w : World) (dT sT ty elem : TypeId) (g off dLen dCap sLen sCap m sz : Nat) (a : Addr) (cur : Array Value) (t : TypeId) (cs : List Value)
    (hu : P.underlying dT = some (.slice elem)) (hs : (P.info? elem).map (·.size) = some sz)
    (hg : w.heap[g]? = some (.cells cur t (0, 0))) (hm : Nat.min sLen dLen = m) (hn : cs.length = m * sz)
    (hsrc : ∀ j v, cs[j]? = some v → w.cell? (a.add j) = some v) (hfit : off + cs.length ≤ cur.size) (h1 : ∀ v ∈ cs, v.oneCell' = true) :
    (Builtin.copy_ #[dT, sT] ty #[.slice (some ⟨g, off, none⟩) dLen dCap, .slice (some a) sLen sCap]).run P w = .ok (goInt m) (w.setRow g (cur.toList.take off ++ cs ++ cur.toList.drop (off + cs.length)).toArray) := by
  have hl := run_loadCells_list (P := P) w a cs hsrc
  have hst := run_storeCells_at P g off t cs 0 cur w hg (by simpa using hfit) h1
  rw [Nat.add_zero] at hst
  cases hq : P.info? elem with
  | none => simp [hq] at hs
  | some i =>
    have hi : i.size = sz := by simpa [hq] using hs
    simp [Builtin.copy_, run_underlying hu, Builtin.lenOf, Builtin.firstCells, sizeOf, typeInfo, hq, hi, hm, ← hn, hl, hst]
theorem wpList_copy_into {P : Program} {w : World} {ops : Array Oper} {rest : List Oper} {o : Oper} {a : Act} {Q : Exit → Act → World → Prop} (hgd : o.guard = none) (d s : Operand) (dT sT : TypeId)
    (ho : o.op = .call { callee := .builtin .copy, args := #[d, s], argTypes := #[dT, sT] }) (elem : TypeId) (sz : Nat) (hu : P.underlying dT = some (.slice elem)) (hsz : (P.info? elem).map (·.size) = some sz)
    (g off dLen dCap sLen sCap m : Nat) (ad : Addr) (hd : a.eval d = .slice (some ⟨g, off, none⟩) dLen dCap) (hs : a.eval s = .slice (some ad) sLen sCap)
    (cur : Array Value) (t : TypeId) (hg : w.heap[g]? = some (.cells cur t (0, 0))) (hm : Nat.min sLen dLen = m) (cs : List Value) (hn : cs.length = m * sz)
    (hsrc : ∀ j v, cs[j]? = some v → w.cell? (ad.add j) = some v) (hfit : off + cs.length ≤ cur.size) (h1 : ∀ v ∈ cs, v.oneCell' = true)
    (h : wpList P ops Q rest (a.put o.dst (goInt m)) (w.setRow g (cur.toList.take off ++ cs ++ cur.toList.drop (off + cs.length)).toArray)) : wpList P ops Q (o :: rest) a w := by
  refine wpList_plain hgd fun K hK => ?_
  have hrun := run_copy_into P w dT sT o.type elem g off dLen dCap sLen sCap m sz ad cur t cs hu hsz hg hm hn hsrc hfit h1
  unfold Oper.wp
  simp [execOp, ho, resolve, invoke, builtin, hd, hs, hrun, Result.andThen]
  rw [List.append_assoc] at h
  exact hK _ _ h
theorem Kp.setRow (w : World) (g : Nat) (cs : Array Value) : Kp (fun k => k = g) w (w.setRow g cs) := ⟨rfl, rfl, rfl, by simp [World.setRow], fun k hk h => setRow_other w g k cs h⟩
/-- a row that is written over up to its end -/
theorem own_over {w : World} {B g n cap size off : Nat} {e t : TypeId} {xs cs : List Value} {cur : Array Value} (h : w.ownsRow B e size (.slice (some ⟨g, 0, none⟩) n cap) n xs) (hg : w.heap[g]? = some (.cells cur t (0, 0))) (ho : off + cs.length = n * size) :
    (w.setRow g (cur.toList.take off ++ cs ++ cur.toList.drop (off + cs.length)).toArray).ownsRow B e size (.slice (some ⟨g, 0, none⟩) n cap) n (xs.take off ++ cs) := by
  have hl := h.1
  rcases h.2 with ⟨h', _⟩ | ⟨g', cap', cur', h', hb, hgg, hn, hc, hs, ht⟩
  · simp at h'
  · simp only [Value.slice.injEq, Option.some.injEq, Addr.mk.injEq, and_true, true_and] at h'
    obtain ⟨rfl, rfl⟩ := h'
    rw [hgg] at hg
    injection hg with hg
    injection hg with q1 q2
    subst q1 q2
    have hsz : cur'.size = cap * size := hs
    have hle : n * size ≤ cap * size := Nat.mul_le_mul_right size hn
    have hto : (cur'.toList.take off).length = off := by rw [List.length_take, Array.length_toList]; omega
    refine ⟨by rw [List.length_append, List.length_take, hl]; omega, .inr ⟨g, cap, _, rfl, hb, setRow_heap w g _ _ e _ hgg, hn, hc, ?_, ?_⟩⟩
    · simp; omega
    · have e1 : xs.take off = cur'.toList.take off := by
        rw [← ht, List.take_take, Nat.min_eq_left (by omega)]
      rw [e1]
      show List.take (n * size) (cur'.toList.take off ++ cs ++ cur'.toList.drop (off + cs.length)) = _
      rw [List.take_append_of_le_length (by rw [List.length_append, hto]; omega), List.take_of_length_le (by rw [List.length_append, hto]; omega)]

end Go.Proofs.YtkoefclkpdpdpaaGreat

/- A bag that lies in memory: a block of three cells (its bits, its weights together, its values), and the row of its values. No program is spoken of here. -/
namespace Go.Proofs.YtkoefclkpdpdpaaGreat
set_option linter.unusedVariables false
open Go.RowKit

/-- a bag's blocks: its box, and its row -/
def bgF (g : Nat) (v : Value) : Nat → Prop := fun k => k = g ∨ v.ownBlock = some k
structure Bg (TB TR : TypeId) (w : World) (B g : Nat) (l : Int) (L : List Nd) (v : Value) : Prop where
  bag : BagC l L
  top : w.ownsRow B TB 3 (.slice (some ⟨g, 0, none⟩) 1 1) 1 [.int .i64 l, .int .i64 (sumC L), v]
  row : OwnNd TR w B v L
  ne : TB ≠ TR
section
variable {TB TR : TypeId} {w w' : World} {B g : Nat} {l : Int} {L : List Nd} {v : Value}
theorem Bg.cells (d : Bg TB TR w B g l L v) : w.cell? ⟨g, 0, none⟩ = some (.int .i64 l) ∧ w.cell? ⟨g, 1, none⟩ = some (.int .i64 (sumC L)) ∧ w.cell? ⟨g, 2, none⟩ = some v :=
  ⟨d.top.cellAt 0 (by omega), d.top.cellAt 1 (by omega), d.top.cellAt 2 (by omega)⟩
theorem Bg.free (d : Bg TB TR w B g l L v) (k : Nat) : w.frozen? ⟨g, k, none⟩ = false := d.top.frozenAt k
theorem Bg.lt (d : Bg TB TR w B g l L v) : B ≤ g ∧ g < w.heap.size ∧ ∀ h, v.ownBlock = some h → B ≤ h ∧ h < w.heap.size ∧ h ≠ g := by
  refine ⟨(d.top.lt g rfl).1, (d.top.lt g rfl).2, fun h e => ⟨(d.row.lt h e).1, (d.row.lt h e).2, fun q => ?_⟩⟩
  rcases own_apart d.top d.row d.ne with r | r
  · simp [Value.ownBlock] at r
  · exact r (by rw [e, q]; rfl)
theorem Bg.kp {F : Nat → Prop} (d : Bg TB TR w B g l L v) (p : Kp F w w') (h : ∀ k, bgF g v k → ¬ F k) : Bg TB TR w' B g l L v :=
  ⟨d.bag, own_kp d.top p (fun k e => h k (.inl (by simp [Value.ownBlock] at e; exact e.symm))), own_kp d.row p (fun k e => h k (.inr e)), d.ne⟩
theorem Bg.below (d : Bg TB TR w B g l L v) (hb : Below w.heap.size w w') : Bg TB TR w' B g l L v := d.kp (Kp.of (F := fun _ => False) hb) fun _ _ h => h
theorem Bg.low {B2 : Nat} (d : Bg TB TR w B g l L v) (h : B2 ≤ B) : Bg TB TR w B2 g l L v :=
  ⟨d.bag, ⟨d.top.1, d.top.2.imp id fun ⟨a, b, c, d, e, r⟩ => ⟨a, b, c, d, by omega, r⟩⟩, ⟨d.row.1, d.row.2.imp id fun ⟨a, b, c, d, e, r⟩ => ⟨a, b, c, d, by omega, r⟩⟩, d.ne⟩
theorem Bg.nodes (d : Bg TB TR w B g l L v) : NodesAt w v L := ownNd_nodes d.row
theorem Bg.blocks (d : Bg TB TR w B g l L v) : ∀ k, bgF g v k → B ≤ k ∧ k < w.heap.size := fun k h => by
  rcases h with rfl | h
  · exact ⟨d.lt.1, d.lt.2.1⟩
  · exact ⟨(d.lt.2.2 k h).1, (d.lt.2.2 k h).2.1⟩
/-- a bag of new blocks, behind what keeps old ones -/
theorem Bg.apart {TB TR : TypeId} {w : World} {B g g2 : Nat} {l l2 : Int} {L L2 : List Nd} {v v2 : Value} {N : Nat} (d : Bg TB TR w B g l L v) (e : Bg TB TR w N g2 l2 L2 v2) (h : ∀ k, bgF g v k → k < N) : ∀ k, bgF g v k → ¬ bgF g2 v2 k := fun k hk q => by
  have := h k hk
  have := (e.blocks k q).1
  omega
end
theorem box3 (w : World) (TO : TypeId) (a b c : Value) : (w.alloc (.cells #[a, b, c] TO)).ownsRow w.heap.size TO 3 (.slice (some ⟨w.heap.size, 0, none⟩) 1 1) 1 [a, b, c] :=
  World.ownsRow_lit (base := w.heap.size) (e := TO) (size := 3) w #[a, b, c] 1 (Nat.le_refl _) (by unfold maxLen; omega) rfl
/-- a bag whose row is made ahead of its box -/
theorem Bg.make {TB TR : TypeId} {w : World} {B : Nat} {l : Int} {L : List Nd} {v : Value} (hne : TB ≠ TR) (c : BagC l L) (r : OwnNd TR w B v L) (hB : B ≤ w.heap.size) :
    Bg TB TR (w.alloc (.cells #[.int .i64 l, .int .i64 (sumC L), v] TB)) B w.heap.size l L v :=
  ⟨c, own_low (box3 w TB _ _ _) hB, World.ownsRow.alloc r _, hne⟩
theorem nods_set3 (L : List Nd) (k : Nat) (x y : Int) : nods (L.set k (x, y)) = ((nods L).set (k * 2) (.int .i64 x)).set (k * 2 + 1) (.int .i64 y) := by
  induction L generalizing k with
  | nil => simp [nods]
  | cons n L ih =>
    cases k with
    | zero => rfl
    | succ k =>
      rw [List.set_cons_succ, nods, ih, nods, show (k + 1) * 2 = k * 2 + 1 + 1 by omega]
      rfl
theorem nods_set4 (L : List Nd) {k : Nat} (hk : k < L.length) (y : Int) : nods (L.set k ((L.getD k nz).1, y)) = (nods L).set (k * 2 + 1) (.int .i64 y) := by
  rw [nods_set3]
  congr 1
  refine List.ext_getElem? fun i => ?_
  rw [List.getElem?_set]
  split
  · rename_i e; subst e
    rw [if_pos (by rw [nods_len]; omega)]
    exact (nods_get L k hk).1.symm
  · rfl

end Go.Proofs.YtkoefclkpdpdpaaGreat

/- The project's package bag: New, what is told of a bag and of nil; where a value belongs. -/
namespace Go.Proofs.YtkoefclkpdpdpaaGreat
set_option linter.unusedVariables false
open Go.RowKit
attribute [local go_sem ↓] Go.wp_at_zero Go.wp_at_succ

set_option maxHeartbeats 1600000 in
/-- what sort.Search finds: the place from which on it is so -/
theorem search_any (F : Nat) (caps : Array Value) (n T : Nat) (hT : T ≤ n) (hn : n ≤ 1000000) (w : World) (eg : ∀ args w, (callFunc F args).run Tryz.prog w = .ok (.enter F args) w)
    (hf : ∀ (m k : Nat), k < n → Calls Tryz.prog F (#[.int .i64 (k : Int)] ++ caps) (w.drewN m) fun e w' => e = .returned (.bool (decide (T ≤ k))) ∧ ∃ q, w' = w.drewN q) :
    Calls Tryz.prog 150 #[.int .i64 (n : Int), .func (.func F) #[] caps] w fun e w' => e = .returned (.int .i64 (T : Int)) ∧ ∃ q, w' = w.drewN q := by
  have HF := Lib.hid hf
  clear hf
  go_enter Tryz.func150, Tryz.ntmps150
  go_wp2_with fail
  go_loopw [5, 6] (fun s5 s6 wr => ∃ (lo hi q : Nat), s5 = .int .i64 (lo : Int) ∧ s6 = .int .i64 (hi : Int) ∧ lo ≤ T ∧ T ≤ hi ∧ hi ≤ n ∧ wr = w.drewN q) (fun s5 s6 _ => (intOf s6).toNat - (intOf s5).toNat)
  case atStart => exact ⟨0, n, 0, rfl, rfl, Nat.zero_le _, hT, Nat.le_refl _, rfl⟩
  case round =>
    obtain ⟨lo, hi, q, rfl, rfl, h1, h2, h3, rfl⟩ := hrel
    by_cases hlt : lo < hi
    · have hc := HF.out q ((lo + hi) / 2) (by omega)
      rw [show (((lo + hi) / 2 : Nat) : Int) = ((lo : Int) + (hi : Int)) / 2 by omega] at hc
      by_cases hp : T ≤ (lo + hi) / 2
      · rw [decide_eq_true hp] at hc
        go_wp2_with (go_at_fn F; refine hc.mono ?_; rintro e w' ⟨rfl, q2, rfl⟩)
        go_roundw
        case rel => exact ⟨lo, (lo + hi) / 2, q2, rfl, by go_num, h1, hp, by omega, rfl⟩
        case measure => simp [intOf]; omega
      · rw [decide_eq_false hp] at hc
        go_wp2_with (go_at_fn F; refine hc.mono ?_; rintro e w' ⟨rfl, q2, rfl⟩)
        go_roundw
        case rel => exact ⟨(lo + hi) / 2 + 1, hi, q2, by go_num, rfl, by omega, h2, h3, rfl⟩
        case measure => simp [intOf]; omega
    · obtain rfl : lo = T := by omega
      go_wp2_with fail
      go_ret
      exact ⟨rfl, q, rfl⟩

end Go.Proofs.YtkoefclkpdpdpaaGreat

/- The project's package bag: where a value belongs, what items weigh; Rank, Between, Kth, Ends, Items. -/
namespace Go.Proofs.YtkoefclkpdpdpaaGreat
set_option linter.unusedVariables false
set_option maxRecDepth 100000
open Go.RowKit
attribute [local go_sem ↓] Go.wp_at_zero Go.wp_at_succ

theorem nodes_take {w : World} {A : Option Addr} {n c k : Nat} {L : List Nd} (h : NodesAt w (.slice A n c) L) (hk : k ≤ n) : NodesAt w (.slice A k c) (L.take k) := by
  obtain ⟨h1, h2, h3, h4⟩ := nodes_cells h
  refine ⟨A, c, by rw [List.length_take]; congr 1; omega, by rw [List.length_take]; omega, h3, fun e => ?_, NdAt.take h4⟩
  subst e
  exact (nodes_none h).2.1
def advO : Option Addr → Nat → Nat → Nat → Option Addr
  | none, _, _, _ => none
  | some a, c, k, s => some (advA a c k s)
theorem nodes_mid {w : World} {A : Option Addr} {n c j k : Nat} {L : List Nd} (h : NodesAt w (.slice A n c) L) (hj : j ≤ k) (hk : k ≤ n) : NodesAt w (.slice (advO A c j 2) (k - j) (c - j)) ((L.take k).drop j) := by
  obtain ⟨h1, h2, h3, h4⟩ := nodes_cells h
  refine ⟨_, _, by rw [List.length_drop, List.length_take]; congr 1; omega, by rw [List.length_drop, List.length_take]; omega, by omega, fun e => ?_, ?_⟩
  · cases A with
    | none => have := (nodes_none h).2.1; omega
    | some a => simp [advO] at e
  · cases A with
    | none =>
      have := (nodes_none h).1
      intro h0
      rw [List.length_drop, List.length_take] at h0; omega
    | some a => exact NdAt.adv (NdAt.take h4) (by rw [List.length_take]; omega)
section
variable {P : Program}
theorem sl_mid {t e : TypeId} {i : TypeInfo} (ht : P.underlying t = some (.slice e)) (hi : P.info? e = some i) {s : Nat} (hs : i.size = s) (A : Option Addr) (n c j k : Nat) (hj : j ≤ k) (hk : k ≤ c) (w : World) :
    (Instr.slice t (.slice A n c) (some (.int .i64 (j : Int))) (some (.int .i64 (k : Int))) none).run P w = .ok (.slice (advO A c j s) (k - j) (c - j)) w := by
  have he : P.elem t = e := by unfold Program.elem; rw [ht]
  have ht' : P.underlying t = some (.slice (P.elem t)) := by rw [he]; exact ht
  rw [run_slice_lh w t A n c ht' .i64 .i64 (j : Int) (k : Int) (by omega) (by omega) (by omega), he]
  have hz : (sizeOf e).run P w = .ok s w := by
    have hc : P.cellsOf e = s := by simp [Program.cellsOf, hi, hs]
    simp [run_sizeOf, hi, hc]
  rw [hz]
  simp only [Result.andThen_ok, sliced, Int.toNat_natCast]
  cases A with
  | none => simp [advO]
  | some a =>
    simp only [advO, advA, Option.map]
    split <;> rfl
end
end Go.Proofs.YtkoefclkpdpdpaaGreat

/- The project's package bag: Rank, Between, Kth, Ends, Items. -/
namespace Go.Proofs.YtkoefclkpdpdpaaGreat
set_option linter.unusedVariables false
set_option maxRecDepth 100000
open Go.RowKit
attribute [local go_sem ↓] Go.wp_at_zero Go.wp_at_succ

end Go.Proofs.YtkoefclkpdpdpaaGreat

/- The project's package bag: Items, Kth. -/
namespace Go.Proofs.YtkoefclkpdpdpaaGreat
set_option linter.unusedVariables false
set_option maxRecDepth 100000
open Go.RowKit
attribute [local go_sem ↓] Go.wp_at_zero Go.wp_at_succ

theorem make_full {P : Program} {t e : TypeId} {i : TypeInfo} {z : Value} (ht : P.underlying t = some (.slice e)) (hi : P.info? e = some i) (hz : i.zero = some z) {size bytes : Nat} (hs : i.size = size) (hb : i.bytes = bytes)
    (n k : Nat) (hk : n * size = k) (hbytes : bytes * n ≤ 281474976710656) (h63 : n ≤ 9223372036854775807) (w : World) :
    (Instr.makeSlice t (.int .i64 (n : Int)) (.int .i64 (n : Int))).run P w = .ok (.slice (some ⟨w.heap.size, 0, none⟩) n n) (w.alloc (.cells (blank z k) e)) := by
  subst hk
  have hbi : (i.bytes : Int) * (n : Int) ≤ 281474976710656 := by
    have h : ((bytes * n : Nat) : Int) ≤ 281474976710656 := by omega
    rw [hb]; rwa [Int.natCast_mul] at h
  have h := run_make (P := P) w t e i z ht hi hz .i64 .i64 n n (by omega) (Int.le_refl _) hbi (by omega)
  simp only [Int.toNat_natCast, hs] at h
  exact h
theorem own_of_heapB {w : World} {B h N : Nat} {TN : TypeId} {ys : List Value} (hb : B ≤ h) (hN : N ≤ maxLen) (hl : ys.length = N * 2) (hg : w.heap[h]? = some (.cells ys.toArray TN (0, 0))) : w.ownsRow B TN 2 (.slice (some ⟨h, 0, none⟩) N N) N ys :=
  ⟨hl, .inr ⟨h, N, ys.toArray, rfl, hb, hg, Nat.le_refl _, hN, by simp; omega, by simp [← hl]⟩⟩
/-- what Kth tells -/
def kthE (L : List Nd) (r : Int) : Int := if L = [] then 7 else if r < 1 ∨ sumC L < r then 2 else 0
def kthV (L : List Nd) (r : Int) : Int := if kthE L r = 0 then kthN L r else 0
theorem kth_empty {L : List Nd} {r : Int} (h : L = []) : kthE L r = 7 ∧ kthV L r = 0 := by
  have e : kthE L r = 7 := if_pos h
  exact ⟨e, by unfold kthV; rw [e]; rfl⟩
theorem kth_arg {L : List Nd} {r : Int} (h : ¬ L = []) (q : r < 1 ∨ sumC L < r) : kthE L r = 2 ∧ kthV L r = 0 := by
  have e : kthE L r = 2 := by unfold kthE; rw [if_neg h, if_pos q]
  exact ⟨e, by unfold kthV; rw [e]; rfl⟩
theorem kth_ok {L : List Nd} {r : Int} (h : ¬ L = []) (q : ¬ (r < 1 ∨ sumC L < r)) : kthE L r = 0 ∧ kthV L r = kthN L r := by
  have e : kthE L r = 0 := by unfold kthE; rw [if_neg h, if_neg q]
  exact ⟨e, by unfold kthV; rw [e]; rfl⟩
theorem ret2_n {a b c d : Int} (h : a = b ∧ c = d) : Ending.returned (.tuple #[.int .i64 a, .int .i64 c]) = .returned (.tuple #[.int .i64 b, .int .i64 d]) := by rw [h.1, h.2]
end Go.Proofs.YtkoefclkpdpdpaaGreat
