/- Texts laid together: Copy, Pb8, Po, Po2, PoLaw, PoEach, PoTurn. -/
import Derived.Laws.CopyOwn
import Derived.Test.YtkoefclkpdpdpaaGreatMmy
import Derived.Test.YtkoefclkpdpdpaaGreatPbQ
import Derived.Test.YtkoefclkpdpdpaaGreatRoQ
import Derived.Test.YtkoefclkpdpdpaaGreatPln
import Derived.RangeFuncNested
import Derived.RangeFuncBound
import Derived.RangeFuncCalls
import Derived.RangeFuncLeaves
import Derived.Shelf.Abstract
import Derived.Shelf.RegionOpen
import Derived.WalkKit
import Derived.OwnWalkIn
import Derived.TacticsInMore
import Derived.LoopNIn
import Derived.LoopIn
/- copy of a whole row whose elements have several cells each, into a row that the call itself made: the row is the other one's then. No program is spoken of here. -/
namespace Go.Proofs.YtkoefclkpdpdpaaGreat
set_option linter.unusedVariables false
open Go.RowKit

theorem run_copy_all (P : Program) (w : World) (dT sT ty elem : TypeId) (g N k sz : Nat) (a : Addr) (cur : Array Value) (t : TypeId) (cs : List Value)
    (hu : P.underlying dT = some (.slice elem)) (hs : (P.info? elem).map (·.size) = some sz)
    (hg : w.heap[g]? = some (.cells cur t (0, 0))) (hn : cs.length = N * sz)
    (hsrc : ∀ j v, cs[j]? = some v → w.cell? (a.add j) = some v) (hfit : cs.length = cur.size) (h1 : ∀ v ∈ cs, v.oneCell' = true) :
    (Builtin.copy_ #[dT, sT] ty #[.slice (some ⟨g, 0, none⟩) N N, .slice (some a) N k]).run P w = .ok (goInt N) (w.setRow g cs.toArray) := by
  have hl := run_loadCells_list (P := P) w a cs hsrc
  have hst := run_storeCells_at P g 0 t cs 0 cur w hg (by simp; omega) h1
  have e : (cur.toList.take (0 + 0) ++ cs ++ cur.toList.drop (0 + 0 + cs.length)).toArray = cs.toArray := by
    rw [show 0 + 0 + cs.length = cur.toList.length by simp; omega, List.drop_length]; simp
  rw [e] at hst
  cases hq : P.info? elem with
  | none => simp [hq] at hs
  | some i =>
    have hi : i.size = sz := by simpa [hq] using hs
    have hm : min N N = N := Nat.min_self N
    simp [Builtin.copy_, run_underlying hu, Builtin.lenOf, Builtin.firstCells, sizeOf, typeInfo, hq, hi, hm, ← hn, hl, hst]
theorem wpList_copy_all {P : Program} {w : World} {ops : Array Oper} {rest : List Oper} {o : Oper} {a : Act} {Q : Exit → Act → World → Prop} (hgd : o.guard = none) (d s : Operand) (dT sT : TypeId)
    (ho : o.op = .call { callee := .builtin .copy, args := #[d, s], argTypes := #[dT, sT] }) (elem : TypeId) (sz : Nat) (hu : P.underlying dT = some (.slice elem)) (hsz : (P.info? elem).map (·.size) = some sz)
    (g N k : Nat) (ad : Addr) (hd : a.eval d = .slice (some ⟨g, 0, none⟩) N N) (hs : a.eval s = .slice (some ad) N k)
    (cur : List Value) (t : TypeId) (hg : w.heap[g]? = some (.cells cur.toArray t (0, 0))) (cs : List Value) (hn : cs.length = N * sz)
    (hsrc : ∀ j v, cs[j]? = some v → w.cell? (ad.add j) = some v) (hfit : cs.length = cur.length) (h1 : ∀ v ∈ cs, v.oneCell' = true) (B : Nat) (w0 : World) (hb : Below B w0 w) (hBg : B ≤ g)
    (h : ∀ w', Hid (w'.heap[g]? = some (.cells cs.toArray t (0, 0))) → Below B w0 w' → wpList P ops Q rest (a.put o.dst (goInt N)) w') : wpList P ops Q (o :: rest) a w := by
  refine wpList_plain hgd fun K hK => ?_
  have hrun := run_copy_all P w dT sT o.type elem g N k sz ad cur.toArray t cs hu hsz hg hn hsrc (by simpa using hfit) h1
  unfold Oper.wp
  simp [execOp, ho, resolve, invoke, builtin, hd, hs, hrun, Result.andThen]
  exact hK _ _ (h _ (show _ = _ from setRow_heap w g _ _ t _ hg) (below_setRow hb hBg _))

end Go.Proofs.YtkoefclkpdpdpaaGreat

/- The project's package probe: Snap and Clone of a table that lies in memory. -/
namespace Go.Proofs.YtkoefclkpdpdpaaGreat
set_option linter.unusedVariables false
set_option maxRecDepth 100000
open Go.RowKit
section
variable {B g h b : Nat} {l : Int} {S L : List Nd}
set_option maxHeartbeats 3200000 in
theorem pbSnap_own (w : World) (d : PbA w B g h l (L.length : Int) (sumC L) b S) (T : Tb l b S L) (hb : b ≤ 40) (hl : L.length ≤ 1000000) :
    Calls Tryz.prog 142 #[.pointer (some ⟨g, 0, none⟩)] w (ListOwn 87 L w) := by
  obtain ⟨i0, hi, hz0, hz1, hz2⟩ := info_parts node_info
  have hpN := pow_40 (b := b) (by omega)
  obtain ⟨_, k1, _, _, k4⟩ := d.cells
  have hlt := d.lt
  have hlen := d.len
  have SLT := Lib.hid (fun i (hi : i < 2 ^ b) => d.slot hi)
  have hcnt := Lib.hid T.cnt
  have SRT := Lib.hid (fun X (q : Srt idA (ndsT S) X) => T.srt q)
  have AB := Lib.hid (fun i => tAt_bds T i)
  clear d T
  obtain ⟨N, hN⟩ : ∃ N, N = 2 ^ b := ⟨_, rfl⟩
  rw [← hN] at k4 hpN SLT hlen
  clear hN
  have hmk := make_room (P := Tryz.prog) Tryz.underlying24 hi hz0 hz1 hz2 L.length (by omega) (by omega) w
  go_enter Tryz.func142, Tryz.ntmps142
  go_wp2_with fail
  clear hmk
  go_loopw [3, 18] (fun v i wr => ∃ k : Nat, k ≤ N ∧ i = .int .i64 k ∧ OwnNd 87 wr w.heap.size v (ndsT (S.take k)) ∧ Below w.heap.size w wr) (fun _ i _ => N - (intOf i).toNat)
  case atStart => exact ⟨0, by omega, rfl, room_own (Nat.le_refl _) (by unfold maxLen; omega), (Below.refl _ _).alloc (Nat.le_refl _) _⟩
  case round =>
    rename_i wr
    obtain ⟨k, hk, rfl, hown, hbl⟩ := hrel
    have HO := Lib.hid hown
    have hsz := hbl.size
    clear hown
    by_cases hlt2 : k < N
    · have hkl : k < S.length := by omega
      obtain ⟨s0, s1⟩ := SLT.out k hlt2
      have hhz : h < w.heap.size := hlt.2.2.2
      have e0 := (hbl.cell (p := ⟨h, k * 2, none⟩) hhz).trans s0
      have e1 := (hbl.cell (p := ⟨h, k * 2 + 1, none⟩) hhz).trans s1
      have NS := nds_step hkl
      have hle := nds_le (S.take k)
      have hle2 : (ndsT (S.take k)).length ≤ N := by rw [List.length_take] at hle; omega
      obtain ⟨⟨x1, x2⟩, hx⟩ : ∃ x, x = tAt S k := ⟨_, rfl⟩
      rw [← hx] at e0 e1 NS
      simp only at e0 e1 NS
      clear s0 s1 hx hle
      by_cases h0 : x1 = 0
      · rw [if_pos h0] at NS
        have NS2 := Lib.hid NS
        subst h0
        clear NS
        go_wp2_with fail
        go_roundw
        case rel => exact ⟨k + 1, by omega, by go_num, by rw [NS2.out]; exact World.ownsRow.alloc HO.out _, hbl.alloc (by omega) _⟩
        case measure => simp [intOf]; omega
      · rw [if_neg h0] at NS
        have NS2 := Lib.hid NS
        have h0' : (x1 != 0) = true := by simpa using h0
        clear NS h0
        go_wp2_with (at_builtin; refine wpList_append_own _ rfl _ _ 24 rfl w.heap.size 87 i0 (.agg #[.int .i64 0, .int .i64 0]) 2 16 Tryz.underlying24 hi hz0 hz1 hz2 rfl (by decide) _ (ndsT (S.take k)).length (nods (ndsT (S.take k))) rfl ((World.ownsRow.alloc HO.out _).alloc _) ⟨wr.heap.size + 1, 0, none⟩ 1 1 [.int .i64 x1, .int .i64 x2] rfl rfl (two_new _ _ _ _ _ (by simp)) (two_cell _ _) (by unfold maxLen; omega) (by omega) (by simp; omega) ?_)
        intro v' w3 hown2 hgrow _
        have hb3 : Below w.heap.size w w3 := ((hbl.alloc (by omega) _).alloc (by simp; omega) _).grown hgrow (by simp; omega) (fun g hg => (World.ownsRow.lt HO.out g hg).1)
        have HO2 := Lib.hid (ownNd_snoc hown2)
        clear hown2 hgrow
        go_wp2_with fail
        go_roundw
        case rel => exact ⟨k + 1, by omega, by go_num, by rw [NS2.out]; exact HO2.out, hb3⟩
        case measure => simp [intOf]; omega
    · have hkn : k = N := by omega
      subst hkn
      have HO2 := Lib.hid (show OwnNd 87 wr w.heap.size _ (ndsT S) from by have q := HO.out; rw [List.take_of_length_le (by omega)] at q; exact q)
      obtain ⟨A3, m3, c3, rfl⟩ := ownNd_slice HO2.out
      have hm3 := (nodes_cells (ownNd_nodes HO2.out)).1
      have hm4 : m3 ≤ 1000000 := by have := hcnt.out; omega
      clear hm3
      go_wp2_with (go_at_call 158; refine (sorted_own _ _ _ (ndsT S) _ (ownNd_nodes HO2.out) hm4).mono ?_; rintro e w2 ⟨X, A4, c4, rfl, hs4, hn4, _, hb4⟩)
      go_ret
      have e := SRT.out _ hs4
      subst e
      exact ⟨_, _, _, rfl, own_low hn4 hbl.size, hbl.trans (hb4.mono hbl.size)⟩
theorem pbSnap_any (w : World) (d : PbA w B g h l (L.length : Int) (sumC L) b S) (T : Tb l b S L) (hb : b ≤ 40) (hl : L.length ≤ 1000000) :
    Calls Tryz.prog 142 #[.pointer (some ⟨g, 0, none⟩)] w (ListPost L w) := (pbSnap_own w d T hb hl).mono fun _ _ q => list_forget q
theorem pclone_facts {TD TN : TypeId} {g h N : Nat} {w : World} {a b c d : Value} (h3 : w.cell? ⟨g, 4, none⟩ = some (.slice (some ⟨h, 0, none⟩) N N)) (hg : g < w.heap.size) (hh : h < w.heap.size) :
    ((w.alloc (.cells #[a, b, c, d, .slice (some ⟨w.heap.size + 1, 0, none⟩) N N] TD)).alloc (.cells (blank (.agg #[.int .i64 0, .int .i64 0]) (N * 2)) TN)).cell? ⟨w.heap.size, 4, none⟩ = some (.slice (some ⟨w.heap.size + 1, 0, none⟩) N N) ∧
    ((w.alloc (.cells #[a, b, c, d, .slice (some ⟨w.heap.size + 1, 0, none⟩) N N] TD)).alloc (.cells (blank (.agg #[.int .i64 0, .int .i64 0]) (N * 2)) TN)).cell? ⟨g, 4, none⟩ = some (.slice (some ⟨h, 0, none⟩) N N) ∧
    ((w.alloc (.cells #[a, b, c, d, .slice (some ⟨w.heap.size + 1, 0, none⟩) N N] TD)).alloc (.cells (blank (.agg #[.int .i64 0, .int .i64 0]) (N * 2)) TN)).heap[w.heap.size + 1]? = some (.cells (blank (.agg #[.int .i64 0, .int .i64 0]) (N * 2)) TN (0, 0)) ∧
    Below w.heap.size w ((w.alloc (.cells #[a, b, c, d, .slice (some ⟨w.heap.size + 1, 0, none⟩) N N] TD)).alloc (.cells (blank (.agg #[.int .i64 0, .int .i64 0]) (N * 2)) TN)) ∧
    ((w.alloc (.cells #[a, b, c, d, .slice (some ⟨w.heap.size + 1, 0, none⟩) N N] TD)).alloc (.cells (blank (.agg #[.int .i64 0, .int .i64 0]) (N * 2)) TN)).ownsRow w.heap.size TD 5 (.slice (some ⟨w.heap.size, 0, none⟩) 1 1) 1 [a, b, c, d, .slice (some ⟨w.heap.size + 1, 0, none⟩) N N] ∧
    ((w.alloc (.cells #[a, b, c, d, .slice (some ⟨w.heap.size + 1, 0, none⟩) N N] TD)).alloc (.cells (blank (.agg #[.int .i64 0, .int .i64 0]) (N * 2)) TN)).heap.size = w.heap.size + 2 := by
  have o := World.ownsRow_lit (base := w.heap.size) (e := TD) (size := 5) w #[a, b, c, d, .slice (some ⟨w.heap.size + 1, 0, none⟩) N N] 1 (Nat.le_refl _) (by unfold maxLen; omega) rfl
  have o2 := o.alloc (.cells (blank (.agg #[.int .i64 0, .int .i64 0]) (N * 2)) TN)
  have hb : Below w.heap.size w ((w.alloc (.cells #[a, b, c, d, .slice (some ⟨w.heap.size + 1, 0, none⟩) N N] TD)).alloc (.cells (blank (.agg #[.int .i64 0, .int .i64 0]) (N * 2)) TN)) := ((Below.refl _ _).alloc (Nat.le_refl _) _).alloc (by simp) _
  refine ⟨o2.cellAt 4 (by omega), (hb.cell (p := ⟨g, 4, none⟩) hg).trans h3, ?_, hb, o2, by simp⟩
  have q := heap_alloc_new (w.alloc (.cells #[a, b, c, d, .slice (some ⟨w.heap.size + 1, 0, none⟩) N N] TD)) (.cells (blank (.agg #[.int .i64 0, .int .i64 0]) (N * 2)) TN)
  have e : (w.alloc (.cells #[a, b, c, d, .slice (some ⟨w.heap.size + 1, 0, none⟩) N N] TD)).heap.size = w.heap.size + 1 := by simp
  rw [e] at q
  exact q
theorem own_of_heap2 {w : World} {B h N : Nat} {TN : TypeId} {ys : List Value} (hb : B ≤ h) (hN : N ≤ maxLen) (hl : ys.length = N * 2) (hg : w.heap[h]? = some (.cells ys.toArray TN (0, 0))) : w.ownsRow B TN 2 (.slice (some ⟨h, 0, none⟩) N N) N ys :=
  ⟨hl, .inr ⟨h, N, ys.toArray, rfl, hb, hg, Nat.le_refl _, hN, by simp; omega, by simp [← hl]⟩⟩
end

end Go.Proofs.YtkoefclkpdpdpaaGreat

/- The project's package pool: a pool that lies in memory, of either kind; New, and what is told of it and of nil. -/
namespace Go.Proofs.YtkoefclkpdpdpaaGreat
set_option linter.unusedVariables false
set_option maxRecDepth 100000
open Go.RowKit

/-- is there a pool of that kind for so many bits? -/
def isP (kd l : Int) : Bool := decide ((kd = 1 ∧ 1 ≤ l ∧ l ≤ 16) ∨ (kd = 2 ∧ 1 ≤ l ∧ l ≤ 48))
theorem szc_b4 {n b : Nat} {L : List Nd} (h : SzC n b L) (hn : n ≤ 1000) : b ≤ 11 := by
  have h2 := h.2
  rcases Nat.lt_or_ge 11 b with q | q
  · exfalso
    have := Nat.pow_le_pow_right (show 0 < 2 by omega) (show 12 ≤ b from q)
    have e : 2 ^ 12 = 4096 := by decide
    omega
  · exact q
theorem SzC.next {n m b b2 : Nat} {L M : List Nd} (h : SzC n b L) (hm : n ≤ m) (hl : M.length ≤ m) (d : 2 ^ b2 = 2 ^ b ∨ 2 ^ b2 ≤ 4 * L.length + 4) : SzC m b2 M := ⟨hl, by have := h.1; have := h.2; rcases d with q | q <;> omega⟩
theorem SzC.more {n m b : Nat} {L : List Nd} (h : SzC n b L) (hm : n ≤ m) : SzC m b L := ⟨by have := h.1; omega, by have := h.2; omega⟩
theorem box2 (w : World) (TO : TypeId) (a b : Value) : (w.alloc (.cells #[a, b] TO)).ownsRow w.heap.size TO 2 (.slice (some ⟨w.heap.size, 0, none⟩) 1 1) 1 [a, b] :=
  World.ownsRow_lit (base := w.heap.size) (e := TO) (size := 2) w #[a, b] 1 (Nat.le_refl _) (by unfold maxLen; omega) rfl
theorem take_tb {l : Int} {b : Nat} {S L : List Nd} (t : Tb l b S L) (a : Int) : Tb l b (takeS l b S a) (remW L a) := by
  unfold takeS
  cases hr : rightB l a
  · rw [if_neg (by simp), (rem_wrong t.roll hr).1]; exact t
  · rw [if_pos rfl]
    have := right_pos hr
    exact t.take (by omega)
/-- a pool that lies in memory: its box p, its store g, its slots h -/
structure PoA (w : World) (B p g h : Nat) (kd l : Int) (n : Nat) (L : List Nd) : Prop where
  roll : RollC l L
  len : L.length ≤ n
  st : (kd = 1 ∧ l ≤ 16 ∧ w.ownsRow B 161 2 (.slice (some ⟨p, 0, none⟩) 1 1) 1 [.pointer (some ⟨g, 0, none⟩), .pointer none] ∧ DsA w B g h l L) ∨
    (kd = 2 ∧ w.ownsRow B 161 2 (.slice (some ⟨p, 0, none⟩) 1 1) 1 [.pointer none, .pointer (some ⟨g, 0, none⟩)] ∧ ∃ b S, PbA w B g h l (L.length : Int) (sumC L) b S ∧ Tb l b S L ∧ SzC n b L)
section
variable {w w' : World} {B p g h : Nat} {kd l : Int} {n : Nat} {L : List Nd}
theorem PoA.below (d : PoA w B p g h kd l n L) (hb : Below w.heap.size w w') : PoA w' B p g h kd l n L :=
  ⟨d.roll, d.len, d.st.imp (fun ⟨a, b, c, e⟩ => ⟨a, b, own_below c hb, e.below hb⟩) (fun ⟨a, c, b, S, e, t, z⟩ => ⟨a, own_below c hb, b, S, Ps.below e hb, t, z⟩)⟩
theorem PoA.low {B2 : Nat} (d : PoA w B p g h kd l n L) (hB : B2 ≤ B) : PoA w B2 p g h kd l n L :=
  ⟨d.roll, d.len, d.st.imp (fun ⟨a, b, c, e⟩ => ⟨a, b, own_low c hB, ⟨own_low e.top hB, own_low e.row hB, e.ne⟩⟩) (fun ⟨a, c, b, S, e, t, z⟩ => ⟨a, own_low c hB, b, S, Ps.low e hB, t, z⟩)⟩
theorem PoA.more {m : Nat} (d : PoA w B p g h kd l n L) (hm : n ≤ m) : PoA w B p g h kd l m L :=
  ⟨d.roll, Nat.le_trans d.len hm, d.st.imp (fun q => q) (fun ⟨a, c, b, S, e, t, z⟩ => ⟨a, c, b, S, e, t, z.more hm⟩)⟩
theorem PoA.lt (d : PoA w B p g h kd l n L) : (B ≤ p ∧ p < w.heap.size) ∧ B ≤ g ∧ g < w.heap.size ∧ B ≤ h ∧ h < w.heap.size := by
  rcases d.st with ⟨_, _, c, e⟩ | ⟨_, c, b, S, e, _⟩
  · exact ⟨c.lt p rfl, Ds.lt e⟩
  · exact ⟨c.lt p rfl, Ps.lt e⟩
theorem PoA.kinds (d : PoA w B p g h kd l n L) : kd = 1 ∨ kd = 2 := d.st.imp (fun q => q.1) (fun q => q.1)
theorem PoA.uni (d : PoA w B p g h kd l n L) : 1 ≤ l ∧ l ≤ 48 := of_decide_eq_true d.roll.1
theorem PoA.is (d : PoA w B p g h kd l n L) : isP kd l = true := by
  have u := d.uni
  rcases d.st with ⟨a, b, _⟩ | ⟨a, _⟩
  · exact decide_eq_true (.inl ⟨a, u.1, b⟩)
  · exact decide_eq_true (.inr ⟨a, u⟩)
/-- what is written at the store of a pool leaves rows of other types -/
theorem PoA.other {e : TypeId} {base size m : Nat} {v : Value} {zs : List Value} (d : PoA w B p g h kd l n L) (o : w.ownsRow base e size v m zs) (c : Chg g h w w') (e1 : e ≠ 165) (e2 : e ≠ 3) (e3 : e ≠ 163) (e4 : e ≠ 87) : w'.ownsRow base e size v m zs := by
  rcases d.st with ⟨_, _, _, q⟩ | ⟨_, _, b, S, q, _⟩
  · exact Ds.other q o c e1 e2
  · exact Ps.other q o c e3 e4
theorem PoA.nodes {base size m : Nat} {v : Value} {zs : List Value} (d : PoA w B p g h kd l n L) (o : w.ownsRow base 87 size v m zs) (c : Chg g h w w') (e2 : v.ownBlock ≠ some h) : w'.ownsRow base 87 size v m zs := by
  rcases d.st with ⟨_, _, _, q⟩ | ⟨_, _, b, S, q, _⟩
  · exact Ds.other q o c (by decide) (by decide)
  · exact Ps.nodes q o c (by decide) e2
theorem top_row {TD TI TN TM : TypeId} {w : World} {B e1 e2 k m : Nat} {g h a : Nat} {xs ys : List Value} (o : w.ownsRow B TD e1 (.slice (some ⟨g, 0, none⟩) 1 1) 1 xs) (q : w.ownsRow B TI e2 (.slice (some ⟨h, 0, none⟩) k m) k ys) (ht : TD ≠ TI) : g ≠ h := fun e => by
  rcases own_apart o q ht with r | r
  · simp [Value.ownBlock] at r
  · exact r (by simp [Value.ownBlock, e])
/-- another pool's store is written: this pool is kept -/
theorem PoA.chg {p2 g2 h2 n2 : Nat} {kd2 l2 : Int} {L2 : List Nd} (d : PoA w B p g h kd l n L) (d2 : PoA w B p2 g2 h2 kd2 l2 n2 L2) (c : Chg g2 h2 w w') (a1 : g ≠ g2) (a2 : h ≠ h2) : PoA w' B p g h kd l n L := by
  refine ⟨d.roll, d.len, ?_⟩
  rcases d.st with ⟨k1, k2, bx, q⟩ | ⟨k1, bx, b, S, q, t, z⟩
  · refine .inl ⟨k1, k2, d2.other bx c (by decide) (by decide) (by decide) (by decide), ?_⟩
    rcases d2.st with ⟨_, _, _, r⟩ | ⟨_, _, b2, S2, r, _⟩
    · exact Ds.chg q c a1 (top_row (a := 0) (TN := 0) (TM := 0) q.top r.row (by decide)) (fun e => top_row (a := 0) (TN := 0) (TM := 0) r.top q.row (by decide) e.symm) a2
    · exact Ds.chg q c a1 (top_row (a := 0) (TN := 0) (TM := 0) q.top r.row (by decide)) (fun e => top_row (a := 0) (TN := 0) (TM := 0) r.top q.row (by decide) e.symm) a2
  · refine .inr ⟨k1, d2.other bx c (by decide) (by decide) (by decide) (by decide), b, S, ?_, t, z⟩
    rcases d2.st with ⟨_, _, _, r⟩ | ⟨_, _, b2, S2, r, _⟩
    · exact Ps.chg q c a1 (top_row (a := 0) (TN := 0) (TM := 0) q.top r.row (by decide)) (fun e => top_row (a := 0) (TN := 0) (TM := 0) r.top q.row (by decide) e.symm) a2
    · exact Ps.chg q c a1 (top_row (a := 0) (TN := 0) (TM := 0) q.top r.row (by decide)) (fun e => top_row (a := 0) (TN := 0) (TM := 0) r.top q.row (by decide) e.symm) a2
end
theorem poStores_nil (w : World) : Calls Tryz.prog 77 #[.pointer none] w fun e w' => e = .returned (.tuple #[.pointer none, .pointer none]) ∧ w = w' := by
  go_enter Tryz.func77, Tryz.ntmps77
  go_wp2_with fail
  go_ret2
  exact ⟨rfl, rfl⟩
theorem poStores_any {p B : Nat} {x y : Option Addr} (w : World) (d : w.ownsRow B 161 2 (.slice (some ⟨p, 0, none⟩) 1 1) 1 [.pointer x, .pointer y]) :
    Calls Tryz.prog 77 #[.pointer (some ⟨p, 0, none⟩)] w fun e w' => e = .returned (.tuple #[.pointer x, .pointer y]) ∧ ∃ q, w' = w.drewN q := by
  have c0 := d.cellAt 0 (by omega)
  have c1 := d.cellAt 1 (by omega)
  clear d
  go_enter Tryz.func77, Tryz.ntmps77
  go_wp2_with fail
  go_quiet (fail)
  go_wp2_with fail
  go_ret2
  exact ⟨rfl, _, rfl⟩
theorem poIfOK_ok (p : Option Addr) (w : World) : Calls Tryz.prog 129 #[.pointer p, .int .i64 0] w fun e w' => e = .returned (.tuple #[.pointer p, .int .i64 0]) ∧ w = w' := by
  go_enter Tryz.func129, Tryz.ntmps129
  go_wp2_with fail
  go_ret2
  exact ⟨rfl, rfl⟩
theorem poIfOK_no (p : Option Addr) (w : World) : Calls Tryz.prog 129 #[.pointer p, .int .i64 2] w fun e w' => e = .returned (.tuple #[.pointer none, .int .i64 2]) ∧ w = w' := by
  go_enter Tryz.func129, Tryz.ntmps129
  go_wp2_with fail
  go_ret2
  exact ⟨rfl, rfl⟩
set_option maxHeartbeats 1600000 in
theorem poNew_no (kd l : Int) (w : World) (h : isP kd l = false) : Calls Tryz.prog 101 #[.int .i64 kd, .int .i64 l] w fun e w' => e = .returned (.tuple #[.pointer none, .int .i64 2]) ∧ Below w.heap.size w w' := by
  have h0 : ¬ ((kd = 1 ∧ 1 ≤ l ∧ l ≤ 16) ∨ (kd = 2 ∧ 1 ≤ l ∧ l ≤ 48)) := of_decide_eq_false h
  by_cases h1 : kd = 1
  · subst h1
    have DN := Lib.hid (dsNew_no l w (fun q => h0 (.inl ⟨rfl, q⟩)))
    clear h h0
    go_enter Tryz.func101, Tryz.ntmps101
    go_wp2_with (first | (go_at_call 128; refine DN.out.mono ?_; rintro e w1 ⟨rfl, rfl⟩) | (go_at_call 129; refine (poIfOK_no _ _).mono ?_; rintro e w1 ⟨rfl, rfl⟩))
    go_ret2
    exact ⟨rfl, (Below.refl _ _).alloc (Nat.le_refl _) _⟩
  · have h1' : (kd == 1) = false := by simpa using h1
    by_cases h2 : kd = 2
    · subst h2
      have DN := Lib.hid (pbNew_no l w (fun q => h0 (.inr ⟨rfl, q⟩)))
      clear h h0 h1
      go_enter Tryz.func101, Tryz.ntmps101
      go_wp2_with (first | (go_at_call 130; refine DN.out.mono ?_; rintro e w1 ⟨rfl, rfl⟩) | (go_at_call 129; refine (poIfOK_no _ _).mono ?_; rintro e w1 ⟨rfl, rfl⟩))
      go_ret2
      exact ⟨rfl, (Below.refl _ _).alloc (Nat.le_refl _) _⟩
    · have h2' : (kd == 2) = false := by simpa using h2
      clear h h0 h1 h2
      go_enter Tryz.func101, Tryz.ntmps101
      go_wp2_with fail
      go_ret2
      exact ⟨rfl, Below.refl _ _⟩
set_option maxHeartbeats 1600000 in
theorem poNew_any (kd l : Int) (w : World) (h : isP kd l = true) : Calls Tryz.prog 101 #[.int .i64 kd, .int .i64 l] w fun e w' =>
    ∃ p g h, e = .returned (.tuple #[.pointer (some ⟨p, 0, none⟩), .int .i64 0]) ∧ PoA w' w.heap.size p g h kd l 0 [] ∧ Below w.heap.size w w' := by
  rcases of_decide_eq_true h with ⟨rfl, h1, h2⟩ | ⟨rfl, h1, h2⟩
  · have R := Lib.hid (roll_nil (uni_yes (l := l) ⟨h1, by omega⟩))
    clear h
    go_enter Tryz.func101, Tryz.ntmps101
    go_wp2_with fail
    refine (dsNew_any l _ h1 h2).mono ?_
    rintro e w1 ⟨g, h, rfl, d1, b1⟩
    have hz := b1.size
    have P := Lib.hid (⟨R.out, by simp, .inl ⟨rfl, h2, own_low (box2 w1 161 (.pointer (some ⟨g, 0, none⟩)) (.pointer none)) hz, d1.below ((Below.refl _ _).alloc (Nat.le_refl _) _)⟩⟩ : PoA (w1.alloc (.cells #[.pointer (some ⟨g, 0, none⟩), .pointer none] 161)) w.heap.size w1.heap.size g h 1 l 0 [])
    have HB := Lib.hid (b1.alloc hz (.cells #[.pointer (some ⟨g, 0, none⟩), .pointer none] 161))
    clear d1 b1
    go_wp2_with (go_at_call 129; refine (poIfOK_ok _ _).mono ?_; rintro e w1 ⟨rfl, rfl⟩)
    go_ret2
    exact ⟨_, g, h, rfl, P.out, HB.out⟩
  · have T := Lib.hid (tb_new (uni_yes (l := l) ⟨h1, h2⟩))
    clear h
    go_enter Tryz.func101, Tryz.ntmps101
    go_wp2_with fail
    refine (pbNew_any l _ h1 h2).mono ?_
    rintro e w1 ⟨g, h, rfl, d1, b1⟩
    have hz := b1.size
    have P := Lib.hid (⟨T.out.roll, by simp, .inr ⟨rfl, own_low (box2 w1 161 (.pointer none) (.pointer (some ⟨g, 0, none⟩))) hz, 3, List.replicate 8 nz, Ps.below d1 ((Below.refl _ _).alloc (Nat.le_refl _) _), T.out, szc_new⟩⟩ : PoA (w1.alloc (.cells #[.pointer none, .pointer (some ⟨g, 0, none⟩)] 161)) w.heap.size w1.heap.size g h 2 l 0 [])
    have HB := Lib.hid (b1.alloc hz (.cells #[.pointer none, .pointer (some ⟨g, 0, none⟩)] 161))
    clear d1 b1
    go_wp2_with (go_at_call 129; refine (poIfOK_ok _ _).mono ?_; rintro e w1 ⟨rfl, rfl⟩)
    go_ret2
    exact ⟨_, g, h, rfl, P.out, HB.out⟩
theorem poL_nil (w : World) : Calls Tryz.prog 108 #[.pointer none] w fun e w' => e = .returned (.int .i64 0) ∧ w = w' := by
  go_enter Tryz.func108, Tryz.ntmps108
  go_wp2_with (first | (go_at_call 77; refine (poStores_nil _).mono ?_; rintro e w1 ⟨rfl, rfl⟩) | (go_at_call 140; refine (dsL_nil _).mono ?_; rintro e w1 ⟨rfl, rfl⟩))
  go_ret
  exact ⟨rfl, rfl⟩
theorem poLen_nil (w : World) : Calls Tryz.prog 104 #[.pointer none] w fun e w' => e = .returned (.int .i64 0) ∧ w = w' := by
  go_enter Tryz.func104, Tryz.ntmps104
  go_wp2_with (first | (go_at_call 77; refine (poStores_nil _).mono ?_; rintro e w1 ⟨rfl, rfl⟩) | (go_at_call 135; refine (dsLen_nil _).mono ?_; rintro e w1 ⟨rfl, rfl⟩))
  go_ret
  exact ⟨rfl, rfl⟩
theorem poTotal_nil (w : World) : Calls Tryz.prog 40 #[.pointer none] w fun e w' => e = .returned (.int .i64 0) ∧ w = w' := by
  go_enter Tryz.func40, Tryz.ntmps40
  go_wp2_with (first | (go_at_call 77; refine (poStores_nil _).mono ?_; rintro e w1 ⟨rfl, rfl⟩) | (go_at_call 79; refine (dsTotal_nil _).mono ?_; rintro e w1 ⟨rfl, rfl⟩))
  go_ret
  exact ⟨rfl, rfl⟩
theorem poGet_nil (a : Int) (w : World) (A0 : -9223372036854775808 ≤ a) (A1 : a ≤ 9223372036854775807) : Calls Tryz.prog 126 #[.pointer none, .int .i64 a] w fun e w' => e = .returned (.int .i64 0) ∧ w = w' := by
  go_enter Tryz.func126, Tryz.ntmps126
  go_wp2_with (first | (go_at_call 77; refine (poStores_nil _).mono ?_; rintro e w1 ⟨rfl, rfl⟩) | (go_at_call 155; refine (dsGet_nil _ _ A0 A1).mono ?_; rintro e w1 ⟨rfl, rfl⟩))
  go_ret
  exact ⟨rfl, rfl⟩
theorem poAdd_nil (a b : Int) (w : World) : Calls Tryz.prog 103 #[.pointer none, .int .i64 a, .int .i64 b] w fun e w' => e = .returned (.int .i64 1) ∧ w = w' := by
  go_enter Tryz.func103, Tryz.ntmps103
  go_wp2_with (first | (go_at_call 77; refine (poStores_nil _).mono ?_; rintro e w1 ⟨rfl, rfl⟩) | (go_at_call 133; refine (dsAdd_nil _ _ _).mono ?_; rintro e w1 ⟨rfl, rfl⟩))
  go_ret
  exact ⟨rfl, rfl⟩
theorem poTake_nil (a : Int) (w : World) (A0 : -9223372036854775808 ≤ a) (A1 : a ≤ 9223372036854775807) : Calls Tryz.prog 188 #[.pointer none, .int .i64 a] w fun e w' => e = .returned (.int .i64 0) ∧ w = w' := by
  go_enter Tryz.func188, Tryz.ntmps188
  go_wp2_with (first | (go_at_call 77; refine (poStores_nil _).mono ?_; rintro e w1 ⟨rfl, rfl⟩) | (go_at_call 198; refine (dsTake_nil _ _ A0 A1).mono ?_; rintro e w1 ⟨rfl, rfl⟩))
  go_ret
  exact ⟨rfl, rfl⟩
theorem poSnap_nil (w : World) : Calls Tryz.prog 115 #[.pointer none] w fun e w' => e = .returned (.slice none 0 0) ∧ w = w' := by
  go_enter Tryz.func115, Tryz.ntmps115
  go_wp2_with (first | (go_at_call 77; refine (poStores_nil _).mono ?_; rintro e w1 ⟨rfl, rfl⟩) | (go_at_call 143; refine (dsSnap_nil _).mono ?_; rintro e w1 ⟨rfl, rfl⟩))
  go_ret
  exact ⟨rfl, rfl⟩
set_option maxHeartbeats 800000 in
theorem poL_any {B p g h : Nat} {kd l : Int} {n : Nat} {L : List Nd} (w : World) (d : PoA w B p g h kd l n L) (hn : n ≤ 1000) :
    Calls Tryz.prog 108 #[.pointer (some ⟨p, 0, none⟩)] w fun e w' => e = .returned (.int .i64 l) ∧ ∃ q, w' = w.drewN q := by
  have R := Lib.hid d.roll
  rcases d.st with ⟨hk, hl, bx, q⟩ | ⟨hk, bx, b, S, q, t, z⟩
  · have BX := Lib.hid bx
    have Q : Hid (∀ m, DsA (w.drewN m) B g h l L) := fun m => q.below (drewN_below (Below.refl _ _) m)
    have HK := Lib.hid hk
    clear d bx q
    go_enter Tryz.func108, Tryz.ntmps108
    go_wp2_with (first | (go_at_call 77; refine (poStores_any _ BX.out).mono ?_; rintro e w1 ⟨rfl, m, rfl⟩) | (go_at_call 140; refine (dsL_any _ (Q.out _)).mono ?_; rintro e w1 ⟨rfl, rfl⟩))
    go_ret
    exact ⟨rfl, m, rfl⟩
  · have BX := Lib.hid bx
    have hb := szc_b4 z hn
    have T := Lib.hid t
    have Q : Hid (∀ m, PbA (w.drewN m) B g h l (L.length : Int) (sumC L) b S) := fun m => Ps.below q (drewN_below (Below.refl _ _) m)
    have HK := Lib.hid hk
    clear d bx q t
    go_enter Tryz.func108, Tryz.ntmps108
    go_wp2_with (first | (go_at_call 77; refine (poStores_any _ BX.out).mono ?_; rintro e w1 ⟨rfl, m, rfl⟩) | (go_at_call 139; refine (pbL_any _ (Q.out _)).mono ?_; rintro e w1 ⟨rfl, rfl⟩))
    go_ret
    exact ⟨rfl, m, rfl⟩
set_option maxHeartbeats 800000 in
theorem poLen_any {B p g h : Nat} {kd l : Int} {n : Nat} {L : List Nd} (w : World) (d : PoA w B p g h kd l n L) (hn : n ≤ 1000) :
    Calls Tryz.prog 104 #[.pointer (some ⟨p, 0, none⟩)] w fun e w' => e = .returned (.int .i64 (L.length : Int)) ∧ ∃ q, w' = w.drewN q := by
  have R := Lib.hid d.roll
  rcases d.st with ⟨hk, hl, bx, q⟩ | ⟨hk, bx, b, S, q, t, z⟩
  · have BX := Lib.hid bx
    have Q : Hid (∀ m, DsA (w.drewN m) B g h l L) := fun m => q.below (drewN_below (Below.refl _ _) m)
    have HK := Lib.hid hk
    clear d bx q
    go_enter Tryz.func104, Tryz.ntmps104
    go_wp2_with (first | (go_at_call 77; refine (poStores_any _ BX.out).mono ?_; rintro e w1 ⟨rfl, m, rfl⟩) | (go_at_call 135; refine (dsLen_any _ (Q.out _)).mono ?_; rintro e w1 ⟨rfl, rfl⟩))
    go_ret
    exact ⟨rfl, m, rfl⟩
  · have BX := Lib.hid bx
    have hb := szc_b4 z hn
    have T := Lib.hid t
    have Q : Hid (∀ m, PbA (w.drewN m) B g h l (L.length : Int) (sumC L) b S) := fun m => Ps.below q (drewN_below (Below.refl _ _) m)
    have HK := Lib.hid hk
    clear d bx q t
    go_enter Tryz.func104, Tryz.ntmps104
    go_wp2_with (first | (go_at_call 77; refine (poStores_any _ BX.out).mono ?_; rintro e w1 ⟨rfl, m, rfl⟩) | (go_at_call 134; refine (pbLen_any _ (Q.out _)).mono ?_; rintro e w1 ⟨rfl, rfl⟩))
    go_ret
    exact ⟨rfl, m, rfl⟩
set_option maxHeartbeats 800000 in
theorem poTotal_any {B p g h : Nat} {kd l : Int} {n : Nat} {L : List Nd} (w : World) (d : PoA w B p g h kd l n L) (hn : n ≤ 1000) :
    Calls Tryz.prog 40 #[.pointer (some ⟨p, 0, none⟩)] w fun e w' => e = .returned (.int .i64 (sumC L)) ∧ ∃ q, w' = w.drewN q := by
  have R := Lib.hid d.roll
  rcases d.st with ⟨hk, hl, bx, q⟩ | ⟨hk, bx, b, S, q, t, z⟩
  · have BX := Lib.hid bx
    have Q : Hid (∀ m, DsA (w.drewN m) B g h l L) := fun m => q.below (drewN_below (Below.refl _ _) m)
    have HK := Lib.hid hk
    clear d bx q
    go_enter Tryz.func40, Tryz.ntmps40
    go_wp2_with (first | (go_at_call 77; refine (poStores_any _ BX.out).mono ?_; rintro e w1 ⟨rfl, m, rfl⟩) | (go_at_call 79; refine (dsTotal_any _ (Q.out _)).mono ?_; rintro e w1 ⟨rfl, rfl⟩))
    go_ret
    exact ⟨rfl, m, rfl⟩
  · have BX := Lib.hid bx
    have hb := szc_b4 z hn
    have T := Lib.hid t
    have Q : Hid (∀ m, PbA (w.drewN m) B g h l (L.length : Int) (sumC L) b S) := fun m => Ps.below q (drewN_below (Below.refl _ _) m)
    have HK := Lib.hid hk
    clear d bx q t
    go_enter Tryz.func40, Tryz.ntmps40
    go_wp2_with (first | (go_at_call 77; refine (poStores_any _ BX.out).mono ?_; rintro e w1 ⟨rfl, m, rfl⟩) | (go_at_call 78; refine (pbTotal_any _ (Q.out _)).mono ?_; rintro e w1 ⟨rfl, rfl⟩))
    go_ret
    exact ⟨rfl, m, rfl⟩
set_option maxHeartbeats 800000 in
theorem poGet_any {B p g h : Nat} {kd l : Int} {n : Nat} {L : List Nd} (a : Int) (w : World) (d : PoA w B p g h kd l n L) (hn : n ≤ 1000) (A0 : -9223372036854775808 ≤ a) (A1 : a ≤ 9223372036854775807) :
    Calls Tryz.prog 126 #[.pointer (some ⟨p, 0, none⟩), .int .i64 a] w fun e w' => e = .returned (.int .i64 (sumAt a L)) ∧ ∃ q, w' = w.drewN q := by
  have R := Lib.hid d.roll
  rcases d.st with ⟨hk, hl, bx, q⟩ | ⟨hk, bx, b, S, q, t, z⟩
  · have BX := Lib.hid bx
    have Q : Hid (∀ m, DsA (w.drewN m) B g h l L) := fun m => q.below (drewN_below (Below.refl _ _) m)
    have HK := Lib.hid hk
    clear d bx q
    go_enter Tryz.func126, Tryz.ntmps126
    go_wp2_with (first | (go_at_call 77; refine (poStores_any _ BX.out).mono ?_; rintro e w1 ⟨rfl, m, rfl⟩) | (go_at_call 155; refine (dsGet_any _ _ (Q.out _) R.out hl A0 A1).mono ?_; rintro e w1 ⟨rfl, rfl⟩))
    go_ret
    exact ⟨rfl, m, rfl⟩
  · have BX := Lib.hid bx
    have hb := szc_b4 z hn
    have T := Lib.hid t
    have Q : Hid (∀ m, PbA (w.drewN m) B g h l (L.length : Int) (sumC L) b S) := fun m => Ps.below q (drewN_below (Below.refl _ _) m)
    have HK := Lib.hid hk
    clear d bx q t
    go_enter Tryz.func126, Tryz.ntmps126
    go_wp2_with (first | (go_at_call 77; refine (poStores_any _ BX.out).mono ?_; rintro e w1 ⟨rfl, m, rfl⟩) | (go_at_call 154; refine (pbGet_any _ _ (Q.out _) T.out (by omega) A0 A1).mono ?_; rintro e w1 ⟨rfl, rfl⟩))
    go_ret
    exact ⟨rfl, m, rfl⟩
set_option maxHeartbeats 800000 in
theorem poSnap_any {B p g h : Nat} {kd l : Int} {n : Nat} {L : List Nd} (w : World) (d : PoA w B p g h kd l n L) (hn : n ≤ 1000) :
    Calls Tryz.prog 115 #[.pointer (some ⟨p, 0, none⟩)] w (ListOwn 87 L w) := by
  have R := Lib.hid d.roll
  have hlen := d.len
  rcases d.st with ⟨hk, hl, bx, q⟩ | ⟨hk, bx, b, S, q, t, z⟩
  · have BX := Lib.hid bx
    have Q : Hid (∀ m, DsA (w.drewN m) B g h l L) := fun m => q.below (drewN_below (Below.refl _ _) m)
    clear d bx q
    go_enter Tryz.func115, Tryz.ntmps115
    go_wp2_with (first | (go_at_call 77; refine (poStores_any _ BX.out).mono ?_; rintro e w1 ⟨rfl, m, rfl⟩) | (go_at_call 143; refine (dsSnap_own _ (Q.out _) R.out hl).mono ?_; rintro e w1 ⟨A3, m3, c3, rfl, hn3, hb3⟩))
    go_ret
    exact ⟨A3, m3, c3, rfl, hn3, (drewN_below (Below.refl _ _) m).trans hb3⟩
  · have BX := Lib.hid bx
    have hb := szc_b4 z hn
    have T := Lib.hid t
    have Q : Hid (∀ m, PbA (w.drewN m) B g h l (L.length : Int) (sumC L) b S) := fun m => Ps.below q (drewN_below (Below.refl _ _) m)
    clear d bx q t
    go_enter Tryz.func115, Tryz.ntmps115
    go_wp2_with (first | (go_at_call 77; refine (poStores_any _ BX.out).mono ?_; rintro e w1 ⟨rfl, m, rfl⟩) | (go_at_call 142; refine (pbSnap_own _ (Q.out _) T.out (by omega) (by omega)).mono ?_; rintro e w1 ⟨A3, m3, c3, rfl, hn3, hb3⟩))
    go_ret
    exact ⟨A3, m3, c3, rfl, hn3, (drewN_below (Below.refl _ _) m).trans hb3⟩
/-- what a call that may write leaves of a pool (161) -/
def PoPost (B p g h : Nat) (kd l : Int) (n : Nat) (M : List Nd) (x : Int) (w : World) (e : Ending) (w' : World) : Prop := e = .returned (.int .i64 x) ∧ ∃ h2, PoA w' B p g h2 kd l n M ∧ Chg g h w w' ∧ (h2 = h ∨ w.heap.size ≤ h2)
set_option maxHeartbeats 1600000 in
theorem poAdd_n {B p g h : Nat} {kd l : Int} {n : Nat} {L : List Nd} (m : Nat) (a c : Int) (w : World) (d : PoA w B p g h kd l n L) (hn : n ≤ 1000) (hm : n ≤ m) (hl' : (addS l L a c).length ≤ m) (A0 : -9223372036854775808 ≤ a) (A1 : a ≤ 9223372036854775807) (B0 : -9223372036854775808 ≤ c) (B1 : c ≤ 9223372036854775807) :
    Calls Tryz.prog 103 #[.pointer (some ⟨p, 0, none⟩), .int .i64 a, .int .i64 c] w (PoPost B p g h kd l m (addS l L a c) (addE l L a c) w) := by
  have R := Lib.hid d.roll
  have hlen := d.len
  have D := Lib.hid d
  have LN : Hid ((addS l L a c).length ≤ m) := hl'
  have RN : Hid (RollC l (addS l L a c)) := roll_addS d.roll
  rcases d.st with ⟨hk, hl, bx, q⟩ | ⟨hk, bx, b, S, q, t, z⟩
  · have BX := Lib.hid bx
    have Q : Hid (∀ m, DsA (w.drewN m) B g h l L) := fun m => q.below (drewN_below (Below.refl _ _) m)
    have HK := Lib.hid hk
    clear d bx q
    go_enter Tryz.func103, Tryz.ntmps103
    go_wp2_with (first | (go_at_call 77; refine (poStores_any _ BX.out).mono ?_; rintro e w1 ⟨rfl, mq, rfl⟩) | (go_at_call 133; refine (dsAdd_any _ _ _ (Q.out _) R.out hl A0 A1 B0 B1).mono ?_; rintro e w1 ⟨rfl, hd, hc⟩))
    go_ret
    have c2 := (Chg.of (g := g) (h := h) (drewN_below (Below.refl _ w) mq)).trans hc
    exact ⟨rfl, h, ⟨RN.out, LN.out, .inl ⟨HK.out, hl, D.out.other BX.out c2 (by decide) (by decide) (by decide) (by decide), hd⟩⟩, c2, .inl rfl⟩
  · have BX := Lib.hid bx
    have hb := szc_b4 z hn
    have T := Lib.hid t
    have Z := Lib.hid z
    have Q : Hid (∀ m, PbA (w.drewN m) B g h l (L.length : Int) (sumC L) b S) := fun m => Ps.below q (drewN_below (Below.refl _ _) m)
    have HK := Lib.hid hk
    have TN := Lib.hid (tb_ad t (show b ≤ 61 by omega) a c)
    have ZN : Hid (SzC m (adB l b S L a c) (addS l L a c)) := z.next hm hl' (by have q := (doB_bd t 0 a c).2.2; rw [(dobs_zero rfl).1] at q; exact q)
    clear d bx q t z
    go_enter Tryz.func103, Tryz.ntmps103
    go_wp2_with (first | (go_at_call 77; refine (poStores_any _ BX.out).mono ?_; rintro e w1 ⟨rfl, mq, rfl⟩) | (go_at_call 132; refine (pbAdd_any _ _ _ (Q.out _) T.out (by omega) A0 A1 B0 B1).mono ?_; rintro e w1 ⟨rfl, h2, hd, hc, hh⟩))
    go_ret
    have c2 := (Chg.of (g := g) (h := h) (drewN_below (Below.refl _ w) mq)).trans hc
    exact ⟨rfl, h2, ⟨RN.out, LN.out, .inr ⟨HK.out, D.out.other BX.out c2 (by decide) (by decide) (by decide) (by decide), (adB l b S L a c), adS l b S L a c, hd, TN.out, ZN.out⟩⟩, c2, hh⟩
theorem poAdd_any {B p g h : Nat} {kd l : Int} {n : Nat} {L : List Nd} (a c : Int) (w : World) (d : PoA w B p g h kd l n L) (hn : n ≤ 1000) (A0 : -9223372036854775808 ≤ a) (A1 : a ≤ 9223372036854775807) (B0 : -9223372036854775808 ≤ c) (B1 : c ≤ 9223372036854775807) :
    Calls Tryz.prog 103 #[.pointer (some ⟨p, 0, none⟩), .int .i64 a, .int .i64 c] w (PoPost B p g h kd l (n + 1) (addS l L a c) (addE l L a c) w) :=
  poAdd_n (n + 1) a c w d hn (Nat.le_succ n) (Nat.le_trans (addS_len d.roll) (Nat.succ_le_succ d.len)) A0 A1 B0 B1
set_option maxHeartbeats 1600000 in
theorem poTake_n {B p g h : Nat} {kd l : Int} {n : Nat} {L : List Nd} (a : Int) (w : World) (d : PoA w B p g h kd l n L) (hn : n ≤ 1000) (A0 : -9223372036854775808 ≤ a) (A1 : a ≤ 9223372036854775807) :
    Calls Tryz.prog 188 #[.pointer (some ⟨p, 0, none⟩), .int .i64 a] w (PoPost B p g h kd l n (remW L a) (sumAt a L) w) := by
  have R := Lib.hid d.roll
  have hlen := d.len
  have D := Lib.hid d
  have LN : Hid ((remW L a).length ≤ n) := Nat.le_trans (rem_le L a) d.len
  have RN : Hid (RollC l (remW L a)) := roll_rem d.roll
  rcases d.st with ⟨hk, hl, bx, q⟩ | ⟨hk, bx, b, S, q, t, z⟩
  · have BX := Lib.hid bx
    have Q : Hid (∀ m, DsA (w.drewN m) B g h l L) := fun m => q.below (drewN_below (Below.refl _ _) m)
    have HK := Lib.hid hk
    clear d bx q
    go_enter Tryz.func188, Tryz.ntmps188
    go_wp2_with (first | (go_at_call 77; refine (poStores_any _ BX.out).mono ?_; rintro e w1 ⟨rfl, m, rfl⟩) | (go_at_call 198; refine (dsTake_any _ _ (Q.out _) R.out hl A0 A1).mono ?_; rintro e w1 ⟨rfl, hd, hc⟩))
    go_ret
    have c2 := (Chg.of (g := g) (h := h) (drewN_below (Below.refl _ w) m)).trans hc
    exact ⟨rfl, h, ⟨RN.out, LN.out, .inl ⟨HK.out, hl, D.out.other BX.out c2 (by decide) (by decide) (by decide) (by decide), hd⟩⟩, c2, .inl rfl⟩
  · have BX := Lib.hid bx
    have hb := szc_b4 z hn
    have T := Lib.hid t
    have Z := Lib.hid z
    have Q : Hid (∀ m, PbA (w.drewN m) B g h l (L.length : Int) (sumC L) b S) := fun m => Ps.below q (drewN_below (Below.refl _ _) m)
    have HK := Lib.hid hk
    have TN := Lib.hid (take_tb t a)
    have ZN : Hid (SzC n b (remW L a)) := ⟨Nat.le_trans (rem_le L a) d.len, z.2⟩
    clear d bx q t z
    go_enter Tryz.func188, Tryz.ntmps188
    go_wp2_with (first | (go_at_call 77; refine (poStores_any _ BX.out).mono ?_; rintro e w1 ⟨rfl, m, rfl⟩) | (go_at_call 197; refine (pbTake_any _ _ (Q.out _) T.out (by omega) A0 A1).mono ?_; rintro e w1 ⟨rfl, hd, hc⟩))
    go_ret
    have c2 := (Chg.of (g := g) (h := h) (drewN_below (Below.refl _ w) m)).trans hc
    exact ⟨rfl, h, ⟨RN.out, LN.out, .inr ⟨HK.out, D.out.other BX.out c2 (by decide) (by decide) (by decide) (by decide), b, takeS l b S a, hd, TN.out, ZN.out⟩⟩, c2, .inl rfl⟩
theorem poTake_any {B p g h : Nat} {kd l : Int} {n : Nat} {L : List Nd} (a : Int) (w : World) (d : PoA w B p g h kd l n L) (hn : n ≤ 1000) (A0 : -9223372036854775808 ≤ a) (A1 : a ≤ 9223372036854775807) :
    Calls Tryz.prog 188 #[.pointer (some ⟨p, 0, none⟩), .int .i64 a] w (PoPost B p g h kd l (n + 1) (remW L a) (sumAt a L) w) :=
  (poTake_n a w d hn A0 A1).mono fun e w' ⟨h1, h2, h3, h4⟩ => ⟨h1, h2, h3.more (Nat.le_succ n), h4⟩

end Go.Proofs.YtkoefclkpdpdpaaGreat

/- The project's package pool: Clone, Same and Load of pools that lie in memory; which pools there are, by the document. -/
namespace Go.Proofs.YtkoefclkpdpdpaaGreat
set_option linter.unusedVariables false
set_option maxRecDepth 100000
open Go.RowKit

theorem sumC_take {L : List Nd} (h : NonNeg L) (k : Nat) : sumC (L.take k) ≤ sumC L := by
  have e := sumC_app (L.take k) (L.drop k)
  rw [List.take_append_drop] at e
  have := sumC_nonneg (L := L.drop k) (fun n hn => h n (List.mem_of_mem_drop hn))
  omega
theorem roll_take {l : Int} {L : List Nd} (h : RollC l L) (k : Nat) : RollC l (L.take k) :=
  ⟨h.1, h.2.1.sublist (List.take_sublist k L), fun n hn => h.2.2.1 n (List.mem_of_mem_take hn), fun n hn => h.2.2.2.1 n (List.mem_of_mem_take hn), by have := sumC_take h.2.2.2.1 k; have := h.2.2.2.2; omega⟩
/-- a roll is added node by node -/
theorem add_take {l : Int} {L : List Nd} (h : RollC l L) {k : Nat} (hk : k < L.length) :
    addS l (L.take k) (L.getD k nz).1 (L.getD k nz).2 = L.take (k + 1) ∧ addE l (L.take k) (L.getD k nz).1 (L.getD k nz).2 = 0 := by
  have hm := h.2.2.1 _ (nd_mem hk)
  have e := nd_take hk
  have hs := sumC_app (L.take k) [L.getD k nz]
  rw [← e] at hs
  have s1 : sumC [L.getD k nz] = (L.getD k nz).2 := by simp [sumC]
  have hr := roll_take h (k + 1)
  have hq := hr.2.2.2.2
  have ok := add_ok (l := l) (L := L.take k) hm.1 (show ¬ (L.getD k nz).2 < 0 by omega) (by omega)
  refine ⟨?_, ok.1⟩
  rw [ok.2]
  refine good_uniq _ _ (addW_good (roll_good (roll_take h k)) (by omega)) (roll_good hr) fun id => ?_
  rw [addW_sum, e, sumAt_app]
  simp [sumAt]
theorem poIs_any (kd l : Int) (w : World) : Calls Tryz.prog 110 #[.int .i64 kd, .int .i64 l] w fun e w' => e = .returned (.bool (isP kd l)) ∧ w = w' := by
  by_cases h : isP kd l = true
  · have H := Lib.hid h
    rcases of_decide_eq_true h with ⟨rfl, h1, h2⟩ | ⟨rfl, h1, h2⟩
    all_goals
      clear h
      go_enter Tryz.func110, Tryz.ntmps110
      go_wp2_with fail
      go_ret
      exact ⟨ret_b (by rw [H.out] <;> first | rfl | exact decide_eq_false (by omega) | exact decide_eq_true (by omega)), rfl⟩
  · have H := Lib.hid (Bool.eq_false_iff.2 h)
    have h0 : ¬ ((kd = 1 ∧ 1 ≤ l ∧ l ≤ 16) ∨ (kd = 2 ∧ 1 ≤ l ∧ l ≤ 48)) := of_decide_eq_false H.out
    clear h
    by_cases h1 : kd = 1
    · subst h1
      rcases (show l < 1 ∨ (1 ≤ l ∧ 16 < l) by omega) with q | ⟨q1, q2⟩
      all_goals
        clear h0
        go_enter Tryz.func110, Tryz.ntmps110
        go_wp2_with fail
        go_ret
        exact ⟨ret_b (by rw [H.out] <;> first | rfl | exact decide_eq_false (by omega) | exact decide_eq_true (by omega)), rfl⟩
    · have h1' : (kd == 1) = false := by simpa using h1
      by_cases h2 : kd = 2
      · subst h2
        rcases (show l < 1 ∨ (1 ≤ l ∧ 48 < l) by omega) with q | ⟨q1, q2⟩
        all_goals
          clear h0 h1
          go_enter Tryz.func110, Tryz.ntmps110
          go_wp2_with fail
          go_ret
          exact ⟨ret_b (by rw [H.out] <;> first | rfl | exact decide_eq_false (by omega) | exact decide_eq_true (by omega)), rfl⟩
      · have h2' : (kd == 2) = false := by simpa using h2
        clear h0 h1 h2
        go_enter Tryz.func110, Tryz.ntmps110
        go_wp2_with fail
        go_ret
        exact ⟨ret_b (by rw [H.out] <;> first | rfl | exact decide_eq_false (by omega) | exact decide_eq_true (by omega)), rfl⟩
/-- what Load leaves -/
def LoadPost (kd l : Int) (L : List Nd) (w : World) (e : Ending) (w' : World) : Prop := Below w.heap.size w w' ∧
  ((isP kd l = false ∧ e = .returned (.tuple #[.pointer none, .int .i64 2])) ∨ (isP kd l = true ∧ rollB l L = false ∧ e = .returned (.tuple #[.pointer none, .int .i64 10])) ∨
   (isP kd l = true ∧ rollB l L = true ∧ ∃ p g h, e = .returned (.tuple #[.pointer (some ⟨p, 0, none⟩), .int .i64 0]) ∧ PoA w' w.heap.size p g h kd l L.length L))
set_option maxHeartbeats 3200000 in
theorem poLoad_any (kd l : Int) (A : Option Addr) (m c : Nat) (L : List Nd) (w : World) (hv : NodesAt w (.slice A m c) L) (hB : NBds L) (hm : m ≤ 1000) (L0 : -9223372036854775808 ≤ l) (L1 : l ≤ 9223372036854775807) :
    Calls Tryz.prog 66 #[.int .i64 kd, .int .i64 l, .slice A m c] w (LoadPost kd l L w) := by
  obtain ⟨hlen, hlc, hcm, hat⟩ := nodes_cells hv
  have HL := Lib.hid hlen
  have HA := Lib.hid hat
  have HV := Lib.hid hv
  have HBB : Hid (NBds L) := hB
  clear hlen hat hv hB hlc hcm
  cases hi : isP kd l
  · have H := Lib.hid hi
    clear hi
    go_enter Tryz.func66, Tryz.ntmps66
    go_wp2_with (go_at_call 101; refine (poNew_no kd l _ H.out).mono ?_; rintro e w1 ⟨rfl, hb1⟩)
    go_ret2
    exact ⟨hb1, .inl ⟨H.out, rfl⟩⟩
  · have H := Lib.hid hi
    clear hi
    cases hr : rollB l L
    · have HR := Lib.hid hr
      clear hr
      go_enter Tryz.func66, Tryz.ntmps66
      go_wp2_with fail
      refine (poNew_any kd l _ H.out).mono ?_
      rintro e w1 ⟨p, g, h, rfl, hd, hb1⟩
      have RR := Lib.hid (rollRight_any l A m c L w1 (HV.out.below hb1) HBB.out (by omega) L0 L1)
      have HB1 := Lib.hid hb1
      unfold RightPost at RR
      rw [HR.out] at RR
      clear hd hb1
      go_wp2_with (go_at_call 102; refine RR.out.mono ?_; rintro e w2 ⟨rfl, hb2⟩)
      go_ret2
      exact ⟨HB1.out.trans (hb2.mono HB1.out.size), .inr (.inl ⟨H.out, HR.out, rfl⟩)⟩
    · have HR := Lib.hid hr
      have RC := Lib.hid (roll_iff.1 hr)
      clear hr
      go_enter Tryz.func66, Tryz.ntmps66
      go_wp2_with fail
      refine (poNew_any kd l _ H.out).mono ?_
      rintro e w1 ⟨p, g, h, rfl, hd, hb1⟩
      have RR := Lib.hid (rollRight_any l A m c L w1 (HV.out.below hb1) HBB.out (by omega) L0 L1)
      have HD := Lib.hid hd
      have HB1 := Lib.hid hb1
      unfold RightPost at RR
      rw [HR.out] at RR
      clear hd hb1
      go_wp2_with (go_at_call 102; refine RR.out.mono ?_; rintro e w2 ⟨rfl, hb2⟩)
      have HD2 := Lib.hid (HD.out.below hb2)
      have HB2 := Lib.hid (HB1.out.trans (hb2.mono HB1.out.size))
      clear hb2
      go_loopw [27] (fun i wr => ∃ (k h : Nat), k ≤ m ∧ i = .int .i64 k ∧ PoA wr w.heap.size p g h kd l k (L.take k) ∧ Below w.heap.size w wr) (fun i _ => m - (intOf i).toNat)
      case atStart => exact ⟨0, h, by omega, rfl, HD2.out, HB2.out⟩
      case round =>
        rename_i wr
        obtain ⟨k, h, hk, rfl, hd, hb⟩ := hrel
        have PD := Lib.hid hd
        have BB := Lib.hid hb
        have hzr := hb.size
        by_cases hlt : k < m
        · have hkl : k < L.length := by have := HL.out; omega
          obtain ⟨bq, o, rfl, hin⟩ := HA.out (by have := HL.out; omega)
          obtain ⟨e0, e1⟩ := (hin.below hb hin.1).2 k hkl
          have hbl := hin.1
          have hbd := HBB.out _ (nd_mem hkl)
          obtain ⟨⟨b0, b1⟩, b2, b3⟩ := hbd
          have AT := Lib.hid (add_take RC.out hkl)
          obtain ⟨x, hx⟩ : ∃ x, x = L.getD k nz := ⟨_, rfl⟩
          rw [← hx] at e0 e1 b0 b1 b2 b3 AT
          obtain ⟨id, cc⟩ := x
          simp only at e0 e1 b0 b1 b2 b3 AT
          have HBA : Hid (Below wr.heap.size wr (wr.alloc (.cells #[.int .i64 id, .int .i64 cc] 87))) := (Below.refl _ _).alloc (Nat.le_refl _) _
          have PA := Lib.hid (PD.out.below HBA.out)
          clear hin hb hd hx
          go_wp2_with fail
          refine (poAdd_any id cc _ PA.out (by omega) b0 b1 b2 b3).mono ?_
          rw [AT.out.1, AT.out.2]
          rintro e w3 ⟨rfl, h2, hd3, hc3, _⟩
          have HD3 := Lib.hid hd3
          have BW3 : Hid (Below w.heap.size w w3) := (BB.out.trans (HBA.out.mono hzr)).trans (hc3.below PD.out.lt.2.1 PD.out.lt.2.2.2.1 (by simp; omega))
          clear hd3 hc3 e0 e1
          go_wp2_with fail
          go_roundw
          case rel => exact ⟨k + 1, h2, by omega, by go_num, HD3.out, BW3.out⟩
          case measure => simp [intOf]; omega
        · have hkm : k = L.length := by have := HL.out; omega
          have PE : Hid (PoA wr w.heap.size p g h kd l L.length L) := by
            have q := PD.out
            rw [hkm, List.take_of_length_le (Nat.le_refl _)] at q
            exact q
          clear hkm hd hb
          go_wp2_with fail
          go_ret2
          exact ⟨BB.out, .inr (.inr ⟨H.out, HR.out, p, g, h, rfl, PE.out⟩)⟩

end Go.Proofs.YtkoefclkpdpdpaaGreat

/- What the statements of layer pool call: a call of the pool (do), whether it is its list (like), and the chapter's example (alive). -/
namespace Go.Proofs.YtkoefclkpdpdpaaGreat
set_option linter.unusedVariables false
set_option maxRecDepth 100000
open Go.RowKit

theorem read_below {P : Program} {f : FuncId} {args : Array Value} {w : World} {v : Value} (h : Calls P f args w fun e w' => e = .returned v ∧ ∃ q, w' = w.drewN q) : Calls P f args w fun e w' => e = .returned v ∧ Below w.heap.size w w' :=
  h.mono fun _ _ ⟨a, q, b⟩ => ⟨a, by rw [b]; exact drewN_below (Below.refl _ _) q⟩
end Go.Proofs.YtkoefclkpdpdpaaGreat

/- The project's package pool: Each: its nodes are gone over, for every loop's body that leaves blocks that are free as they are. -/
namespace Go.Proofs.YtkoefclkpdpdpaaGreat
set_option linter.unusedVariables false
set_option maxRecDepth 100000
open Go.RowKit Go.Shelf
attribute [local go_sem] Oper.semAt_some

theorem wrap_in {x : Int} (h0 : -9223372036854775808 ≤ x) (h1 : x ≤ 9223372036854775807) : wrap64 x = x := by unfold wrap64; omega
theorem wrap_bd (x : Int) : -9223372036854775808 ≤ wrap64 x ∧ wrap64 x ≤ 9223372036854775807 := by unfold wrap64; omega
/-- which blocks a loop's body leaves: such a block holds cells; it stays such a one while others than cells turn -/
structure Frm (Fr : World → Nat → Prop) : Prop where
  cells : ∀ {W : World} {k : Nat}, Fr W k → ∃ o : Obj, W.heap[k]? = some o ∧ o.isCells = true
  grown : ∀ {W W' : World} {row : Option Nat} {k : Nat}, W.grownBy W' row → (∀ r, row = some r → ∃ o : Obj, W.heap[r]? = some o ∧ o.isCells = false) → Fr W k → Fr W' k
/-- what a round keeps -/
def KpF (Fr : World → Nat → Prop) (A C : World) : Prop := A.heap.size ≤ C.heap.size ∧ ∀ k, k < A.heap.size → Fr A k → C.heap[k]? = A.heap[k]? ∧ Fr C k
theorem kpF_t {Fr : World → Nat → Prop} {A B C : World} (h : KpF Fr A B) (k : KpF Fr B C) : KpF Fr A C :=
  ⟨Nat.le_trans h.1 k.1, fun i hi hf => by
    have a := h.2 i hi hf
    have b := k.2 i (Nat.lt_of_lt_of_le hi h.1) a.2
    exact ⟨b.1.trans a.1, b.2⟩⟩
theorem kpF_b {Fr : World → Nat → Prop} (F : Frm Fr) (W : World) (l : Nat) (o o' : Obj) (h : W.heap[l]? = some o) (ho : o.isCells = false) : KpF Fr W (W.putObj l o') :=
  ⟨by simp, fun k hk hf => by
    obtain ⟨c, hc, hcc⟩ := F.cells hf
    have hne : k ≠ l := fun e => by subst e; rw [hc] at h; injection h with h; rw [h, ho] at hcc; cases hcc
    exact ⟨World.putObj_heap_other hne, F.grown (grownBy_putObj' W l o') (fun r e => by cases e; exact ⟨o, h, ho⟩) hf⟩⟩
theorem kpF_refl {Fr : World → Nat → Prop} (A : World) : KpF Fr A A := ⟨Nat.le_refl _, fun k _ hf => ⟨rfl, hf⟩⟩
/-- nothing that lay has turned -/
theorem below_none {w w' : World} (h : Below w.heap.size w w') : w.grownBy w' none := ⟨h.os, h.tape, h.output, h.size, fun k hk _ => h.block k hk⟩
theorem Frm.below {Fr : World → Nat → Prop} (F : Frm Fr) {W W' : World} {k : Nat} (hb : Below W.heap.size W W') (hf : Fr W k) : Fr W' k :=
  F.grown (below_none hb) (fun r e => by cases e) hf
theorem poEach_any (p : Option Addr) (w : World) : Calls Tryz.prog 106 #[.pointer p] w fun e w' => e = .returned (.func (.func 137) #[] #[.pointer (some ⟨w.heap.size, 0, none⟩)]) ∧ w' = w.alloc (.cells #[.pointer p] 92) := by
  go_enter Tryz.func106, Tryz.ntmps106
  go_wp2_with fail
  go_ret
  exact ⟨rfl, rfl⟩
set_option maxHeartbeats 3200000 in
/-- the closure that Each hands out goes over the pool's nodes -/
theorem each1_in (n l Bp p B g h : Nat) {kd ll : Int} {m : Nat} {L : List Nd} (hm : m ≤ 1000) (Fr : World → Nat → Prop) (FR : Frm Fr) (J Jx : List Nd → World → Prop)
    (hY : ∀ pre x W, J pre W → pre.length < L.length → YieldAt Fence.wide (n - 1) Tryz.prog l #[.int .i64 (wrap64 x.1), .int .i64 (wrap64 x.2)] W fun e W' =>
      (e = .returned (.bool true) ∧ J (pre ++ [x]) W' ∧ KpF Fr W W') ∨ (e = .returned (.bool false) ∧ Jx (pre ++ [x]) W'))
    (hJ : ∀ pre W W', J pre W → Below W.heap.size W W' → J pre W')
    (W : World) (hBp : W.cell? ⟨Bp, 0, none⟩ = some (.pointer (some ⟨p, 0, none⟩))) (d : PoA W B p g h kd ll m L) (hN : ∀ W2 k, Below W.heap.size W W2 → W.heap.size ≤ k → (∃ o : Obj, W2.heap[k]? = some o ∧ o.isCells = true) → Fr W2 k) (h0 : J [] W) :
    CallsIn Fence.wide n Tryz.prog 137 #[.func (.yield l) #[] #[], .pointer (some ⟨Bp, 0, none⟩)] W fun e W' => (∃ v, e = .returned v) ∧
      ((∃ ys, ys = L ∧ J ys W') ∨ (∃ pre, pre <+: L ∧ Jx pre W')) := by
  have D := Lib.hid d
  have HN := Lib.hid hN
  have hlen := d.len
  have NB := Lib.hid (nbds_roll d.roll)
  clear d hN
  refine callsIn_of_wp Tryz.func137 rfl trivial ?_ rfl
  simp only [Tryz.ntmps137, List.size_toArray, List.length_cons, List.length_nil, Nat.reduceAdd, Nat.reduceSub, Array.replicate_succ, Array.replicate_zero, List.push_toArray, List.append_toArray, List.nil_append, List.cons_append]
  gi_wp2
  refine ⟨trivial, fun hq => (by cases hq), (callsIn_wide.2 (poSnap_any _ D.out hm)).mono ?_⟩
  rintro e W2 ⟨A3, m3, c3, rfl, ho, hb⟩
  have HJ2 := Lib.hid (hJ _ _ _ h0 hb)
  have hm3 := (nodes_cells (ownNd_nodes ho)).1
  rcases ownNd_form ho with ⟨hv, hL⟩ | ⟨q, cap, hv, hq1, hq2, hcl, hcm, hin⟩
  · have hn0 : m3 = 0 := by rw [hm3, hL]; rfl
    injection hv with e1 e2 e3
    subst e1 e2 e3
    clear ho hb hm3 hn0
    gi_wp2
    gi_loopw [8] (fun i wr => i = .int .i64 0 ∧ J [] wr) (fun _ _ => 0)
    case atStart => exact ⟨rfl, HJ2.out⟩
    case round =>
      obtain ⟨rfl, hJs⟩ := hrel
      gi_wp2
      go_end0
      exact ⟨⟨_, rfl⟩, .inl ⟨_, hL.symm, hJs⟩⟩
  · injection hv with e1 e2 e3
    subst e1 e2 e3
    have HQ : Hid (Fr W2 q) := by
      refine HN.out W2 q hb hq1 ?_
      rcases ho.2 with ⟨hv, _⟩ | ⟨g', cap', cur, hv, _, hg, _⟩
      · cases hv
      · injection hv with e1
        injection e1 with e1
        injection e1 with e1
        subst e1
        exact ⟨_, hg, rfl⟩
    have HI := Lib.hid hin
    clear ho hb hin hm3
    gi_wp2
    gi_loopw [8] (fun i wr => ∃ k : Nat, k ≤ L.length ∧ i = .int .i64 k ∧ J (L.take k) wr ∧ Fr wr q ∧ NdIn wr q 0 L) (fun i _ => L.length - (intOf i).toNat)
    case atStart => exact ⟨0, Nat.zero_le _, rfl, HJ2.out, HQ.out, HI.out⟩
    case round =>
      obtain ⟨k, hk, rfl, hJs, hF, hin⟩ := hrel
      by_cases hlt : k < L.length
      · obtain ⟨c0, c1⟩ := hin.2 k hlt
        have hnt := nd_take hlt
        have HT := Lib.hid hnt
        have hpl : (L.take k).length < L.length := by rw [List.length_take]; omega
        obtain ⟨x, hx⟩ : ∃ x, x = L.getD k nz := ⟨_, rfl⟩
        rw [← hx] at c0 c1 HT
        rw [Nat.zero_add] at c0 c1
        have hba : Below wr.heap.size wr (wr.alloc (.cells #[.int .i64 x.1, .int .i64 x.2] 87)) := (Below.refl _ _).alloc (Nat.le_refl _) _
        have HF2 := Lib.hid (FR.below hba hF)
        have HI2 := Lib.hid (hin.below hba hin.1)
        obtain ⟨fn, tmps, assign, body, hy, hR⟩ := hY _ x _ (hJ _ _ _ hJs hba) hpl
        have hbd := NB.out _ (nd_mem hlt)
        rw [← hx] at hbd
        rw [wrap_in hbd.1.1 hbd.1.2, wrap_in hbd.2.1 hbd.2.2] at hy
        clear hbd
        clear hx hnt hin hF hba hJs hJ hY
        gi_wp2
        refine ⟨fun hq => (by cases hq), hR.mono ?_⟩
        rintro e W3 (⟨rfl, hJ3, hk3⟩ | ⟨rfl, hJx3⟩)
        · have hkk := hk3.2 q HI2.out.1 HF2.out
          have HI3 := Lib.hid (HI2.out.block hk3.1 hkk.1)
          have HF3 := Lib.hid hkk.2
          have HJ3 := Lib.hid (show J (L.take (k + 1)) W3 by rw [HT.out]; exact hJ3)
          clear hk3 hkk hJ3
          gi_wp2
          go_roundw
          case rel => exact ⟨k + 1, by omega, by simp, HJ3.out, HF3.out, HI3.out⟩
          case measure => simp [intOf]; omega
        · gi_wp2
          refine bodyPost_ret (results_none rfl _ _ _) rfl ?_
          exact ⟨⟨_, rfl⟩, .inr ⟨_, by rw [← HT.out]; exact List.take_prefix _ _, hJx3⟩⟩
      · obtain rfl : k = L.length := by omega
        gi_wp2
        go_end0
        exact ⟨⟨_, rfl⟩, .inl ⟨_, List.take_of_length_le (Nat.le_refl _), hJs⟩⟩
/-- .. of nil: over nothing -/
theorem each1_nil_in (n l Bp : Nat) (J : List Nd → World → Prop) (W : World) (hBp : W.cell? ⟨Bp, 0, none⟩ = some (.pointer none)) (h0 : J [] W) :
    CallsIn Fence.wide n Tryz.prog 137 #[.func (.yield l) #[] #[], .pointer (some ⟨Bp, 0, none⟩)] W fun e W' => (∃ v, e = .returned v) ∧ J [] W' := by
  refine callsIn_of_wp Tryz.func137 rfl trivial ?_ rfl
  simp only [Tryz.ntmps137, List.size_toArray, List.length_cons, List.length_nil, Nat.reduceAdd, Nat.reduceSub, Array.replicate_succ, Array.replicate_zero, List.push_toArray, List.append_toArray, List.nil_append, List.cons_append]
  gi_wp2
  refine ⟨trivial, fun hq => (by cases hq), (callsIn_wide.2 (poSnap_nil _)).mono ?_⟩
  rintro e W2 ⟨rfl, rfl⟩
  gi_wp2
  gi_loopw [8] (fun i wr => i = .int .i64 0 ∧ J [] wr) (fun _ _ => 0)
  case atStart => exact ⟨rfl, h0⟩
  case round =>
    obtain ⟨rfl, hJs⟩ := hrel
    gi_wp2
    go_end0
    exact ⟨⟨_, rfl⟩, hJs⟩
/-- the value that Each hands out, as the law of loops wants it -/
theorem each_stops (n Bp p B g h : Nat) {kd ll : Int} {m : Nat} {L : List Nd} (hm : m ≤ 1000) (Fr : World → Nat → Prop) (FR : Frm Fr) (w : World) (hBp : w.cell? ⟨Bp, 0, none⟩ = some (.pointer (some ⟨p, 0, none⟩))) (hlt : Bp < w.heap.size) (d : PoA w B p g h kd ll m L)
    (hN : ∀ W W2 k, Below w.heap.size w W → Below W.heap.size W W2 → W.heap.size ≤ k → (∃ o : Obj, W2.heap[k]? = some o ∧ o.isCells = true) → Fr W2 k) :
    SeqStopsK Fence.wide n Tryz.prog 137 #[.pointer (some ⟨Bp, 0, none⟩)] (fun x : Nd => #[.int .i64 (wrap64 x.1), .int .i64 (wrap64 x.2)]) (KpF Fr) (fun ys => ys = L) (fun pre => pre <+: L) L.length w := fun l J Jx W hW hJ hJx hY h0 =>
  each1_in n l Bp p B g h hm Fr FR J Jx hY (fun pre A C hj hb => hJ pre A C none hj (below_none hb) (fun r e => by cases e)) W ((hW.cell (p := ⟨Bp, 0, none⟩) hlt).trans hBp) (d.below hW) (fun W2 k => hN W W2 k hW) h0
theorem each_stops_nil (n Bp : Nat) (w : World) (Kp : World → World → Prop) (hBp : w.cell? ⟨Bp, 0, none⟩ = some (.pointer none)) (hlt : Bp < w.heap.size) :
    SeqStopsK Fence.wide n Tryz.prog 137 #[.pointer (some ⟨Bp, 0, none⟩)] (fun x : Nd => #[.int .i64 (wrap64 x.1), .int .i64 (wrap64 x.2)]) Kp (fun ys => ys = []) (fun pre => pre <+: ([] : List Nd)) 0 w := fun l J Jx W hW hJ hJx hY h0 =>
  (each1_nil_in n l Bp J W ((hW.cell (p := ⟨Bp, 0, none⟩) hlt).trans hBp) h0).mono fun e W' ⟨a, b⟩ => ⟨a, .inl ⟨_, rfl, b⟩⟩

end Go.Proofs.YtkoefclkpdpdpaaGreat

/- The project's package pool: Turn: a pool of that kind with the same nodes, on its own. -/
namespace Go.Proofs.YtkoefclkpdpdpaaGreat
set_option linter.unusedVariables false
set_option maxRecDepth 100000
open Go.RowKit Go.Shelf
attribute [local go_sem] Oper.semAt_some

/-- nodes added, one behind the other -/
def foldA (l : Int) (pre : List Nd) : List Nd := pre.foldl (fun M x => addS l M (wrap64 x.1) (wrap64 x.2)) []
theorem foldA_snoc (l : Int) (pre : List Nd) (x : Nd) : foldA l (pre ++ [x]) = addS l (foldA l pre) (wrap64 x.1) (wrap64 x.2) := by simp [foldA]
theorem foldA_take {l : Int} {L : List Nd} (h : RollC l L) : ∀ k, k ≤ L.length → foldA l (L.take k) = L.take k := by
  intro k
  induction k with
  | zero => intro _; simp [foldA]
  | succ k ih =>
    intro hk
    have hb := nbds_roll h _ (nd_mem (show k < L.length by omega))
    have a := add_take h (show k < L.length by omega)
    rw [nd_take (show k < L.length by omega), foldA_snoc, ih (by omega), wrap_in hb.1.1 hb.1.2, wrap_in hb.2.1 hb.2.2, a.1, nd_take (show k < L.length by omega)]
theorem foldA_all {l : Int} {L : List Nd} (h : RollC l L) : foldA l L = L := by
  have := foldA_take h L.length (Nat.le_refl _)
  rwa [List.take_of_length_le (Nat.le_refl _)] at this
theorem box1 (w : World) (TO : TypeId) (a : Value) : (w.alloc (.cells #[a] TO)).ownsRow w.heap.size TO 1 (.slice (some ⟨w.heap.size, 0, none⟩) 1 1) 1 [a] :=
  World.ownsRow_lit (base := w.heap.size) (e := TO) (size := 1) w #[a] 1 (Nat.le_refl _) (by unfold maxLen; omega) rfl
/-- a row is kept while others than cells turn -/
theorem row_grown {W W' : World} {row : Option Nat} {base : Nat} {e : TypeId} {size n : Nat} {v : Value} {xs : List Value} (o : W.ownsRow base e size v n xs) (hg : W.grownBy W' row) (hr : ∀ r, row = some r → ∃ o : Obj, W.heap[r]? = some o ∧ o.isCells = false) : W'.ownsRow base e size v n xs := by
  rcases o.2 with q | ⟨g, cap, cur, rfl, hb, hgg, rest⟩
  · exact o.kept hg (.inl (by rw [q.1]; rfl))
  · refine o.kept hg (.inr ?_)
    intro he
    obtain ⟨ob, h1, h2⟩ := hr g (by simpa [Value.ownBlock] using he.symm)
    rw [hgg] at h1
    injection h1 with h1
    rw [← h1] at h2
    cases h2
theorem PoA.grown {W W' : World} {row : Option Nat} {B p g h : Nat} {kd l : Int} {n : Nat} {L : List Nd} (d : PoA W B p g h kd l n L) (hg : W.grownBy W' row) (hr : ∀ r, row = some r → ∃ o : Obj, W.heap[r]? = some o ∧ o.isCells = false) : PoA W' B p g h kd l n L :=
  ⟨d.roll, d.len, d.st.imp (fun ⟨a, b, c, e⟩ => ⟨a, b, row_grown c hg hr, ⟨row_grown e.top hg hr, row_grown e.row hg hr, e.ne⟩⟩)
    (fun ⟨a, c, b, S, e, t, z⟩ => ⟨a, row_grown c hg hr, b, S, ⟨row_grown e.top hg hr, row_grown e.row hg hr, e.ne⟩, t, z⟩)⟩
def jdK (kd : Int) : Nat := if kd = 1 then 3 else 4
theorem PoA.slots {W : World} {B p g h : Nat} {kd l : Int} {n : Nat} {L : List Nd} (d : PoA W B p g h kd l n L) : (∃ v, W.cell? ⟨g, 0, none⟩ = some v) ∧ ∃ m c, W.cell? ⟨g, jdK kd, none⟩ = some (.slice (some ⟨h, 0, none⟩) m c) := by
  rcases d.st with ⟨hk, _, _, e⟩ | ⟨hk, _, b, S, e, _⟩
  · have c := e.cells
    rw [jdK, if_pos hk]
    exact ⟨⟨_, c.1⟩, _, _, c.2.2.2⟩
  · have c := e.cells
    rw [jdK, if_neg (by omega)]
    exact ⟨⟨_, c.1⟩, _, _, c.2.2.2.2⟩
theorem row_obj {W : World} {base : Nat} {e : TypeId} {size n g : Nat} {m c : Nat} {xs : List Value} (o : W.ownsRow base e size (.slice (some ⟨g, 0, none⟩) m c) n xs) : ∃ ob : Obj, W.heap[g]? = some ob ∧ ob.isCells = true := by
  rcases o.2 with ⟨hv, _⟩ | ⟨g', cap, cur, hv, _, hgg, _⟩
  · cases hv
  · injection hv with e1
    injection e1 with e1
    injection e1 with e1
    subst e1
    exact ⟨_, hgg, rfl⟩
theorem PoA.objs {W : World} {B p g h : Nat} {kd l : Int} {n : Nat} {L : List Nd} (d : PoA W B p g h kd l n L) : (∃ ob : Obj, W.heap[g]? = some ob ∧ ob.isCells = true) ∧ ∃ ob : Obj, W.heap[h]? = some ob ∧ ob.isCells = true := by
  rcases d.st with ⟨hk, _, _, e⟩ | ⟨hk, _, b, S, e, _⟩
  · exact ⟨row_obj e.top, row_obj e.row⟩
  · exact ⟨row_obj e.top, row_obj e.row⟩
/-- what is written at a pool's store turns cells alone -/
theorem PoA.keepsOthers {W W' : World} {B p g h : Nat} {kd l : Int} {n : Nat} {L : List Nd} (d : PoA W B p g h kd l n L) (c : Chg g h W W') : KeepsOthers W W' :=
  ⟨c.size, fun k o hk ho => by
    obtain ⟨⟨a, ha, ha2⟩, ⟨b, hb, hb2⟩⟩ := d.objs
    refine (c.block k (Array.getElem?_eq_some_iff.1 hk).1 (fun e => ?_) (fun e => ?_)).trans hk
    · subst e; rw [ha] at hk; injection hk with hk; rw [hk, ho] at ha2; cases ha2
    · subst e; rw [hb] at hk; injection hk with hk; rw [hk, ho] at hb2; cases hb2⟩
theorem keepsOthers_below {W W' : World} (hb : Below W.heap.size W W') : KeepsOthers W W' :=
  ⟨hb.size, fun k o hk _ => (hb.block k (Array.getElem?_eq_some_iff.1 hk).1).trans hk⟩
/-- blocks that the store g of a pool does not write -/
def FrP (g j : Nat) (W : World) (k : Nat) : Prop := (∃ o : Obj, W.heap[k]? = some o ∧ o.isCells = true) ∧ k ≠ g ∧ (∃ v, W.cell? ⟨g, 0, none⟩ = some v) ∧ ∀ m c, W.cell? ⟨g, j, none⟩ ≠ some (.slice (some ⟨k, 0, none⟩) m c)
theorem frP (g j : Nat) : Frm (FrP g j) := by
  refine ⟨fun h => h.1, fun {W W' row k} hg hr h => ?_⟩
  obtain ⟨⟨o, ho, hc⟩, hk, ⟨v, hv⟩, hs⟩ := h
  have e1 : W'.heap[k]? = W.heap[k]? := hg.block k (Array.getElem?_eq_some_iff.1 ho).1 (fun e => by
    obtain ⟨ob, h1, h2⟩ := hr k e.symm
    rw [ho] at h1; injection h1 with h1; rw [← h1, hc] at h2; cases h2)
  obtain ⟨og, hog, hogc⟩ := cells_of_cell hv
  have e2 : W'.heap[g]? = W.heap[g]? := hg.block g (Array.getElem?_eq_some_iff.1 hog).1 (fun e => by
    obtain ⟨ob, h1, h2⟩ := hr g e.symm
    rw [hog] at h1; injection h1 with h1; rw [← h1, hogc] at h2; cases h2)
  refine ⟨⟨o, e1.trans ho, hc⟩, hk, ⟨v, (World.cell?_of_block (a := ⟨g, 0, none⟩) e2).trans hv⟩, fun m c => ?_⟩
  rw [World.cell?_of_block (a := ⟨g, j, none⟩) e2]
  exact hs m c
/-- the pool's own call leaves such blocks -/
theorem PoA.kpF {W W' : World} {B p g h h2 : Nat} {kd l : Int} {n n2 : Nat} {L M : List Nd} (d : PoA W B p g h kd l n L) (d2 : PoA W' B p g h2 kd l n2 M) (c : Chg g h W W') (hh : h2 = h ∨ W.heap.size ≤ h2) : KpF (FrP g (jdK kd)) W W' := by
  refine ⟨c.size, fun k hk hf => ?_⟩
  obtain ⟨⟨o, ho, hc⟩, hkg, _, hs⟩ := hf
  obtain ⟨_, m, cc, hsl⟩ := d.slots
  obtain ⟨hv2, m2, cc2, hsl2⟩ := d2.slots
  have hkh : k ≠ h := fun e => by subst e; exact hs _ _ hsl
  have e1 := c.block k hk hkg hkh
  refine ⟨e1, ⟨o, e1.trans ho, hc⟩, hkg, hv2, fun m' c' hq => ?_⟩
  rw [hsl2] at hq
  injection hq with hq
  injection hq with hq
  injection hq with hq
  injection hq with hq
  rcases hh with e | e
  · exact hkh (by omega)
  · omega
end Go.Proofs.YtkoefclkpdpdpaaGreat
