/- Texts laid together: Copy, Pb8, Po, Po2, PoLaw, PoEach, PoTurn. -/
import Derived.Laws.CopyOwn
import Derived.Test.YtelekchdbiimiaaGreatMmy
import Derived.Test.YtelekchdbiimiaaGreatPbQ
import Derived.Test.YtelekchdbiimiaaGreatRoQ
import Derived.Test.YtelekchdbiimiaaGreatPln
import Derived.RangeFuncNested
import Derived.RangeFuncBound
import Derived.RangeFuncCalls
import Derived.RangeFuncLeaves
import Derived.Shelf.Abstract
import Derived.Shelf.RegionOpen
import Derived.WalkKit
import Derived.OwnWalkIn
import Derived.TacticsInMore
import Derived.LoopNIn
import Derived.LoopIn
namespace Go.Proofs.YtelekchdbiimiaaGreat
set_option linter.unusedVariables false
open Go.RowKit
theorem run_copy_all (P : Program) (w : World) (dT sT ty elem : TypeId) (g N k sz : Nat) (a : Addr) (cur : Array Value) (t : TypeId) (cs : List Value)
    (hu : P.underlying dT = some (.slice elem)) (hs : (P.info? elem).map (·.size) = some sz)
    (hg : w.heap[g]? = some (.cells cur t (0, 0))) (hn : cs.length = N * sz)
    (hsrc : ∀ j v, cs[j]? = some v → w.cell? (a.add j) = some v) (hfit : cs.length = cur.size) (h1 : ∀ v ∈ cs, v.oneCell' = true) :
    (Builtin.copy_ #[dT, sT] ty #[.slice (some ⟨g, 0, none⟩) N N, .slice (some a) N k]).run P w = .ok (goInt N) (w.setRow g cs.toArray) := by
  have hl := run_loadCells_list (P := P) w a cs hsrc
  have hst := run_storeCells_at P g 0 t cs 0 cur w hg (by simp; omega) h1
  have e : (cur.toList.take (0 + 0) ++ cs ++ cur.toList.drop (0 + 0 + cs.length)).toArray = cs.toArray := by
    rw [show 0 + 0 + cs.length = cur.toList.length by simp; omega, List.drop_length]; simp
  rw [e] at hst
  cases hq : P.info? elem with
  | none => simp [hq] at hs
  | some i =>
    have hi : i.size = sz := by simpa [hq] using hs
    have hm : min N N = N := Nat.min_self N
    simp [Builtin.copy_, run_underlying hu, Builtin.lenOf, Builtin.firstCells, sizeOf, typeInfo, hq, hi, hm, ← hn, hl, hst]
theorem wpList_copy_all {P : Program} {w : World} {ops : Array Oper} {rest : List Oper} {o : Oper} {a : Act} {Q : Exit → Act → World → Prop} (hgd : o.guard = none) (d s : Operand) (dT sT : TypeId)
    (ho : o.op = .call { callee := .builtin .copy, args := #[d, s], argTypes := #[dT, sT] }) (elem : TypeId) (sz : Nat) (hu : P.underlying dT = some (.slice elem)) (hsz : (P.info? elem).map (·.size) = some sz)
    (g N k : Nat) (ad : Addr) (hd : a.eval d = .slice (some ⟨g, 0, none⟩) N N) (hs : a.eval s = .slice (some ad) N k)
    (cur : List Value) (t : TypeId) (hg : w.heap[g]? = some (.cells cur.toArray t (0, 0))) (cs : List Value) (hn : cs.length = N * sz)
    (hsrc : ∀ j v, cs[j]? = some v → w.cell? (ad.add j) = some v) (hfit : cs.length = cur.length) (h1 : ∀ v ∈ cs, v.oneCell' = true) (B : Nat) (w0 : World) (hb : Below B w0 w) (hBg : B ≤ g)
    (h : ∀ w', Hid (w'.heap[g]? = some (.cells cs.toArray t (0, 0))) → Below B w0 w' → wpList P ops Q rest (a.put o.dst (goInt N)) w') : wpList P ops Q (o :: rest) a w := by
  refine wpList_plain hgd fun K hK => ?_
  have hrun := run_copy_all P w dT sT o.type elem g N k sz ad cur.toArray t cs hu hsz hg hn hsrc (by simpa using hfit) h1
  unfold Oper.wp
  simp [execOp, ho, resolve, invoke, builtin, hd, hs, hrun, Result.andThen]
  exact hK _ _ (h _ (show _ = _ from setRow_heap w g _ _ t _ hg) (below_setRow hb hBg _))
end Go.Proofs.YtelekchdbiimiaaGreat
namespace Go.Proofs.YtelekchdbiimiaaGreat
set_option linter.unusedVariables false
set_option maxRecDepth 100000
open Go.RowKit
section
variable {B g h b : Nat} {l : Int} {S L : List Nd}
set_option maxHeartbeats 3200000 in
theorem pbSnap_own (w : World) (d : PbA w B g h l (L.length : Int) (sumC L) b S) (T : Tb l b S L) (hb : b ≤ 40) (hl : L.length ≤ 1000000) :
    Calls Tryz.prog 171 #[.pointer (some ⟨g, 0, none⟩)] w (ListOwn 77 L w) := by
  obtain ⟨i0, hi, hz0, hz1, hz2⟩ := info_parts node_info
  have hpN := pow_40 (b := b) (by omega)
  obtain ⟨_, k1, _, _, k4⟩ := d.cells
  have hlt := d.lt
  have hlen := d.len
  have SLT := Lib.hid (fun i (hi : i < 2 ^ b) => d.slot hi)
  have hcnt := Lib.hid T.cnt
  have SRT := Lib.hid (fun X (q : Srt idA (ndsT S) X) => T.srt q)
  have AB := Lib.hid (fun i => tAt_bds T i)
  clear d T
  obtain ⟨N, hN⟩ : ∃ N, N = 2 ^ b := ⟨_, rfl⟩
  rw [← hN] at k4 hpN SLT hlen
  clear hN
  have hmk := make_room (P := Tryz.prog) Tryz.underlying24 hi hz0 hz1 hz2 L.length (by omega) (by omega) w
  go_enter Tryz.func171, Tryz.ntmps171
  go_wp2_with fail
  clear hmk
  go_loopw [3, 18] (fun v i wr => ∃ k : Nat, k ≤ N ∧ i = .int .i64 k ∧ OwnNd 77 wr w.heap.size v (ndsT (S.take k)) ∧ Below w.heap.size w wr) (fun _ i _ => N - (intOf i).toNat)
  case atStart => exact ⟨0, by omega, rfl, room_own (Nat.le_refl _) (by unfold maxLen; omega), (Below.refl _ _).alloc (Nat.le_refl _) _⟩
  case round =>
    rename_i wr
    obtain ⟨k, hk, rfl, hown, hbl⟩ := hrel
    have HO := Lib.hid hown
    have hsz := hbl.size
    clear hown
    by_cases hlt2 : k < N
    · have hkl : k < S.length := by omega
      obtain ⟨s0, s1⟩ := SLT.out k hlt2
      have hhz : h < w.heap.size := hlt.2.2.2
      have e0 := (hbl.cell (p := ⟨h, k * 2, none⟩) hhz).trans s0
      have e1 := (hbl.cell (p := ⟨h, k * 2 + 1, none⟩) hhz).trans s1
      have NS := nds_step hkl
      have hle := nds_le (S.take k)
      have hle2 : (ndsT (S.take k)).length ≤ N := by rw [List.length_take] at hle; omega
      obtain ⟨⟨x1, x2⟩, hx⟩ : ∃ x, x = tAt S k := ⟨_, rfl⟩
      rw [← hx] at e0 e1 NS
      simp only at e0 e1 NS
      clear s0 s1 hx hle
      by_cases h0 : x1 = 0
      · rw [if_pos h0] at NS
        have NS2 := Lib.hid NS
        subst h0
        clear NS
        go_wp2_with fail
        go_roundw
        case rel => exact ⟨k + 1, by omega, by go_num, by rw [NS2.out]; exact World.ownsRow.alloc HO.out _, hbl.alloc (by omega) _⟩
        case measure => simp [intOf]; omega
      · rw [if_neg h0] at NS
        have NS2 := Lib.hid NS
        have h0' : (x1 != 0) = true := by simpa using h0
        clear NS h0
        go_wp2_with (at_builtin; refine wpList_append_own _ rfl _ _ 24 rfl w.heap.size 77 i0 (.agg #[.int .i64 0, .int .i64 0]) 2 16 Tryz.underlying24 hi hz0 hz1 hz2 rfl (by decide) _ (ndsT (S.take k)).length (nods (ndsT (S.take k))) rfl ((World.ownsRow.alloc HO.out _).alloc _) ⟨wr.heap.size + 1, 0, none⟩ 1 1 [.int .i64 x1, .int .i64 x2] rfl rfl (two_new _ _ _ _ _ (by simp)) (two_cell _ _) (by unfold maxLen; omega) (by omega) (by simp; omega) ?_)
        intro v' w3 hown2 hgrow _
        have hb3 : Below w.heap.size w w3 := ((hbl.alloc (by omega) _).alloc (by simp; omega) _).grown hgrow (by simp; omega) (fun g hg => (World.ownsRow.lt HO.out g hg).1)
        have HO2 := Lib.hid (ownNd_snoc hown2)
        clear hown2 hgrow
        go_wp2_with fail
        go_roundw
        case rel => exact ⟨k + 1, by omega, by go_num, by rw [NS2.out]; exact HO2.out, hb3⟩
        case measure => simp [intOf]; omega
    · have hkn : k = N := by omega
      subst hkn
      have HO2 := Lib.hid (show OwnNd 77 wr w.heap.size _ (ndsT S) from by have q := HO.out; rw [List.take_of_length_le (by omega)] at q; exact q)
      obtain ⟨A3, m3, c3, rfl⟩ := ownNd_slice HO2.out
      have hm3 := (nodes_cells (ownNd_nodes HO2.out)).1
      have hm4 : m3 ≤ 1000000 := by have := hcnt.out; omega
      clear hm3
      go_wp2_with (go_at_call 199; refine (sorted_own _ _ _ (ndsT S) _ (ownNd_nodes HO2.out) hm4).mono ?_; rintro e w2 ⟨X, A4, c4, rfl, hs4, hn4, _, hb4⟩)
      go_ret
      have e := SRT.out _ hs4
      subst e
      exact ⟨_, _, _, rfl, own_low hn4 hbl.size, hbl.trans (hb4.mono hbl.size)⟩
theorem pclone_facts {TD TN : TypeId} {g h N : Nat} {w : World} {a b c d : Value} (h3 : w.cell? ⟨g, 4, none⟩ = some (.slice (some ⟨h, 0, none⟩) N N)) (hg : g < w.heap.size) (hh : h < w.heap.size) :
    ((w.alloc (.cells #[a, b, c, d, .slice (some ⟨w.heap.size + 1, 0, none⟩) N N] TD)).alloc (.cells (blank (.agg #[.int .i64 0, .int .i64 0]) (N * 2)) TN)).cell? ⟨w.heap.size, 4, none⟩ = some (.slice (some ⟨w.heap.size + 1, 0, none⟩) N N) ∧
    ((w.alloc (.cells #[a, b, c, d, .slice (some ⟨w.heap.size + 1, 0, none⟩) N N] TD)).alloc (.cells (blank (.agg #[.int .i64 0, .int .i64 0]) (N * 2)) TN)).cell? ⟨g, 4, none⟩ = some (.slice (some ⟨h, 0, none⟩) N N) ∧
    ((w.alloc (.cells #[a, b, c, d, .slice (some ⟨w.heap.size + 1, 0, none⟩) N N] TD)).alloc (.cells (blank (.agg #[.int .i64 0, .int .i64 0]) (N * 2)) TN)).heap[w.heap.size + 1]? = some (.cells (blank (.agg #[.int .i64 0, .int .i64 0]) (N * 2)) TN (0, 0)) ∧
    Below w.heap.size w ((w.alloc (.cells #[a, b, c, d, .slice (some ⟨w.heap.size + 1, 0, none⟩) N N] TD)).alloc (.cells (blank (.agg #[.int .i64 0, .int .i64 0]) (N * 2)) TN)) ∧
    ((w.alloc (.cells #[a, b, c, d, .slice (some ⟨w.heap.size + 1, 0, none⟩) N N] TD)).alloc (.cells (blank (.agg #[.int .i64 0, .int .i64 0]) (N * 2)) TN)).ownsRow w.heap.size TD 5 (.slice (some ⟨w.heap.size, 0, none⟩) 1 1) 1 [a, b, c, d, .slice (some ⟨w.heap.size + 1, 0, none⟩) N N] ∧
    ((w.alloc (.cells #[a, b, c, d, .slice (some ⟨w.heap.size + 1, 0, none⟩) N N] TD)).alloc (.cells (blank (.agg #[.int .i64 0, .int .i64 0]) (N * 2)) TN)).heap.size = w.heap.size + 2 := by
  have o := World.ownsRow_lit (base := w.heap.size) (e := TD) (size := 5) w #[a, b, c, d, .slice (some ⟨w.heap.size + 1, 0, none⟩) N N] 1 (Nat.le_refl _) (by unfold maxLen; omega) rfl
  have o2 := o.alloc (.cells (blank (.agg #[.int .i64 0, .int .i64 0]) (N * 2)) TN)
  have hb : Below w.heap.size w ((w.alloc (.cells #[a, b, c, d, .slice (some ⟨w.heap.size + 1, 0, none⟩) N N] TD)).alloc (.cells (blank (.agg #[.int .i64 0, .int .i64 0]) (N * 2)) TN)) := ((Below.refl _ _).alloc (Nat.le_refl _) _).alloc (by simp) _
  refine ⟨o2.cellAt 4 (by omega), (hb.cell (p := ⟨g, 4, none⟩) hg).trans h3, ?_, hb, o2, by simp⟩
  have q := heap_alloc_new (w.alloc (.cells #[a, b, c, d, .slice (some ⟨w.heap.size + 1, 0, none⟩) N N] TD)) (.cells (blank (.agg #[.int .i64 0, .int .i64 0]) (N * 2)) TN)
  have e : (w.alloc (.cells #[a, b, c, d, .slice (some ⟨w.heap.size + 1, 0, none⟩) N N] TD)).heap.size = w.heap.size + 1 := by simp
  rw [e] at q
  exact q
theorem own_of_heap2 {w : World} {B h N : Nat} {TN : TypeId} {ys : List Value} (hb : B ≤ h) (hN : N ≤ maxLen) (hl : ys.length = N * 2) (hg : w.heap[h]? = some (.cells ys.toArray TN (0, 0))) : w.ownsRow B TN 2 (.slice (some ⟨h, 0, none⟩) N N) N ys :=
  ⟨hl, .inr ⟨h, N, ys.toArray, rfl, hb, hg, Nat.le_refl _, hN, by simp; omega, by simp [← hl]⟩⟩
set_option maxHeartbeats 3200000 in
theorem pbClone_any {n t : Int} (w : World) (d : PbA w B g h l n t b S) (hb : b ≤ 40) :
    Calls Tryz.prog 82 #[.pointer (some ⟨g, 0, none⟩)] w fun e w' => ∃ g2 h2, e = .returned (.pointer (some ⟨g2, 0, none⟩)) ∧ PbA w' w.heap.size g2 h2 l n t b S ∧ Below w.heap.size w w' := by
  obtain ⟨i0, hi, hz0, hz1, hz2⟩ := info_parts node_info
  have hpN := pow_40 (b := b) (by omega)
  have hlt := d.lt
  have hlen := d.len
  obtain ⟨d0, d1, d2, d3, d4⟩ := d.cells
  have D : Hid (PbA w B g h l n t b S) := d
  clear d
  have hmk := make_all (P := Tryz.prog) Tryz.underlying24 hi hz0 hz1 hz2 (2 ^ b) (2 ^ b * 2) rfl _ rfl (by omega) (by omega)
  obtain ⟨N, hN⟩ : ∃ N, N = 2 ^ b := ⟨_, rfl⟩
  rw [← hN] at hmk d4 hpN hlen
  have HN := Lib.hid hN
  clear hN
  go_enter Tryz.func82, Tryz.ntmps82
  go_wp2_with fail
  have hW := Lib.hid (pclone_facts (TD := 180) (TN := 77) (g := g) (h := h) (w := w) (N := N) (a := .int .i64 l) (b := .int .i64 n) (c := .int .i64 t) (d := .int .i64 (b : Int)) d4 hlt.2.1 hlt.2.2.2)
  generalize (w.alloc (.cells #[.int .i64 l, .int .i64 n, .int .i64 t, .int .i64 (b : Int), .slice (some ⟨w.heap.size + 1, 0, none⟩) N N] 180)).alloc (.cells (blank (.agg #[.int .i64 0, .int .i64 0]) (N * 2)) 77) = W at *
  obtain ⟨k3, k4, kh, kb, ko, kz⟩ := hW.out
  have hd : ∀ a, ({ heap := W.heap, tape := W.tape, drawn := W.drawn + 1, os := W.os, output := W.output } : World).cell? a = W.cell? a := fun _ => rfl
  go_still_tail 6, (by kernel_rfl)
  change wpList _ _ _ _ _ (World.drew W)
  clear hd
  have kh2 : (World.drew W).heap[w.heap.size + 1]? = some (.cells (blank (.agg #[.int .i64 0, .int .i64 0]) (N * 2)).toList.toArray 77 (0, 0)) := by
    have q := kh
    show W.heap[w.heap.size + 1]? = _
    rw [q, Array.toArray_toList]
  have KB := Lib.hid kb
  have KO := Lib.hid ko
  have KZ := Lib.hid kz
  have RC : Hid (∀ j v, (nods S)[j]? = some v → (World.drew W).cell? ((⟨h, 0, none⟩ : Addr).add j) = some v) := by
    have q := (Ps.below D.out (KB.out)).row
    exact fun j v hj => World.ownsRow.cells q rfl j v hj
  have LI : Hid ((nods S).length = N * 2) := by show _ = _; rw [nods_len, hlen]
  have LF : Hid ((nods S).length = (blank (.agg #[.int .i64 0, .int .i64 0]) (N * 2)).toList.length) := by show _ = _; rw [LI.out, Array.length_toList, blank_size]
  have L1C : Hid (∀ v ∈ nods S, v.oneCell' = true) := nods_one S
  have hsz : (Tryz.prog.info? 77).map (·.size) = some 2 := by kernel_rfl
  refine wpList_copy_all rfl (.tmp 17) (.tmp 21) 24 24 rfl 77 2 Tryz.underlying24 hsz (w.heap.size + 1) N N ⟨h, 0, none⟩ rfl rfl _ 77 kh2 (nods S) LI.out RC.out LF.out L1C.out (w.heap.size + 1) (World.drew W) (Below.refl ..) (Nat.le_refl _) ?_
  intro w4 hg4 hb4
  clear k3 k4 kh kb ko kz kh2
  go_wp2_with fail
  go_ret
  have hb5 : Below w.heap.size w w4 := (KB.out.drew).trans (hb4.mono (by omega))
  refine ⟨w.heap.size, w.heap.size + 1, rfl, ?_, hb5⟩
  have q := KO.out.kept (w' := w4) (row := some (w.heap.size + 1)) ⟨hb4.os, hb4.tape, hb4.output, hb4.size, fun k hk hne => hb4.block k (by rw [KZ.out] at hk; have : k ≠ w.heap.size + 1 := (fun e => hne (by rw [e])); omega)⟩ (.inr (by simp [Value.ownBlock]))
  show Ps ..
  unfold topP
  rw [← HN.out]
  exact ⟨q, own_of_heap2 (by omega) (by unfold maxLen; omega) LI.out hg4.out, by omega⟩
end
end Go.Proofs.YtelekchdbiimiaaGreat
namespace Go.Proofs.YtelekchdbiimiaaGreat
set_option linter.unusedVariables false
set_option maxRecDepth 100000
open Go.RowKit
/-- is there a pool of that kind for so many bits? -/
def isP (kd l : Int) : Bool := decide ((kd = 1 ∧ 1 ≤ l ∧ l ≤ 16) ∨ (kd = 2 ∧ 1 ≤ l ∧ l ≤ 48))
theorem szc_b4 {n b : Nat} {L : List Nd} (h : SzC n b L) (hn : n ≤ 1000) : b ≤ 11 := by
  have h2 := h.2
  rcases Nat.lt_or_ge 11 b with q | q
  · exfalso
    have := Nat.pow_le_pow_right (show 0 < 2 by omega) (show 12 ≤ b from q)
    have e : 2 ^ 12 = 4096 := by decide
    omega
  · exact q
theorem SzC.next {n m b b2 : Nat} {L M : List Nd} (h : SzC n b L) (hm : n ≤ m) (hl : M.length ≤ m) (d : 2 ^ b2 = 2 ^ b ∨ 2 ^ b2 ≤ 4 * L.length + 4) : SzC m b2 M := ⟨hl, by have := h.1; have := h.2; rcases d with q | q <;> omega⟩
theorem SzC.more {n m b : Nat} {L : List Nd} (h : SzC n b L) (hm : n ≤ m) : SzC m b L := ⟨by have := h.1; omega, by have := h.2; omega⟩
theorem box2 (w : World) (TO : TypeId) (a b : Value) : (w.alloc (.cells #[a, b] TO)).ownsRow w.heap.size TO 2 (.slice (some ⟨w.heap.size, 0, none⟩) 1 1) 1 [a, b] :=
  World.ownsRow_lit (base := w.heap.size) (e := TO) (size := 2) w #[a, b] 1 (Nat.le_refl _) (by unfold maxLen; omega) rfl
theorem take_tb {l : Int} {b : Nat} {S L : List Nd} (t : Tb l b S L) (a : Int) : Tb l b (takeS l b S a) (remW L a) := by
  unfold takeS
  cases hr : rightB l a
  · rw [if_neg (by simp), (rem_wrong t.roll hr).1]; exact t
  · rw [if_pos rfl]
    have := right_pos hr
    exact t.take (by omega)
/-- a pool that lies in memory: its box p, its store g, its slots h -/
structure PoA (w : World) (B p g h : Nat) (kd l : Int) (n : Nat) (L : List Nd) : Prop where
  roll : RollC l L
  len : L.length ≤ n
  st : (kd = 1 ∧ l ≤ 16 ∧ w.ownsRow B 147 2 (.slice (some ⟨p, 0, none⟩) 1 1) 1 [.pointer (some ⟨g, 0, none⟩), .pointer none] ∧ DsA w B g h l L) ∨
    (kd = 2 ∧ w.ownsRow B 147 2 (.slice (some ⟨p, 0, none⟩) 1 1) 1 [.pointer none, .pointer (some ⟨g, 0, none⟩)] ∧ ∃ b S, PbA w B g h l (L.length : Int) (sumC L) b S ∧ Tb l b S L ∧ SzC n b L)
section
variable {w w' : World} {B p g h : Nat} {kd l : Int} {n : Nat} {L : List Nd}
theorem PoA.below (d : PoA w B p g h kd l n L) (hb : Below w.heap.size w w') : PoA w' B p g h kd l n L :=
  ⟨d.roll, d.len, d.st.imp (fun ⟨a, b, c, e⟩ => ⟨a, b, own_below c hb, e.below hb⟩) (fun ⟨a, c, b, S, e, t, z⟩ => ⟨a, own_below c hb, b, S, Ps.below e hb, t, z⟩)⟩
theorem PoA.low {B2 : Nat} (d : PoA w B p g h kd l n L) (hB : B2 ≤ B) : PoA w B2 p g h kd l n L :=
  ⟨d.roll, d.len, d.st.imp (fun ⟨a, b, c, e⟩ => ⟨a, b, own_low c hB, ⟨own_low e.top hB, own_low e.row hB, e.ne⟩⟩) (fun ⟨a, c, b, S, e, t, z⟩ => ⟨a, own_low c hB, b, S, Ps.low e hB, t, z⟩)⟩
theorem PoA.more {m : Nat} (d : PoA w B p g h kd l n L) (hm : n ≤ m) : PoA w B p g h kd l m L :=
  ⟨d.roll, Nat.le_trans d.len hm, d.st.imp (fun q => q) (fun ⟨a, c, b, S, e, t, z⟩ => ⟨a, c, b, S, e, t, z.more hm⟩)⟩
theorem PoA.lt (d : PoA w B p g h kd l n L) : (B ≤ p ∧ p < w.heap.size) ∧ B ≤ g ∧ g < w.heap.size ∧ B ≤ h ∧ h < w.heap.size := by
  rcases d.st with ⟨_, _, c, e⟩ | ⟨_, c, b, S, e, _⟩
  · exact ⟨c.lt p rfl, Ds.lt e⟩
  · exact ⟨c.lt p rfl, Ps.lt e⟩
theorem PoA.uni (d : PoA w B p g h kd l n L) : 1 ≤ l ∧ l ≤ 48 := of_decide_eq_true d.roll.1
theorem PoA.is (d : PoA w B p g h kd l n L) : isP kd l = true := by
  have u := d.uni
  rcases d.st with ⟨a, b, _⟩ | ⟨a, _⟩
  · exact decide_eq_true (.inl ⟨a, u.1, b⟩)
  · exact decide_eq_true (.inr ⟨a, u⟩)
/-- what is written at the store of a pool leaves rows of other types -/
theorem PoA.other {e : TypeId} {base size m : Nat} {v : Value} {zs : List Value} (d : PoA w B p g h kd l n L) (o : w.ownsRow base e size v m zs) (c : Chg g h w w') (e1 : e ≠ 178) (e2 : e ≠ 3) (e3 : e ≠ 180) (e4 : e ≠ 77) : w'.ownsRow base e size v m zs := by
  rcases d.st with ⟨_, _, _, q⟩ | ⟨_, _, b, S, q, _⟩
  · exact Ds.other q o c e1 e2
  · exact Ps.other q o c e3 e4
end
theorem poStores_any {p B : Nat} {x y : Option Addr} (w : World) (d : w.ownsRow B 147 2 (.slice (some ⟨p, 0, none⟩) 1 1) 1 [.pointer x, .pointer y]) :
    Calls Tryz.prog 83 #[.pointer (some ⟨p, 0, none⟩)] w fun e w' => e = .returned (.tuple #[.pointer x, .pointer y]) ∧ ∃ q, w' = w.drewN q := by
  have c0 := d.cellAt 0 (by omega)
  have c1 := d.cellAt 1 (by omega)
  clear d
  go_enter Tryz.func83, Tryz.ntmps83
  go_wp2_with fail
  go_quiet (fail)
  go_wp2_with fail
  go_ret2
  exact ⟨rfl, _, rfl⟩
theorem poIfOK_ok (p : Option Addr) (w : World) : Calls Tryz.prog 129 #[.pointer p, .int .i64 0] w fun e w' => e = .returned (.tuple #[.pointer p, .int .i64 0]) ∧ w = w' := by
  go_enter Tryz.func129, Tryz.ntmps129
  go_wp2_with fail
  go_ret2
  exact ⟨rfl, rfl⟩
theorem poIfOK_no (p : Option Addr) (w : World) : Calls Tryz.prog 129 #[.pointer p, .int .i64 2] w fun e w' => e = .returned (.tuple #[.pointer none, .int .i64 2]) ∧ w = w' := by
  go_enter Tryz.func129, Tryz.ntmps129
  go_wp2_with fail
  go_ret2
  exact ⟨rfl, rfl⟩
set_option maxHeartbeats 1600000 in
theorem poNew_no (kd l : Int) (w : World) (h : isP kd l = false) : Calls Tryz.prog 90 #[.int .i64 kd, .int .i64 l] w fun e w' => e = .returned (.tuple #[.pointer none, .int .i64 2]) ∧ Below w.heap.size w w' := by
  have h0 : ¬ ((kd = 1 ∧ 1 ≤ l ∧ l ≤ 16) ∨ (kd = 2 ∧ 1 ≤ l ∧ l ≤ 48)) := of_decide_eq_false h
  by_cases h1 : kd = 1
  · subst h1
    have DN := Lib.hid (dsNew_no l w (fun q => h0 (.inl ⟨rfl, q⟩)))
    clear h h0
    go_enter Tryz.func90, Tryz.ntmps90
    go_wp2_with (first | (go_at_call 128; refine DN.out.mono ?_; rintro e w1 ⟨rfl, rfl⟩) | (go_at_call 129; refine (poIfOK_no _ _).mono ?_; rintro e w1 ⟨rfl, rfl⟩))
    go_ret2
    exact ⟨rfl, (Below.refl _ _).alloc (Nat.le_refl _) _⟩
  · have h1' : (kd == 1) = false := by simpa using h1
    by_cases h2 : kd = 2
    · subst h2
      have DN := Lib.hid (pbNew_no l w (fun q => h0 (.inr ⟨rfl, q⟩)))
      clear h h0 h1
      go_enter Tryz.func90, Tryz.ntmps90
      go_wp2_with (first | (go_at_call 130; refine DN.out.mono ?_; rintro e w1 ⟨rfl, rfl⟩) | (go_at_call 129; refine (poIfOK_no _ _).mono ?_; rintro e w1 ⟨rfl, rfl⟩))
      go_ret2
      exact ⟨rfl, (Below.refl _ _).alloc (Nat.le_refl _) _⟩
    · have h2' : (kd == 2) = false := by simpa using h2
      clear h h0 h1 h2
      go_enter Tryz.func90, Tryz.ntmps90
      go_wp2_with fail
      go_ret2
      exact ⟨rfl, Below.refl _ _⟩
set_option maxHeartbeats 1600000 in
theorem poNew_any (kd l : Int) (w : World) (h : isP kd l = true) : Calls Tryz.prog 90 #[.int .i64 kd, .int .i64 l] w fun e w' =>
    ∃ p g h, e = .returned (.tuple #[.pointer (some ⟨p, 0, none⟩), .int .i64 0]) ∧ PoA w' w.heap.size p g h kd l 0 [] ∧ Below w.heap.size w w' := by
  rcases of_decide_eq_true h with ⟨rfl, h1, h2⟩ | ⟨rfl, h1, h2⟩
  · have R := Lib.hid (roll_nil (uni_yes (l := l) ⟨h1, by omega⟩))
    clear h
    go_enter Tryz.func90, Tryz.ntmps90
    go_wp2_with fail
    refine (dsNew_any l _ h1 h2).mono ?_
    rintro e w1 ⟨g, h, rfl, d1, b1⟩
    have hz := b1.size
    have P := Lib.hid (⟨R.out, by simp, .inl ⟨rfl, h2, own_low (box2 w1 147 (.pointer (some ⟨g, 0, none⟩)) (.pointer none)) hz, d1.below ((Below.refl _ _).alloc (Nat.le_refl _) _)⟩⟩ : PoA (w1.alloc (.cells #[.pointer (some ⟨g, 0, none⟩), .pointer none] 147)) w.heap.size w1.heap.size g h 1 l 0 [])
    have HB := Lib.hid (b1.alloc hz (.cells #[.pointer (some ⟨g, 0, none⟩), .pointer none] 147))
    clear d1 b1
    go_wp2_with (go_at_call 129; refine (poIfOK_ok _ _).mono ?_; rintro e w1 ⟨rfl, rfl⟩)
    go_ret2
    exact ⟨_, g, h, rfl, P.out, HB.out⟩
  · have T := Lib.hid (tb_new (uni_yes (l := l) ⟨h1, h2⟩))
    clear h
    go_enter Tryz.func90, Tryz.ntmps90
    go_wp2_with fail
    refine (pbNew_any l _ h1 h2).mono ?_
    rintro e w1 ⟨g, h, rfl, d1, b1⟩
    have hz := b1.size
    have P := Lib.hid (⟨T.out.roll, by simp, .inr ⟨rfl, own_low (box2 w1 147 (.pointer none) (.pointer (some ⟨g, 0, none⟩))) hz, 3, List.replicate 8 nz, Ps.below d1 ((Below.refl _ _).alloc (Nat.le_refl _) _), T.out, szc_new⟩⟩ : PoA (w1.alloc (.cells #[.pointer none, .pointer (some ⟨g, 0, none⟩)] 147)) w.heap.size w1.heap.size g h 2 l 0 [])
    have HB := Lib.hid (b1.alloc hz (.cells #[.pointer none, .pointer (some ⟨g, 0, none⟩)] 147))
    clear d1 b1
    go_wp2_with (go_at_call 129; refine (poIfOK_ok _ _).mono ?_; rintro e w1 ⟨rfl, rfl⟩)
    go_ret2
    exact ⟨_, g, h, rfl, P.out, HB.out⟩
set_option maxHeartbeats 800000 in
theorem poL_any {B p g h : Nat} {kd l : Int} {n : Nat} {L : List Nd} (w : World) (d : PoA w B p g h kd l n L) (hn : n ≤ 1000) :
    Calls Tryz.prog 98 #[.pointer (some ⟨p, 0, none⟩)] w fun e w' => e = .returned (.int .i64 l) ∧ ∃ q, w' = w.drewN q := by
  have R := Lib.hid d.roll
  rcases d.st with ⟨hk, hl, bx, q⟩ | ⟨hk, bx, b, S, q, t, z⟩
  · have BX := Lib.hid bx
    have Q : Hid (∀ m, DsA (w.drewN m) B g h l L) := fun m => q.below (drewN_below (Below.refl _ _) m)
    have HK := Lib.hid hk
    clear d bx q
    go_enter Tryz.func98, Tryz.ntmps98
    go_wp2_with (first | (go_at_call 83; refine (poStores_any _ BX.out).mono ?_; rintro e w1 ⟨rfl, m, rfl⟩) | (go_at_call 143; refine (dsL_any _ (Q.out _)).mono ?_; rintro e w1 ⟨rfl, rfl⟩))
    go_ret
    exact ⟨rfl, m, rfl⟩
  · have BX := Lib.hid bx
    have hb := szc_b4 z hn
    have T := Lib.hid t
    have Q : Hid (∀ m, PbA (w.drewN m) B g h l (L.length : Int) (sumC L) b S) := fun m => Ps.below q (drewN_below (Below.refl _ _) m)
    have HK := Lib.hid hk
    clear d bx q t
    go_enter Tryz.func98, Tryz.ntmps98
    go_wp2_with (first | (go_at_call 83; refine (poStores_any _ BX.out).mono ?_; rintro e w1 ⟨rfl, m, rfl⟩) | (go_at_call 142; refine (pbL_any _ (Q.out _)).mono ?_; rintro e w1 ⟨rfl, rfl⟩))
    go_ret
    exact ⟨rfl, m, rfl⟩
set_option maxHeartbeats 800000 in
theorem poLen_any {B p g h : Nat} {kd l : Int} {n : Nat} {L : List Nd} (w : World) (d : PoA w B p g h kd l n L) (hn : n ≤ 1000) :
    Calls Tryz.prog 93 #[.pointer (some ⟨p, 0, none⟩)] w fun e w' => e = .returned (.int .i64 (L.length : Int)) ∧ ∃ q, w' = w.drewN q := by
  have R := Lib.hid d.roll
  rcases d.st with ⟨hk, hl, bx, q⟩ | ⟨hk, bx, b, S, q, t, z⟩
  · have BX := Lib.hid bx
    have Q : Hid (∀ m, DsA (w.drewN m) B g h l L) := fun m => q.below (drewN_below (Below.refl _ _) m)
    have HK := Lib.hid hk
    clear d bx q
    go_enter Tryz.func93, Tryz.ntmps93
    go_wp2_with (first | (go_at_call 83; refine (poStores_any _ BX.out).mono ?_; rintro e w1 ⟨rfl, m, rfl⟩) | (go_at_call 136; refine (dsLen_any _ (Q.out _)).mono ?_; rintro e w1 ⟨rfl, rfl⟩))
    go_ret
    exact ⟨rfl, m, rfl⟩
  · have BX := Lib.hid bx
    have hb := szc_b4 z hn
    have T := Lib.hid t
    have Q : Hid (∀ m, PbA (w.drewN m) B g h l (L.length : Int) (sumC L) b S) := fun m => Ps.below q (drewN_below (Below.refl _ _) m)
    have HK := Lib.hid hk
    clear d bx q t
    go_enter Tryz.func93, Tryz.ntmps93
    go_wp2_with (first | (go_at_call 83; refine (poStores_any _ BX.out).mono ?_; rintro e w1 ⟨rfl, m, rfl⟩) | (go_at_call 135; refine (pbLen_any _ (Q.out _)).mono ?_; rintro e w1 ⟨rfl, rfl⟩))
    go_ret
    exact ⟨rfl, m, rfl⟩
set_option maxHeartbeats 800000 in
theorem poTotal_any {B p g h : Nat} {kd l : Int} {n : Nat} {L : List Nd} (w : World) (d : PoA w B p g h kd l n L) (hn : n ≤ 1000) :
    Calls Tryz.prog 48 #[.pointer (some ⟨p, 0, none⟩)] w fun e w' => e = .returned (.int .i64 (sumC L)) ∧ ∃ q, w' = w.drewN q := by
  have R := Lib.hid d.roll
  rcases d.st with ⟨hk, hl, bx, q⟩ | ⟨hk, bx, b, S, q, t, z⟩
  · have BX := Lib.hid bx
    have Q : Hid (∀ m, DsA (w.drewN m) B g h l L) := fun m => q.below (drewN_below (Below.refl _ _) m)
    have HK := Lib.hid hk
    clear d bx q
    go_enter Tryz.func48, Tryz.ntmps48
    go_wp2_with (first | (go_at_call 83; refine (poStores_any _ BX.out).mono ?_; rintro e w1 ⟨rfl, m, rfl⟩) | (go_at_call 85; refine (dsTotal_any _ (Q.out _)).mono ?_; rintro e w1 ⟨rfl, rfl⟩))
    go_ret
    exact ⟨rfl, m, rfl⟩
  · have BX := Lib.hid bx
    have hb := szc_b4 z hn
    have T := Lib.hid t
    have Q : Hid (∀ m, PbA (w.drewN m) B g h l (L.length : Int) (sumC L) b S) := fun m => Ps.below q (drewN_below (Below.refl _ _) m)
    have HK := Lib.hid hk
    clear d bx q t
    go_enter Tryz.func48, Tryz.ntmps48
    go_wp2_with (first | (go_at_call 83; refine (poStores_any _ BX.out).mono ?_; rintro e w1 ⟨rfl, m, rfl⟩) | (go_at_call 84; refine (pbTotal_any _ (Q.out _)).mono ?_; rintro e w1 ⟨rfl, rfl⟩))
    go_ret
    exact ⟨rfl, m, rfl⟩
set_option maxHeartbeats 800000 in
theorem poGet_any {B p g h : Nat} {kd l : Int} {n : Nat} {L : List Nd} (a : Int) (w : World) (d : PoA w B p g h kd l n L) (hn : n ≤ 1000) (A0 : -9223372036854775808 ≤ a) (A1 : a ≤ 9223372036854775807) :
    Calls Tryz.prog 121 #[.pointer (some ⟨p, 0, none⟩), .int .i64 a] w fun e w' => e = .returned (.int .i64 (sumAt a L)) ∧ ∃ q, w' = w.drewN q := by
  have R := Lib.hid d.roll
  rcases d.st with ⟨hk, hl, bx, q⟩ | ⟨hk, bx, b, S, q, t, z⟩
  · have BX := Lib.hid bx
    have Q : Hid (∀ m, DsA (w.drewN m) B g h l L) := fun m => q.below (drewN_below (Below.refl _ _) m)
    have HK := Lib.hid hk
    clear d bx q
    go_enter Tryz.func121, Tryz.ntmps121
    go_wp2_with (first | (go_at_call 83; refine (poStores_any _ BX.out).mono ?_; rintro e w1 ⟨rfl, m, rfl⟩) | (go_at_call 168; refine (dsGet_any _ _ (Q.out _) R.out hl A0 A1).mono ?_; rintro e w1 ⟨rfl, rfl⟩))
    go_ret
    exact ⟨rfl, m, rfl⟩
  · have BX := Lib.hid bx
    have hb := szc_b4 z hn
    have T := Lib.hid t
    have Q : Hid (∀ m, PbA (w.drewN m) B g h l (L.length : Int) (sumC L) b S) := fun m => Ps.below q (drewN_below (Below.refl _ _) m)
    have HK := Lib.hid hk
    clear d bx q t
    go_enter Tryz.func121, Tryz.ntmps121
    go_wp2_with (first | (go_at_call 83; refine (poStores_any _ BX.out).mono ?_; rintro e w1 ⟨rfl, m, rfl⟩) | (go_at_call 167; refine (pbGet_any _ _ (Q.out _) T.out (by omega) A0 A1).mono ?_; rintro e w1 ⟨rfl, rfl⟩))
    go_ret
    exact ⟨rfl, m, rfl⟩
set_option maxHeartbeats 800000 in
theorem poSnap_any {B p g h : Nat} {kd l : Int} {n : Nat} {L : List Nd} (w : World) (d : PoA w B p g h kd l n L) (hn : n ≤ 1000) :
    Calls Tryz.prog 140 #[.pointer (some ⟨p, 0, none⟩)] w (ListOwn 77 L w) := by
  have R := Lib.hid d.roll
  have hlen := d.len
  rcases d.st with ⟨hk, hl, bx, q⟩ | ⟨hk, bx, b, S, q, t, z⟩
  · have BX := Lib.hid bx
    have Q : Hid (∀ m, DsA (w.drewN m) B g h l L) := fun m => q.below (drewN_below (Below.refl _ _) m)
    clear d bx q
    go_enter Tryz.func140, Tryz.ntmps140
    go_wp2_with (first | (go_at_call 83; refine (poStores_any _ BX.out).mono ?_; rintro e w1 ⟨rfl, m, rfl⟩) | (go_at_call 172; refine (dsSnap_own _ (Q.out _) R.out hl).mono ?_; rintro e w1 ⟨A3, m3, c3, rfl, hn3, hb3⟩))
    go_ret
    exact ⟨A3, m3, c3, rfl, hn3, (drewN_below (Below.refl _ _) m).trans hb3⟩
  · have BX := Lib.hid bx
    have hb := szc_b4 z hn
    have T := Lib.hid t
    have Q : Hid (∀ m, PbA (w.drewN m) B g h l (L.length : Int) (sumC L) b S) := fun m => Ps.below q (drewN_below (Below.refl _ _) m)
    clear d bx q t
    go_enter Tryz.func140, Tryz.ntmps140
    go_wp2_with (first | (go_at_call 83; refine (poStores_any _ BX.out).mono ?_; rintro e w1 ⟨rfl, m, rfl⟩) | (go_at_call 171; refine (pbSnap_own _ (Q.out _) T.out (by omega) (by omega)).mono ?_; rintro e w1 ⟨A3, m3, c3, rfl, hn3, hb3⟩))
    go_ret
    exact ⟨A3, m3, c3, rfl, hn3, (drewN_below (Below.refl _ _) m).trans hb3⟩
/-- what a call that may write leaves of a pool (147) -/
def PoPost (B p g h : Nat) (kd l : Int) (n : Nat) (M : List Nd) (x : Int) (w : World) (e : Ending) (w' : World) : Prop := e = .returned (.int .i64 x) ∧ ∃ h2, PoA w' B p g h2 kd l n M ∧ Chg g h w w' ∧ (h2 = h ∨ w.heap.size ≤ h2)
set_option maxHeartbeats 1600000 in
theorem poAdd_n {B p g h : Nat} {kd l : Int} {n : Nat} {L : List Nd} (m : Nat) (a c : Int) (w : World) (d : PoA w B p g h kd l n L) (hn : n ≤ 1000) (hm : n ≤ m) (hl' : (addS l L a c).length ≤ m) (A0 : -9223372036854775808 ≤ a) (A1 : a ≤ 9223372036854775807) (B0 : -9223372036854775808 ≤ c) (B1 : c ≤ 9223372036854775807) :
    Calls Tryz.prog 92 #[.pointer (some ⟨p, 0, none⟩), .int .i64 a, .int .i64 c] w (PoPost B p g h kd l m (addS l L a c) (addE l L a c) w) := by
  have R := Lib.hid d.roll
  have hlen := d.len
  have D := Lib.hid d
  have LN : Hid ((addS l L a c).length ≤ m) := hl'
  have RN : Hid (RollC l (addS l L a c)) := roll_addS d.roll
  rcases d.st with ⟨hk, hl, bx, q⟩ | ⟨hk, bx, b, S, q, t, z⟩
  · have BX := Lib.hid bx
    have Q : Hid (∀ m, DsA (w.drewN m) B g h l L) := fun m => q.below (drewN_below (Below.refl _ _) m)
    have HK := Lib.hid hk
    clear d bx q
    go_enter Tryz.func92, Tryz.ntmps92
    go_wp2_with (first | (go_at_call 83; refine (poStores_any _ BX.out).mono ?_; rintro e w1 ⟨rfl, mq, rfl⟩) | (go_at_call 134; refine (dsAdd_any _ _ _ (Q.out _) R.out hl A0 A1 B0 B1).mono ?_; rintro e w1 ⟨rfl, hd, hc⟩))
    go_ret
    have c2 := (Chg.of (g := g) (h := h) (drewN_below (Below.refl _ w) mq)).trans hc
    exact ⟨rfl, h, ⟨RN.out, LN.out, .inl ⟨HK.out, hl, D.out.other BX.out c2 (by decide) (by decide) (by decide) (by decide), hd⟩⟩, c2, .inl rfl⟩
  · have BX := Lib.hid bx
    have hb := szc_b4 z hn
    have T := Lib.hid t
    have Z := Lib.hid z
    have Q : Hid (∀ m, PbA (w.drewN m) B g h l (L.length : Int) (sumC L) b S) := fun m => Ps.below q (drewN_below (Below.refl _ _) m)
    have HK := Lib.hid hk
    have TN := Lib.hid (tb_ad t (show b ≤ 61 by omega) a c)
    have ZN : Hid (SzC m (adB l b S L a c) (addS l L a c)) := z.next hm hl' (by have q := (doB_bd t 0 a c).2.2; rw [(dobs_zero rfl).1] at q; exact q)
    clear d bx q t z
    go_enter Tryz.func92, Tryz.ntmps92
    go_wp2_with (first | (go_at_call 83; refine (poStores_any _ BX.out).mono ?_; rintro e w1 ⟨rfl, mq, rfl⟩) | (go_at_call 133; refine (pbAdd_any _ _ _ (Q.out _) T.out (by omega) A0 A1 B0 B1).mono ?_; rintro e w1 ⟨rfl, h2, hd, hc, hh⟩))
    go_ret
    have c2 := (Chg.of (g := g) (h := h) (drewN_below (Below.refl _ w) mq)).trans hc
    exact ⟨rfl, h2, ⟨RN.out, LN.out, .inr ⟨HK.out, D.out.other BX.out c2 (by decide) (by decide) (by decide) (by decide), (adB l b S L a c), adS l b S L a c, hd, TN.out, ZN.out⟩⟩, c2, hh⟩
theorem poAdd_any {B p g h : Nat} {kd l : Int} {n : Nat} {L : List Nd} (a c : Int) (w : World) (d : PoA w B p g h kd l n L) (hn : n ≤ 1000) (A0 : -9223372036854775808 ≤ a) (A1 : a ≤ 9223372036854775807) (B0 : -9223372036854775808 ≤ c) (B1 : c ≤ 9223372036854775807) :
    Calls Tryz.prog 92 #[.pointer (some ⟨p, 0, none⟩), .int .i64 a, .int .i64 c] w (PoPost B p g h kd l (n + 1) (addS l L a c) (addE l L a c) w) :=
  poAdd_n (n + 1) a c w d hn (Nat.le_succ n) (Nat.le_trans (addS_len d.roll) (Nat.succ_le_succ d.len)) A0 A1 B0 B1
set_option maxHeartbeats 1600000 in
theorem poTake_n {B p g h : Nat} {kd l : Int} {n : Nat} {L : List Nd} (a : Int) (w : World) (d : PoA w B p g h kd l n L) (hn : n ≤ 1000) (A0 : -9223372036854775808 ≤ a) (A1 : a ≤ 9223372036854775807) :
    Calls Tryz.prog 210 #[.pointer (some ⟨p, 0, none⟩), .int .i64 a] w (PoPost B p g h kd l n (remW L a) (sumAt a L) w) := by
  have R := Lib.hid d.roll
  have hlen := d.len
  have D := Lib.hid d
  have LN : Hid ((remW L a).length ≤ n) := Nat.le_trans (rem_le L a) d.len
  have RN : Hid (RollC l (remW L a)) := roll_rem d.roll
  rcases d.st with ⟨hk, hl, bx, q⟩ | ⟨hk, bx, b, S, q, t, z⟩
  · have BX := Lib.hid bx
    have Q : Hid (∀ m, DsA (w.drewN m) B g h l L) := fun m => q.below (drewN_below (Below.refl _ _) m)
    have HK := Lib.hid hk
    clear d bx q
    go_enter Tryz.func210, Tryz.ntmps210
    go_wp2_with (first | (go_at_call 83; refine (poStores_any _ BX.out).mono ?_; rintro e w1 ⟨rfl, m, rfl⟩) | (go_at_call 220; refine (dsTake_any _ _ (Q.out _) R.out hl A0 A1).mono ?_; rintro e w1 ⟨rfl, hd, hc⟩))
    go_ret
    have c2 := (Chg.of (g := g) (h := h) (drewN_below (Below.refl _ w) m)).trans hc
    exact ⟨rfl, h, ⟨RN.out, LN.out, .inl ⟨HK.out, hl, D.out.other BX.out c2 (by decide) (by decide) (by decide) (by decide), hd⟩⟩, c2, .inl rfl⟩
  · have BX := Lib.hid bx
    have hb := szc_b4 z hn
    have T := Lib.hid t
    have Z := Lib.hid z
    have Q : Hid (∀ m, PbA (w.drewN m) B g h l (L.length : Int) (sumC L) b S) := fun m => Ps.below q (drewN_below (Below.refl _ _) m)
    have HK := Lib.hid hk
    have TN := Lib.hid (take_tb t a)
    have ZN : Hid (SzC n b (remW L a)) := ⟨Nat.le_trans (rem_le L a) d.len, z.2⟩
    clear d bx q t z
    go_enter Tryz.func210, Tryz.ntmps210
    go_wp2_with (first | (go_at_call 83; refine (poStores_any _ BX.out).mono ?_; rintro e w1 ⟨rfl, m, rfl⟩) | (go_at_call 219; refine (pbTake_any _ _ (Q.out _) T.out (by omega) A0 A1).mono ?_; rintro e w1 ⟨rfl, hd, hc⟩))
    go_ret
    have c2 := (Chg.of (g := g) (h := h) (drewN_below (Below.refl _ w) m)).trans hc
    exact ⟨rfl, h, ⟨RN.out, LN.out, .inr ⟨HK.out, D.out.other BX.out c2 (by decide) (by decide) (by decide) (by decide), b, takeS l b S a, hd, TN.out, ZN.out⟩⟩, c2, .inl rfl⟩
end Go.Proofs.YtelekchdbiimiaaGreat
namespace Go.Proofs.YtelekchdbiimiaaGreat
set_option linter.unusedVariables false
set_option maxRecDepth 100000
open Go.RowKit
theorem sumC_take {L : List Nd} (h : NonNeg L) (k : Nat) : sumC (L.take k) ≤ sumC L := by
  have e := sumC_app (L.take k) (L.drop k)
  rw [List.take_append_drop] at e
  have := sumC_nonneg (L := L.drop k) (fun n hn => h n (List.mem_of_mem_drop hn))
  omega
theorem roll_take {l : Int} {L : List Nd} (h : RollC l L) (k : Nat) : RollC l (L.take k) :=
  ⟨h.1, h.2.1.sublist (List.take_sublist k L), fun n hn => h.2.2.1 n (List.mem_of_mem_take hn), fun n hn => h.2.2.2.1 n (List.mem_of_mem_take hn), by have := sumC_take h.2.2.2.1 k; have := h.2.2.2.2; omega⟩
/-- a roll is added node by node -/
theorem add_take {l : Int} {L : List Nd} (h : RollC l L) {k : Nat} (hk : k < L.length) :
    addS l (L.take k) (L.getD k nz).1 (L.getD k nz).2 = L.take (k + 1) ∧ addE l (L.take k) (L.getD k nz).1 (L.getD k nz).2 = 0 := by
  have hm := h.2.2.1 _ (nd_mem hk)
  have e := nd_take hk
  have hs := sumC_app (L.take k) [L.getD k nz]
  rw [← e] at hs
  have s1 : sumC [L.getD k nz] = (L.getD k nz).2 := by simp [sumC]
  have hr := roll_take h (k + 1)
  have hq := hr.2.2.2.2
  have ok := add_ok (l := l) (L := L.take k) hm.1 (show ¬ (L.getD k nz).2 < 0 by omega) (by omega)
  refine ⟨?_, ok.1⟩
  rw [ok.2]
  refine good_uniq _ _ (addW_good (roll_good (roll_take h k)) (by omega)) (roll_good hr) fun id => ?_
  rw [addW_sum, e, sumAt_app]
  simp [sumAt]
theorem poIs_any (kd l : Int) (w : World) : Calls Tryz.prog 123 #[.int .i64 kd, .int .i64 l] w fun e w' => e = .returned (.bool (isP kd l)) ∧ w = w' := by
  by_cases h : isP kd l = true
  · have H := Lib.hid h
    rcases of_decide_eq_true h with ⟨rfl, h1, h2⟩ | ⟨rfl, h1, h2⟩
    all_goals
      clear h
      go_enter Tryz.func123, Tryz.ntmps123
      go_wp2_with fail
      go_ret
      exact ⟨ret_b (by rw [H.out] <;> first | rfl | exact decide_eq_false (by omega) | exact decide_eq_true (by omega)), rfl⟩
  · have H := Lib.hid (Bool.eq_false_iff.2 h)
    have h0 : ¬ ((kd = 1 ∧ 1 ≤ l ∧ l ≤ 16) ∨ (kd = 2 ∧ 1 ≤ l ∧ l ≤ 48)) := of_decide_eq_false H.out
    clear h
    by_cases h1 : kd = 1
    · subst h1
      rcases (show l < 1 ∨ (1 ≤ l ∧ 16 < l) by omega) with q | ⟨q1, q2⟩
      all_goals
        clear h0
        go_enter Tryz.func123, Tryz.ntmps123
        go_wp2_with fail
        go_ret
        exact ⟨ret_b (by rw [H.out] <;> first | rfl | exact decide_eq_false (by omega) | exact decide_eq_true (by omega)), rfl⟩
    · have h1' : (kd == 1) = false := by simpa using h1
      by_cases h2 : kd = 2
      · subst h2
        rcases (show l < 1 ∨ (1 ≤ l ∧ 48 < l) by omega) with q | ⟨q1, q2⟩
        all_goals
          clear h0 h1
          go_enter Tryz.func123, Tryz.ntmps123
          go_wp2_with fail
          go_ret
          exact ⟨ret_b (by rw [H.out] <;> first | rfl | exact decide_eq_false (by omega) | exact decide_eq_true (by omega)), rfl⟩
      · have h2' : (kd == 2) = false := by simpa using h2
        clear h0 h1 h2
        go_enter Tryz.func123, Tryz.ntmps123
        go_wp2_with fail
        go_ret
        exact ⟨ret_b (by rw [H.out] <;> first | rfl | exact decide_eq_false (by omega) | exact decide_eq_true (by omega)), rfl⟩
set_option maxHeartbeats 3200000 in
theorem poClone_any {B p g h : Nat} {kd l : Int} {n : Nat} {L : List Nd} (w : World) (d : PoA w B p g h kd l n L) (hn : n ≤ 1000) :
    Calls Tryz.prog 46 #[.pointer (some ⟨p, 0, none⟩)] w fun e w' => ∃ p2 g2 h2, e = .returned (.pointer (some ⟨p2, 0, none⟩)) ∧ PoA w' w.heap.size p2 g2 h2 kd l n L ∧ Below w.heap.size w w' := by
  have R := Lib.hid d.roll
  have LN := Lib.hid d.len
  have hp : Hid (p < w.heap.size) := d.lt.1.2
  rcases d.st with ⟨hk, hl, bx, q⟩ | ⟨hk, bx, b, S, q, t, z⟩
  · have HK := Lib.hid hk
    have c0 : w.cell? ⟨p, 0, none⟩ = some (.pointer (some ⟨g, 0, none⟩)) := bx.cellAt 0 (by omega)
    have c1 : w.cell? ⟨p, 1, none⟩ = some (.pointer none) := bx.cellAt 1 (by omega)
    have CL := Lib.hid (fun w1 (hb : Below w.heap.size w w1) => (dsClone_any w1 (q.below hb) hl).mono (R' := fun e w' => ∃ g2 h2, e = .returned (.pointer (some ⟨g2, 0, none⟩)) ∧ DsA w' w.heap.size g2 h2 l L ∧ Below w1.heap.size w1 w' ∧ Below w.heap.size w w') fun e w' ⟨g2, h2, a, b, c⟩ => ⟨g2, h2, a, ⟨own_low b.top hb.size, own_low b.row hb.size, b.ne⟩, c, hb.trans (c.mono hb.size)⟩)
    clear d bx q hk
    go_enter Tryz.func46, Tryz.ntmps46
    go_wp2_with fail
    go_region_held3 (fun w' => w'.cell? ⟨p, 0, none⟩ = some (.pointer (some ⟨g, 0, none⟩)) ∧ w'.cell? ⟨p, 1, none⟩ = some (.pointer none) ∧ Below w.heap.size w w')
      (first | assumption | (exact keep_two (by assumption) hb2 hp.out hp.out) | (exact keep_two (by assumption) ((Below.refl _ _).alloc (Nat.le_refl _) _) hp.out hp.out) | (exact ⟨c0, c1, below_drew _⟩))
      (first
        | (go_at_call 81; refine (CL.out _ (below_of (p := ⟨p, 0, none⟩) (q := ⟨p, 1, none⟩) (x := .pointer (some ⟨g, 0, none⟩)) (y := .pointer none) (by assumption))).mono ?_; rintro e w3 ⟨g2, h2, rfl, hd2, hb2, hb3⟩)
        | (go_at_call 82; refine (pbClone_nil _).mono ?_; rintro e w4 ⟨rfl, rfl⟩))
    go_wp2_with fail
    go_ret
    exact ⟨_, g2, h2, rfl, ⟨R.out, LN.out, .inl ⟨HK.out, hl, own_low (box2 ..) hb3.size, hd2.below ((Below.refl _ _).alloc (Nat.le_refl _) _)⟩⟩, hb3.alloc hb3.size _⟩
  · have HK := Lib.hid hk
    have hb := szc_b4 z hn
    have T := Lib.hid t
    have Z := Lib.hid z
    have c0 : w.cell? ⟨p, 0, none⟩ = some (.pointer none) := bx.cellAt 0 (by omega)
    have c1 : w.cell? ⟨p, 1, none⟩ = some (.pointer (some ⟨g, 0, none⟩)) := bx.cellAt 1 (by omega)
    have CL := Lib.hid (fun w1 (hb1 : Below w.heap.size w w1) => (pbClone_any w1 (Ps.below q hb1) (show b ≤ 40 by omega)).mono (R' := fun e w' => ∃ g2 h2, e = .returned (.pointer (some ⟨g2, 0, none⟩)) ∧ PbA w' w.heap.size g2 h2 l (L.length : Int) (sumC L) b S ∧ Below w1.heap.size w1 w' ∧ Below w.heap.size w w') fun e w' ⟨g2, h2, a, b, c⟩ => ⟨g2, h2, a, Ps.low b hb1.size, c, hb1.trans (c.mono hb1.size)⟩)
    clear d bx q hk t z
    go_enter Tryz.func46, Tryz.ntmps46
    go_wp2_with fail
    go_region_held3 (fun w' => w'.cell? ⟨p, 0, none⟩ = some (.pointer none) ∧ w'.cell? ⟨p, 1, none⟩ = some (.pointer (some ⟨g, 0, none⟩)) ∧ Below w.heap.size w w')
      (first | assumption | (exact keep_two (by assumption) hb2 hp.out hp.out) | (exact keep_two (by assumption) ((Below.refl _ _).alloc (Nat.le_refl _) _) hp.out hp.out) | (exact ⟨c0, c1, below_drew _⟩))
      (first
        | (go_at_call 82; refine (CL.out _ (below_of (p := ⟨p, 0, none⟩) (q := ⟨p, 1, none⟩) (x := .pointer none) (y := .pointer (some ⟨g, 0, none⟩)) (by assumption))).mono ?_; rintro e w3 ⟨g2, h2, rfl, hd2, hb2, hb3⟩)
        | (go_at_call 81; refine (dsClone_nil _).mono ?_; rintro e w4 ⟨rfl, rfl⟩))
    go_wp2_with fail
    go_ret
    exact ⟨_, g2, h2, rfl, ⟨R.out, LN.out, .inr ⟨HK.out, own_low (box2 ..) hb3.size, b, S, Ps.below hd2 ((Below.refl _ _).alloc (Nat.le_refl _) _), T.out, Z.out⟩⟩, hb3.alloc hb3.size _⟩
/-- what Load leaves -/
def LoadPost (kd l : Int) (L : List Nd) (w : World) (e : Ending) (w' : World) : Prop := Below w.heap.size w w' ∧
  ((isP kd l = false ∧ e = .returned (.tuple #[.pointer none, .int .i64 2])) ∨ (isP kd l = true ∧ rollB l L = false ∧ e = .returned (.tuple #[.pointer none, .int .i64 10])) ∨
   (isP kd l = true ∧ rollB l L = true ∧ ∃ p g h, e = .returned (.tuple #[.pointer (some ⟨p, 0, none⟩), .int .i64 0]) ∧ PoA w' w.heap.size p g h kd l L.length L))
set_option maxHeartbeats 3200000 in
theorem poLoad_any (kd l : Int) (A : Option Addr) (m c : Nat) (L : List Nd) (w : World) (hv : NodesAt w (.slice A m c) L) (hB : NBds L) (hm : m ≤ 1000) (L0 : -9223372036854775808 ≤ l) (L1 : l ≤ 9223372036854775807) :
    Calls Tryz.prog 50 #[.int .i64 kd, .int .i64 l, .slice A m c] w (LoadPost kd l L w) := by
  obtain ⟨hlen, hlc, hcm, hat⟩ := nodes_cells hv
  have HL := Lib.hid hlen
  have HA := Lib.hid hat
  have HV := Lib.hid hv
  have HBB : Hid (NBds L) := hB
  clear hlen hat hv hB hlc hcm
  cases hi : isP kd l
  · have H := Lib.hid hi
    clear hi
    go_enter Tryz.func50, Tryz.ntmps50
    go_wp2_with (go_at_call 90; refine (poNew_no kd l _ H.out).mono ?_; rintro e w1 ⟨rfl, hb1⟩)
    go_ret2
    exact ⟨hb1, .inl ⟨H.out, rfl⟩⟩
  · have H := Lib.hid hi
    clear hi
    cases hr : rollB l L
    · have HR := Lib.hid hr
      clear hr
      go_enter Tryz.func50, Tryz.ntmps50
      go_wp2_with fail
      refine (poNew_any kd l _ H.out).mono ?_
      rintro e w1 ⟨p, g, h, rfl, hd, hb1⟩
      have RR := Lib.hid (rollRight_any l A m c L w1 (HV.out.below hb1) HBB.out (by omega) L0 L1)
      have HB1 := Lib.hid hb1
      unfold RightPost at RR
      rw [HR.out] at RR
      clear hd hb1
      go_wp2_with (go_at_call 91; refine RR.out.mono ?_; rintro e w2 ⟨rfl, hb2⟩)
      go_ret2
      exact ⟨HB1.out.trans (hb2.mono HB1.out.size), .inr (.inl ⟨H.out, HR.out, rfl⟩)⟩
    · have HR := Lib.hid hr
      have RC := Lib.hid (roll_iff.1 hr)
      clear hr
      go_enter Tryz.func50, Tryz.ntmps50
      go_wp2_with fail
      refine (poNew_any kd l _ H.out).mono ?_
      rintro e w1 ⟨p, g, h, rfl, hd, hb1⟩
      have RR := Lib.hid (rollRight_any l A m c L w1 (HV.out.below hb1) HBB.out (by omega) L0 L1)
      have HD := Lib.hid hd
      have HB1 := Lib.hid hb1
      unfold RightPost at RR
      rw [HR.out] at RR
      clear hd hb1
      go_wp2_with (go_at_call 91; refine RR.out.mono ?_; rintro e w2 ⟨rfl, hb2⟩)
      have HD2 := Lib.hid (HD.out.below hb2)
      have HB2 := Lib.hid (HB1.out.trans (hb2.mono HB1.out.size))
      clear hb2
      go_loopw [27] (fun i wr => ∃ (k h : Nat), k ≤ m ∧ i = .int .i64 k ∧ PoA wr w.heap.size p g h kd l k (L.take k) ∧ Below w.heap.size w wr) (fun i _ => m - (intOf i).toNat)
      case atStart => exact ⟨0, h, by omega, rfl, HD2.out, HB2.out⟩
      case round =>
        rename_i wr
        obtain ⟨k, h, hk, rfl, hd, hb⟩ := hrel
        have PD := Lib.hid hd
        have BB := Lib.hid hb
        have hzr := hb.size
        by_cases hlt : k < m
        · have hkl : k < L.length := by have := HL.out; omega
          obtain ⟨bq, o, rfl, hin⟩ := HA.out (by have := HL.out; omega)
          obtain ⟨e0, e1⟩ := (hin.below hb hin.1).2 k hkl
          have hbl := hin.1
          have hbd := HBB.out _ (nd_mem hkl)
          obtain ⟨⟨b0, b1⟩, b2, b3⟩ := hbd
          have AT := Lib.hid (add_take RC.out hkl)
          obtain ⟨x, hx⟩ : ∃ x, x = L.getD k nz := ⟨_, rfl⟩
          rw [← hx] at e0 e1 b0 b1 b2 b3 AT
          obtain ⟨id, cc⟩ := x
          simp only at e0 e1 b0 b1 b2 b3 AT
          have HBA : Hid (Below wr.heap.size wr (wr.alloc (.cells #[.int .i64 id, .int .i64 cc] 77))) := (Below.refl _ _).alloc (Nat.le_refl _) _
          have PA := Lib.hid (PD.out.below HBA.out)
          clear hin hb hd hx
          go_wp2_with fail
          refine (poAdd_any id cc _ PA.out (by omega) b0 b1 b2 b3).mono ?_
          rw [AT.out.1, AT.out.2]
          rintro e w3 ⟨rfl, h2, hd3, hc3, _⟩
          have HD3 := Lib.hid hd3
          have BW3 : Hid (Below w.heap.size w w3) := (BB.out.trans (HBA.out.mono hzr)).trans (hc3.below PD.out.lt.2.1 PD.out.lt.2.2.2.1 (by simp; omega))
          clear hd3 hc3 e0 e1
          go_wp2_with fail
          go_roundw
          case rel => exact ⟨k + 1, h2, by omega, by go_num, HD3.out, BW3.out⟩
          case measure => simp [intOf]; omega
        · have hkm : k = L.length := by have := HL.out; omega
          have PE : Hid (PoA wr w.heap.size p g h kd l L.length L) := by
            have q := PD.out
            rw [hkm, List.take_of_length_le (Nat.le_refl _)] at q
            exact q
          clear hkm hd hb
          go_wp2_with fail
          go_ret2
          exact ⟨BB.out, .inr (.inr ⟨H.out, HR.out, p, g, h, rfl, PE.out⟩)⟩
end Go.Proofs.YtelekchdbiimiaaGreat
namespace Go.Proofs.YtelekchdbiimiaaGreat
set_option linter.unusedVariables false
set_option maxRecDepth 100000
open Go.RowKit
theorem read_below {P : Program} {f : FuncId} {args : Array Value} {w : World} {v : Value} (h : Calls P f args w fun e w' => e = .returned v ∧ ∃ q, w' = w.drewN q) : Calls P f args w fun e w' => e = .returned v ∧ Below w.heap.size w w' :=
  h.mono fun _ _ ⟨a, q, b⟩ => ⟨a, by rw [b]; exact drewN_below (Below.refl _ _) q⟩
end Go.Proofs.YtelekchdbiimiaaGreat
namespace Go.Proofs.YtelekchdbiimiaaGreat
set_option linter.unusedVariables false
set_option maxRecDepth 100000
open Go.RowKit Go.Shelf
attribute [local go_sem] Oper.semAt_some
theorem wrap_in {x : Int} (h0 : -9223372036854775808 ≤ x) (h1 : x ≤ 9223372036854775807) : wrap64 x = x := by unfold wrap64; omega
theorem wrap_bd (x : Int) : -9223372036854775808 ≤ wrap64 x ∧ wrap64 x ≤ 9223372036854775807 := by unfold wrap64; omega
/-- which blocks a loop's body leaves: such a block holds cells; it stays such a one while others than cells turn -/
structure Frm (Fr : World → Nat → Prop) : Prop where
  cells : ∀ {W : World} {k : Nat}, Fr W k → ∃ o : Obj, W.heap[k]? = some o ∧ o.isCells = true
  grown : ∀ {W W' : World} {row : Option Nat} {k : Nat}, W.grownBy W' row → (∀ r, row = some r → ∃ o : Obj, W.heap[r]? = some o ∧ o.isCells = false) → Fr W k → Fr W' k
/-- what a round keeps -/
def KpF (Fr : World → Nat → Prop) (A C : World) : Prop := A.heap.size ≤ C.heap.size ∧ ∀ k, k < A.heap.size → Fr A k → C.heap[k]? = A.heap[k]? ∧ Fr C k
theorem kpF_t {Fr : World → Nat → Prop} {A B C : World} (h : KpF Fr A B) (k : KpF Fr B C) : KpF Fr A C :=
  ⟨Nat.le_trans h.1 k.1, fun i hi hf => by
    have a := h.2 i hi hf
    have b := k.2 i (Nat.lt_of_lt_of_le hi h.1) a.2
    exact ⟨b.1.trans a.1, b.2⟩⟩
theorem kpF_b {Fr : World → Nat → Prop} (F : Frm Fr) (W : World) (l : Nat) (o o' : Obj) (h : W.heap[l]? = some o) (ho : o.isCells = false) : KpF Fr W (W.putObj l o') :=
  ⟨by simp, fun k hk hf => by
    obtain ⟨c, hc, hcc⟩ := F.cells hf
    have hne : k ≠ l := fun e => by subst e; rw [hc] at h; injection h with h; rw [h, ho] at hcc; cases hcc
    exact ⟨World.putObj_heap_other hne, F.grown (grownBy_putObj' W l o') (fun r e => by cases e; exact ⟨o, h, ho⟩) hf⟩⟩
theorem kpF_refl {Fr : World → Nat → Prop} (A : World) : KpF Fr A A := ⟨Nat.le_refl _, fun k _ hf => ⟨rfl, hf⟩⟩
/-- nothing that lay has turned -/
theorem below_none {w w' : World} (h : Below w.heap.size w w') : w.grownBy w' none := ⟨h.os, h.tape, h.output, h.size, fun k hk _ => h.block k hk⟩
theorem Frm.below {Fr : World → Nat → Prop} (F : Frm Fr) {W W' : World} {k : Nat} (hb : Below W.heap.size W W') (hf : Fr W k) : Fr W' k :=
  F.grown (below_none hb) (fun r e => by cases e) hf
theorem poEach_any (p : Option Addr) (w : World) : Calls Tryz.prog 96 #[.pointer p] w fun e w' => e = .returned (.func (.func 139) #[] #[.pointer (some ⟨w.heap.size, 0, none⟩)]) ∧ w' = w.alloc (.cells #[.pointer p] 108) := by
  go_enter Tryz.func96, Tryz.ntmps96
  go_wp2_with fail
  go_ret
  exact ⟨rfl, rfl⟩
set_option maxHeartbeats 3200000 in
/-- the closure that Each hands out goes over the pool's nodes -/
theorem each1_in (n l Bp p B g h : Nat) {kd ll : Int} {m : Nat} {L : List Nd} (hm : m ≤ 1000) (Fr : World → Nat → Prop) (FR : Frm Fr) (J Jx : List Nd → World → Prop)
    (hY : ∀ pre x W, J pre W → pre.length < L.length → YieldAt Fence.wide (n - 1) Tryz.prog l #[.int .i64 (wrap64 x.1), .int .i64 (wrap64 x.2)] W fun e W' =>
      (e = .returned (.bool true) ∧ J (pre ++ [x]) W' ∧ KpF Fr W W') ∨ (e = .returned (.bool false) ∧ Jx (pre ++ [x]) W'))
    (hJ : ∀ pre W W', J pre W → Below W.heap.size W W' → J pre W')
    (W : World) (hBp : W.cell? ⟨Bp, 0, none⟩ = some (.pointer (some ⟨p, 0, none⟩))) (d : PoA W B p g h kd ll m L) (hN : ∀ W2 k, Below W.heap.size W W2 → W.heap.size ≤ k → (∃ o : Obj, W2.heap[k]? = some o ∧ o.isCells = true) → Fr W2 k) (h0 : J [] W) :
    CallsIn Fence.wide n Tryz.prog 139 #[.func (.yield l) #[] #[], .pointer (some ⟨Bp, 0, none⟩)] W fun e W' => (∃ v, e = .returned v) ∧
      ((∃ ys, ys = L ∧ J ys W') ∨ (∃ pre, pre <+: L ∧ Jx pre W')) := by
  have D := Lib.hid d
  have HN := Lib.hid hN
  have hlen := d.len
  have NB := Lib.hid (nbds_roll d.roll)
  clear d hN
  refine callsIn_of_wp Tryz.func139 rfl trivial ?_ rfl
  simp only [Tryz.ntmps139, List.size_toArray, List.length_cons, List.length_nil, Nat.reduceAdd, Nat.reduceSub, Array.replicate_succ, Array.replicate_zero, List.push_toArray, List.append_toArray, List.nil_append, List.cons_append]
  gi_wp2
  refine ⟨trivial, fun hq => (by cases hq), (callsIn_wide.2 (poSnap_any _ D.out hm)).mono ?_⟩
  rintro e W2 ⟨A3, m3, c3, rfl, ho, hb⟩
  have HJ2 := Lib.hid (hJ _ _ _ h0 hb)
  have hm3 := (nodes_cells (ownNd_nodes ho)).1
  rcases ownNd_form ho with ⟨hv, hL⟩ | ⟨q, cap, hv, hq1, hq2, hcl, hcm, hin⟩
  · have hn0 : m3 = 0 := by rw [hm3, hL]; rfl
    injection hv with e1 e2 e3
    subst e1 e2 e3
    clear ho hb hm3 hn0
    gi_wp2
    gi_loopw [8] (fun i wr => i = .int .i64 0 ∧ J [] wr) (fun _ _ => 0)
    case atStart => exact ⟨rfl, HJ2.out⟩
    case round =>
      obtain ⟨rfl, hJs⟩ := hrel
      gi_wp2
      go_end0
      exact ⟨⟨_, rfl⟩, .inl ⟨_, hL.symm, hJs⟩⟩
  · injection hv with e1 e2 e3
    subst e1 e2 e3
    have HQ : Hid (Fr W2 q) := by
      refine HN.out W2 q hb hq1 ?_
      rcases ho.2 with ⟨hv, _⟩ | ⟨g', cap', cur, hv, _, hg, _⟩
      · cases hv
      · injection hv with e1
        injection e1 with e1
        injection e1 with e1
        subst e1
        exact ⟨_, hg, rfl⟩
    have HI := Lib.hid hin
    clear ho hb hin hm3
    gi_wp2
    gi_loopw [8] (fun i wr => ∃ k : Nat, k ≤ L.length ∧ i = .int .i64 k ∧ J (L.take k) wr ∧ Fr wr q ∧ NdIn wr q 0 L) (fun i _ => L.length - (intOf i).toNat)
    case atStart => exact ⟨0, Nat.zero_le _, rfl, HJ2.out, HQ.out, HI.out⟩
    case round =>
      obtain ⟨k, hk, rfl, hJs, hF, hin⟩ := hrel
      by_cases hlt : k < L.length
      · obtain ⟨c0, c1⟩ := hin.2 k hlt
        have hnt := nd_take hlt
        have HT := Lib.hid hnt
        have hpl : (L.take k).length < L.length := by rw [List.length_take]; omega
        obtain ⟨x, hx⟩ : ∃ x, x = L.getD k nz := ⟨_, rfl⟩
        rw [← hx] at c0 c1 HT
        rw [Nat.zero_add] at c0 c1
        have hba : Below wr.heap.size wr (wr.alloc (.cells #[.int .i64 x.1, .int .i64 x.2] 77)) := (Below.refl _ _).alloc (Nat.le_refl _) _
        have HF2 := Lib.hid (FR.below hba hF)
        have HI2 := Lib.hid (hin.below hba hin.1)
        obtain ⟨fn, tmps, assign, body, hy, hR⟩ := hY _ x _ (hJ _ _ _ hJs hba) hpl
        have hbd := NB.out _ (nd_mem hlt)
        rw [← hx] at hbd
        rw [wrap_in hbd.1.1 hbd.1.2, wrap_in hbd.2.1 hbd.2.2] at hy
        clear hbd
        clear hx hnt hin hF hba hJs hJ hY
        gi_wp2
        refine ⟨fun hq => (by cases hq), hR.mono ?_⟩
        rintro e W3 (⟨rfl, hJ3, hk3⟩ | ⟨rfl, hJx3⟩)
        · have hkk := hk3.2 q HI2.out.1 HF2.out
          have HI3 := Lib.hid (HI2.out.block hk3.1 hkk.1)
          have HF3 := Lib.hid hkk.2
          have HJ3 := Lib.hid (show J (L.take (k + 1)) W3 by rw [HT.out]; exact hJ3)
          clear hk3 hkk hJ3
          gi_wp2
          go_roundw
          case rel => exact ⟨k + 1, by omega, by simp, HJ3.out, HF3.out, HI3.out⟩
          case measure => simp [intOf]; omega
        · gi_wp2
          refine bodyPost_ret (results_none rfl _ _ _) rfl ?_
          exact ⟨⟨_, rfl⟩, .inr ⟨_, by rw [← HT.out]; exact List.take_prefix _ _, hJx3⟩⟩
      · obtain rfl : k = L.length := by omega
        gi_wp2
        go_end0
        exact ⟨⟨_, rfl⟩, .inl ⟨_, List.take_of_length_le (Nat.le_refl _), hJs⟩⟩
/-- the value that Each hands out, as the law of loops wants it -/
theorem each_stops (n Bp p B g h : Nat) {kd ll : Int} {m : Nat} {L : List Nd} (hm : m ≤ 1000) (Fr : World → Nat → Prop) (FR : Frm Fr) (w : World) (hBp : w.cell? ⟨Bp, 0, none⟩ = some (.pointer (some ⟨p, 0, none⟩))) (hlt : Bp < w.heap.size) (d : PoA w B p g h kd ll m L)
    (hN : ∀ W W2 k, Below w.heap.size w W → Below W.heap.size W W2 → W.heap.size ≤ k → (∃ o : Obj, W2.heap[k]? = some o ∧ o.isCells = true) → Fr W2 k) :
    SeqStopsK Fence.wide n Tryz.prog 139 #[.pointer (some ⟨Bp, 0, none⟩)] (fun x : Nd => #[.int .i64 (wrap64 x.1), .int .i64 (wrap64 x.2)]) (KpF Fr) (fun ys => ys = L) (fun pre => pre <+: L) L.length w := fun l J Jx W hW hJ hJx hY h0 =>
  each1_in n l Bp p B g h hm Fr FR J Jx hY (fun pre A C hj hb => hJ pre A C none hj (below_none hb) (fun r e => by cases e)) W ((hW.cell (p := ⟨Bp, 0, none⟩) hlt).trans hBp) (d.below hW) (fun W2 k => hN W W2 k hW) h0
end Go.Proofs.YtelekchdbiimiaaGreat
namespace Go.Proofs.YtelekchdbiimiaaGreat
set_option linter.unusedVariables false
set_option maxRecDepth 100000
open Go.RowKit Go.Shelf
attribute [local go_sem] Oper.semAt_some
theorem box1 (w : World) (TO : TypeId) (a : Value) : (w.alloc (.cells #[a] TO)).ownsRow w.heap.size TO 1 (.slice (some ⟨w.heap.size, 0, none⟩) 1 1) 1 [a] :=
  World.ownsRow_lit (base := w.heap.size) (e := TO) (size := 1) w #[a] 1 (Nat.le_refl _) (by unfold maxLen; omega) rfl
/-- a row is kept while others than cells turn -/
theorem row_grown {W W' : World} {row : Option Nat} {base : Nat} {e : TypeId} {size n : Nat} {v : Value} {xs : List Value} (o : W.ownsRow base e size v n xs) (hg : W.grownBy W' row) (hr : ∀ r, row = some r → ∃ o : Obj, W.heap[r]? = some o ∧ o.isCells = false) : W'.ownsRow base e size v n xs := by
  rcases o.2 with q | ⟨g, cap, cur, rfl, hb, hgg, rest⟩
  · exact o.kept hg (.inl (by rw [q.1]; rfl))
  · refine o.kept hg (.inr ?_)
    intro he
    obtain ⟨ob, h1, h2⟩ := hr g (by simpa [Value.ownBlock] using he.symm)
    rw [hgg] at h1
    injection h1 with h1
    rw [← h1] at h2
    cases h2
theorem PoA.grown {W W' : World} {row : Option Nat} {B p g h : Nat} {kd l : Int} {n : Nat} {L : List Nd} (d : PoA W B p g h kd l n L) (hg : W.grownBy W' row) (hr : ∀ r, row = some r → ∃ o : Obj, W.heap[r]? = some o ∧ o.isCells = false) : PoA W' B p g h kd l n L :=
  ⟨d.roll, d.len, d.st.imp (fun ⟨a, b, c, e⟩ => ⟨a, b, row_grown c hg hr, ⟨row_grown e.top hg hr, row_grown e.row hg hr, e.ne⟩⟩)
    (fun ⟨a, c, b, S, e, t, z⟩ => ⟨a, row_grown c hg hr, b, S, ⟨row_grown e.top hg hr, row_grown e.row hg hr, e.ne⟩, t, z⟩)⟩
theorem row_obj {W : World} {base : Nat} {e : TypeId} {size n g : Nat} {m c : Nat} {xs : List Value} (o : W.ownsRow base e size (.slice (some ⟨g, 0, none⟩) m c) n xs) : ∃ ob : Obj, W.heap[g]? = some ob ∧ ob.isCells = true := by
  rcases o.2 with ⟨hv, _⟩ | ⟨g', cap, cur, hv, _, hgg, _⟩
  · cases hv
  · injection hv with e1
    injection e1 with e1
    injection e1 with e1
    subst e1
    exact ⟨_, hgg, rfl⟩
theorem keepsOthers_below {W W' : World} (hb : Below W.heap.size W W') : KeepsOthers W W' :=
  ⟨hb.size, fun k o hk _ => (hb.block k (Array.getElem?_eq_some_iff.1 hk).1).trans hk⟩
/-- blocks that the store g of a pool does not write -/
def FrP (g j : Nat) (W : World) (k : Nat) : Prop := (∃ o : Obj, W.heap[k]? = some o ∧ o.isCells = true) ∧ k ≠ g ∧ (∃ v, W.cell? ⟨g, 0, none⟩ = some v) ∧ ∀ m c, W.cell? ⟨g, j, none⟩ ≠ some (.slice (some ⟨k, 0, none⟩) m c)
theorem frP (g j : Nat) : Frm (FrP g j) := by
  refine ⟨fun h => h.1, fun {W W' row k} hg hr h => ?_⟩
  obtain ⟨⟨o, ho, hc⟩, hk, ⟨v, hv⟩, hs⟩ := h
  have e1 : W'.heap[k]? = W.heap[k]? := hg.block k (Array.getElem?_eq_some_iff.1 ho).1 (fun e => by
    obtain ⟨ob, h1, h2⟩ := hr k e.symm
    rw [ho] at h1; injection h1 with h1; rw [← h1, hc] at h2; cases h2)
  obtain ⟨og, hog, hogc⟩ := cells_of_cell hv
  have e2 : W'.heap[g]? = W.heap[g]? := hg.block g (Array.getElem?_eq_some_iff.1 hog).1 (fun e => by
    obtain ⟨ob, h1, h2⟩ := hr g e.symm
    rw [hog] at h1; injection h1 with h1; rw [← h1, hogc] at h2; cases h2)
  refine ⟨⟨o, e1.trans ho, hc⟩, hk, ⟨v, (World.cell?_of_block (a := ⟨g, 0, none⟩) e2).trans hv⟩, fun m c => ?_⟩
  rw [World.cell?_of_block (a := ⟨g, j, none⟩) e2]
  exact hs m c
end Go.Proofs.YtelekchdbiimiaaGreat
