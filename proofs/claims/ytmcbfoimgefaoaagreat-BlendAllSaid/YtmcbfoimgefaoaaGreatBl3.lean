/- The project's package blend: All. -/
import Derived.Test.YtmcbfoimgefaoaaGreatBl2
import Derived.Deep.RegionWith
namespace Go.Proofs.YtmcbfoimgefaoaaGreat
set_option linter.unusedVariables false
set_option maxRecDepth 100000
open Go.RowKit

/-- a digest of the program's: where it lies, its conf, a bound, its list -/
structure DgP where
  q : Nat
  p : Nat
  g : Nat
  h : Nat
  kd : Int
  l : Int
  k : Int
  n : Nat
  L : List Nd
/-- its pointer; nil -/
def ptrP : Option DgP → Value
  | none => .pointer none
  | some d => .pointer (some ⟨d.q, 0, none⟩)
/-- pointers in a slice that is read -/
def PtrsAt (w : World) (A : Option Addr) (Ds : List (Option DgP)) : Prop := ∀ i (h : i < Ds.length), ∃ b o, A = some ⟨b, o, none⟩ ∧ b < w.heap.size ∧ w.cell? ⟨b, o + i, none⟩ = some (ptrP Ds[i])
theorem PtrsAt.below {w w' : World} {A : Option Addr} {Ds : List (Option DgP)} (h : PtrsAt w A Ds) (hb : Below w.heap.size w w') : PtrsAt w' A Ds := fun i hi => by
  obtain ⟨b, o, e, hz, c⟩ := h i hi
  exact ⟨b, o, e, Nat.lt_of_lt_of_le hz hb.size, (hb.cell (p := ⟨b, o + i, none⟩) hz).trans c⟩
/-- merged, one behind the other: the error, and k and list -/
def allG (l : Int) : Int → List Nd → List (Option DgP) → Int × Int × List Nd
  | k, L, [] => (0, k, L)
  | _, _, none :: _ => (1, 0, [])
  | k, L, some d :: ds => if bmgE l d.l L d.L = 0 then allG l (bmgK k d.k) (bmgL l (bmgK k d.k) L d.L) ds else (bmgE l d.l L d.L, 0, [])
theorem allG_yes {l k : Int} {L : List Nd} {d : DgP} {ds : List (Option DgP)} (h : bmgE l d.l L d.L = 0) : allG l k L (some d :: ds) = allG l (bmgK k d.k) (bmgL l (bmgK k d.k) L d.L) ds := if_pos h
theorem allG_no {l k : Int} {L : List Nd} {d : DgP} {ds : List (Option DgP)} (h : ¬ bmgE l d.l L d.L = 0) : allG l k L (some d :: ds) = (bmgE l d.l L d.L, 0, []) := if_neg h
theorem allG_nil {l : Int} : ∀ (ds : List (Option DgP)) (k : Int) (L : List Nd), ¬ (allG l k L (ds ++ [none])).1 = 0 := by
  intro ds
  induction ds with
  | nil => intro k L; simp [allG]
  | cons d ds ih =>
    intro k L
    cases d with
    | none => simp [allG]
    | some d =>
      rw [List.cons_append]
      by_cases h : bmgE l d.l L d.L = 0
      · rw [allG_yes h]; exact ih _ _
      · rw [allG_no h]; exact h
theorem one_setP {T : TypeId} {w : World} {B q : Nat} {x : Value} (r : w.ownsRow B T 1 (.slice (some ⟨q, 0, none⟩) 1 1) 1 [x]) (u : Value) :
    (w.setCell ⟨q, 0, none⟩ u).ownsRow B T 1 (.slice (some ⟨q, 0, none⟩) 1 1) 1 [u] := (World.ownsRow.stored r 0 u).1
theorem one_all {T : TypeId} {w : World} {B q : Nat} {x : Value} (r : w.ownsRow B T 1 (.slice (some ⟨q, 0, none⟩) 1 1) 1 [x]) : w.cell? ⟨q, 0, none⟩ = some x ∧ w.frozen? ⟨q, 0, none⟩ = false ∧ B ≤ q ∧ q < w.heap.size :=
  ⟨r.cellAt 0 (by omega), r.frozenAt 0, (r.lt q rfl).1, (r.lt q rfl).2⟩
/-- a digest where it lies -/
def DgPAt (w : World) (d : DgP) : Prop := DgA w 0 d.q d.p d.g d.h d.kd d.l d.k d.n d.L
def DgsP (w : World) (Ds : List (Option DgP)) : Prop := ∀ d, some d ∈ Ds → DgPAt w d ∧ d.n ≤ 60
theorem DgsP.below {w w' : World} {Ds : List (Option DgP)} (h : DgsP w Ds) (hb : Below w.heap.size w w') : DgsP w' Ds := fun d hd => ⟨DgA.below (h d hd).1 hb, (h d hd).2⟩
/-- what All hands out of one digest and more -/
def BlAllPost (d : DgP) (Ds : List (Option DgP)) (w : World) (e : Ending) (w' : World) : Prop :=
  (¬ (allG d.l d.k d.L Ds).1 = 0 ∧ BlNo (allG d.l d.k d.L Ds).1 w e w') ∨
  ((allG d.l d.k d.L Ds).1 = 0 ∧ Below w.heap.size w w' ∧ ∃ q p g h n, e = .returned (.tuple #[.pointer (some ⟨q, 0, none⟩), .int .i64 0]) ∧ DgA w' 0 q p g h d.kd d.l (allG d.l d.k d.L Ds).2.1 n (allG d.l d.k d.L Ds).2.2 ∧ n ≤ 420)
theorem blAll_none (c : Nat) (w : World) : Calls Tryz.prog 16 #[.slice none 0 c] w (BlNo 7 w) := by
  go_enter Tryz.func16, Tryz.ntmps16
  go_wp2_with fail
  go_ret2
  exact ⟨rfl, Below.refl _ _⟩
theorem blAll1_skip (q4 q5 : Nat) (x : Int) (v : Value) (w : World) (c5 : w.cell? ⟨q5, 0, none⟩ = some (.int .i64 x)) (hx : ¬ x = 0) :
    Calls Tryz.prog 41 #[v, .pointer (some ⟨q5, 0, none⟩), .pointer (some ⟨q4, 0, none⟩)] w fun e w' => e = .returned (.tuple #[]) ∧ w = w' := by
  have g : (x == 0) = false := beq_eq_false_iff_ne.2 hx
  go_enter Tryz.func41, Tryz.ntmps41
  go_wp2_with fail
  go_end0
  exact ⟨rfl, rfl⟩
set_option maxHeartbeats 1600000 in
theorem blAll1_put (q4 q5 : Nat) (u v : Value) (w : World) (R : Option Addr → Int → World → Prop) (o4 : w.ownsRow 0 27 1 (.slice (some ⟨q4, 0, none⟩) 1 1) 1 [u]) (o5 : w.ownsRow 0 28 1 (.slice (some ⟨q5, 0, none⟩) 1 1) 1 [.int .i64 0])
    (M : Calls Tryz.prog 14 #[u, v] w fun e w' => Below w.heap.size w w' ∧ ∃ pv x, e = .returned (.tuple #[.pointer pv, .int .i64 x]) ∧ R pv x w') :
    Calls Tryz.prog 41 #[v, .pointer (some ⟨q5, 0, none⟩), .pointer (some ⟨q4, 0, none⟩)] w fun e w' => e = .returned (.tuple #[]) ∧ ∃ w1 pv x, Below w.heap.size w w1 ∧ R pv x w1 ∧ w' = (w1.setCell ⟨q4, 0, none⟩ (.pointer pv)).setCell ⟨q5, 0, none⟩ (.int .i64 x) := by
  obtain ⟨c4, f4, _, z4⟩ := one_all o4
  obtain ⟨c5, f5, _, z5⟩ := one_all o5
  have O4 := Lib.hid o4
  have O5 := Lib.hid o5
  have MM := Lib.hid M
  clear M o4 o5
  go_enter Tryz.func41, Tryz.ntmps41
  go_wp2_with fail
  refine MM.out.mono ?_
  rintro e w1 ⟨hb1, pv, x, rfl, hr⟩
  have B1 := Lib.hid hb1
  have RR := Lib.hid hr
  obtain ⟨_, g4, _, _⟩ := one_all (own_below O4.out hb1)
  have T4 := Lib.hid (World.ownsRow.stored (own_below O4.out hb1) 0 (.pointer pv))
  have a5 := own_below O5.out hb1
  obtain ⟨y5, g5, _, _⟩ := one_all (a5.kept T4.out.2 (own_apart a5 (own_below O4.out hb1) (by decide)))
  clear hb1 hr c4 c5 f4 f5
  go_wp2_with fail
  go_end0
  exact ⟨rfl, w1, pv, x, B1.out, RR.out, rfl⟩
theorem bl_keep1 {W a b : World} {p : Addr} {x : Value} (h : a.cell? p = some x ∧ Below W.heap.size W a) (hb : Below a.heap.size a b) (hp : p.block < W.heap.size) : b.cell? p = some x ∧ Below W.heap.size W b := by
  obtain ⟨h1, h2⟩ := h
  have hz := h2.size
  exact ⟨(hb.cell (by omega)).trans h1, h2.trans (hb.mono hz)⟩
theorem bl_below1 {W a : World} {p : Addr} {x : Value} (h : a.cell? p = some x ∧ Below W.heap.size W a) : Below W.heap.size W a := h.2
set_option maxHeartbeats 3200000 in
theorem blAll_nilone (b o c : Nat) (w : World) (h : w.cell? ⟨b, o, none⟩ = some (.pointer none)) (hb : b < w.heap.size) : Calls Tryz.prog 16 #[.slice (some ⟨b, o, none⟩) 1 c] w (BlNo 1 w) := by
  have CN := Lib.hid (fun v => dgConf_nil v)
  have LN := Lib.hid (fun v => blLower_nil 0 v)
  have HB := Lib.hid hb
  have FD : ∀ w, (Instr.field 23 (.agg #[.int .i64 0, .int .i64 0, .int .i64 0]) 1).run Tryz.prog w = .ok (.int .i64 0) w := fun _ => by kernel_rfl
  go_enter Tryz.func16, Tryz.ntmps16
  go_wp2_with fail
  go_region_held3 (fun w' => w'.cell? ⟨b, o, none⟩ = some (.pointer none) ∧ Below w.heap.size w w')
    (first | assumption | (exact bl_keep1 (by assumption) (by assumption) HB.out) | (exact ⟨h, below_drew _⟩))
    (first
      | (go_at_call 27; refine (CN.out _).mono ?_; rintro e v1 ⟨rfl, hb1⟩)
      | (go_at_call 8; refine (LN.out _).mono ?_; rintro e v2 ⟨rfl, hb2⟩))
  rename_i hH
  go_wp2_with fail
  go_ret2
  exact ⟨rfl, hH.2⟩
set_option maxHeartbeats 3200000 in
theorem blAll_one (b o c : Nat) (d : DgP) (w : World) (hd : DgPAt w d) (hn : d.n ≤ 400) (h : w.cell? ⟨b, o, none⟩ = some (.pointer (some ⟨d.q, 0, none⟩))) (hb : b < w.heap.size) :
    Calls Tryz.prog 16 #[.slice (some ⟨b, o, none⟩) 1 c] w (BlPost d.kd d.l d.k (pressW d.l d.k d.L) w) := by
  have HB := Lib.hid hb
  have CN := Lib.hid (fun v (hb : Below w.heap.size w v) => dgConf_any v (DgA.below hd hb).box)
  have LN := Lib.hid (fun v (hb : Below w.heap.size w v) => (blLower_any d.k v (DgA.below hd hb) hn hd.v.k1 (Int.le_refl _)).mono (R' := fun e w' => ∃ q p g h, e = .returned (.tuple #[.pointer (some ⟨q, 0, none⟩), .int .i64 0]) ∧ DgA w' w.heap.size q p g h d.kd d.l d.k (pressW d.l d.k d.L).length (pressW d.l d.k d.L) ∧ Below v.heap.size v w') fun e w' ⟨hb2, q, p, g, h, a, b⟩ => ⟨q, p, g, h, a, b.low hb.size, hb2⟩)
  clear hd hn
  obtain ⟨q, p, g, h0, kd, l, k, n, L⟩ := d
  simp only at *
  generalize pressW l k L = M at *
  have FD : ∀ w, (Instr.field 23 (.agg #[.int .i64 l, .int .i64 k, .int .i64 kd]) 1).run Tryz.prog w = .ok (.int .i64 k) w := fun _ => by kernel_rfl
  go_enter Tryz.func16, Tryz.ntmps16
  go_wp2_with fail
  go_region_held3 (fun w' => w'.cell? ⟨b, o, none⟩ = some (.pointer (some ⟨q, 0, none⟩)) ∧ Below w.heap.size w w')
    (first | assumption | (exact bl_keep1 (by assumption) (by assumption) HB.out) | (exact ⟨h, below_drew _⟩))
    (first
      | (go_at_call 27; refine (CN.out _ (bl_below1 (p := ⟨b, o, none⟩) (x := .pointer (some ⟨q, 0, none⟩)) (by assumption))).mono ?_; rintro e v1 ⟨rfl, hb1⟩)
      | (go_at_call 8; refine (LN.out _ (bl_below1 (p := ⟨b, o, none⟩) (x := .pointer (some ⟨q, 0, none⟩)) (by assumption))).mono ?_; rintro e v2 ⟨q2, p2, g2, h2, rfl, hd2, hb2⟩))
  rename_i hH
  go_wp2_with fail
  go_ret2
  exact ⟨hH.2, q2, p2, g2, h2, rfl, hd2⟩
theorem ptr_info : (Tryz.prog.info? 27).map (fun i => (i.zero, i.size, i.bytes)) = some (some (.pointer none), 1, 8) := by kernel_rfl
/-- between two rounds of All: what has been merged lies there, or why not -/
def GRun (wr : World) (q4 q5 : Nat) (l k0 kd : Int) (L0 : List Nd) (Ds : List (Option DgP)) (j : Nat) : Prop :=
  (∃ q p g h k n L, wr.ownsRow 0 27 1 (.slice (some ⟨q4, 0, none⟩) 1 1) 1 [.pointer (some ⟨q, 0, none⟩)] ∧ wr.ownsRow 0 28 1 (.slice (some ⟨q5, 0, none⟩) 1 1) 1 [.int .i64 0] ∧
    DgA wr 0 q p g h kd l k n L ∧ n ≤ 60 * (j + 1) ∧ (∀ i, dgF q p g h i → i ≠ q4 ∧ i ≠ q5) ∧ allG l k0 L0 Ds = allG l k L (Ds.drop j)) ∨
  (∃ x, ¬ x = 0 ∧ wr.ownsRow 0 27 1 (.slice (some ⟨q4, 0, none⟩) 1 1) 1 [.pointer none] ∧ wr.ownsRow 0 28 1 (.slice (some ⟨q5, 0, none⟩) 1 1) 1 [.int .i64 x] ∧ (allG l k0 L0 Ds).1 = x)
set_option maxHeartbeats 12800000 in
theorem blAll_more (b o c : Nat) (d : DgP) (Ds : List (Option DgP)) (N : Nat) (w : World) (hN : N = Ds.length + 1) (h1 : 1 ≤ Ds.length) (h6 : Ds.length ≤ 6) (hc : N ≤ c) (hp : PtrsAt w (some ⟨b, o, none⟩) (some d :: Ds)) (hd : DgsP w (some d :: Ds)) :
    Calls Tryz.prog 16 #[.slice (some ⟨b, o, none⟩) N c] w (BlAllPost d Ds w) := by
  obtain ⟨i0, hi, hz0, hz1, hz2⟩ := info_parts ptr_info
  obtain ⟨b', o', ee, hbz, c0⟩ := hp 0 (by simp)
  injection ee with ee
  injection ee with ee1 ee2
  subst ee1 ee2
  simp only [Nat.add_zero, List.getElem_cons_zero, ptrP] at c0
  have HP := Lib.hid hp
  have HD := Lib.hid hd
  obtain ⟨n, hn⟩ : ∃ n, n = Ds.length := ⟨_, rfl⟩
  have HN := Lib.hid hn
  have hadv : advA ⟨b, o, none⟩ c 1 1 = ⟨b, o + 1, none⟩ := by unfold advA; rw [if_neg (by omega)]; rfl
  have hN1 : N - 1 = n := by omega
  have hsb := sl_one (P := Tryz.prog) Tryz.underlying48 hi hz1 ⟨b, o, none⟩ N c (by omega)
  rw [hadv, hN1] at hsb
  have g1 : ((N : Int) == 0) = false := beq_eq_false_iff_ne.2 (by omega)
  have g2 : ((N : Int) == 1) = false := beq_eq_false_iff_ne.2 (by omega)
  have g3 : (0 : Int) < (N : Int) := by omega
  have g4 : (1 : Int) ≤ (N : Int) := by omega
  have g5 : (N : Int) ≤ (c : Int) := by omega
  have H6 : Hid (n ≤ 6) := by show n ≤ 6; omega
  have e1 : (w.alloc (.cells #[.pointer (some ⟨d.q, 0, none⟩)] 27)).heap.size = w.heap.size + 1 := by simp
  have U4 := Lib.hid (own_low ((box1 w 27 (.pointer (some ⟨d.q, 0, none⟩))).alloc (.cells #[.int .i64 0] 28)) (Nat.zero_le _))
  have U5 := box1 (w.alloc (.cells #[.pointer (some ⟨d.q, 0, none⟩)] 27)) 28 (.int .i64 0)
  rw [e1] at U5
  have U5 := Lib.hid (own_low U5 (Nat.zero_le _))
  have HB1 : Hid (Below w.heap.size w ((w.alloc (.cells #[.pointer (some ⟨d.q, 0, none⟩)] 27)).alloc (.cells #[.int .i64 0] 28))) := ((Below.refl _ _).alloc (Nat.le_refl _) _).alloc (by rw [e1]; omega) _
  have START : Hid (GRun ((w.alloc (.cells #[.pointer (some ⟨d.q, 0, none⟩)] 27)).alloc (.cells #[.int .i64 0] 28)) w.heap.size (w.heap.size + 1) d.l d.k d.kd d.L Ds 0) := by
    have z := hd d (by simp)
    exact .inl ⟨d.q, d.p, d.g, d.h, d.k, d.n, d.L, U4.out, U5.out, DgA.below z.1 HB1.out, by have := z.2; omega, fun i f => by have := (DgA.lt z.1 i f).2; omega, rfl⟩
  clear hp hd hn hN h1 h6 hadv e1 U4 U5
  go_enter Tryz.func16, Tryz.ntmps16
  go_upto_region 8 with fail
  generalize (w.alloc (.cells #[.pointer (some ⟨d.q, 0, none⟩)] 27)).alloc (.cells #[.int .i64 0] 28) = W1 at *
  go_loopw [33] (fun i wr => ∃ j : Nat, j ≤ n ∧ i = .int .i64 j ∧ GRun wr w.heap.size (w.heap.size + 1) d.l d.k d.kd d.L Ds j ∧ Below w.heap.size w wr) (fun i _ => n - (intOf i).toNat)
  case atStart => exact ⟨0, by omega, rfl, START.out, HB1.out⟩
  case round =>
    rename_i wr
    obtain ⟨j, hj, rfl, hg, hb⟩ := hrel
    have BB := Lib.hid hb
    have GG := Lib.hid hg
    clear hb hg
    by_cases hlt : j < n
    · have hj1 : j + 1 < (some d :: Ds).length := by have := HN.out; simp; omega
      have hjd : j < Ds.length := by have := HN.out; omega
      obtain ⟨b', o', ee, hbz2, cj⟩ := HP.out (j + 1) hj1
      injection ee with ee
      injection ee with ee1 ee2
      subst ee1 ee2
      rw [show o + (j + 1) = o + 1 + j by omega, List.getElem_cons_succ] at cj
      have cj1 := (BB.out.cell (p := ⟨b, o + 1 + j, none⟩) hbz2).trans cj
      have hdr : Ds.drop j = Ds[j] :: Ds.drop (j + 1) := List.drop_eq_getElem_cons hjd
      have hmem : ∀ y, Ds[j] = some y → DgPAt w y ∧ y.n ≤ 60 := fun y hy => HD.out y (by rw [← hy]; simp)
      have n6 : n ≤ 6 := H6.out
      have k0 : (0 : Int) ≤ (j : Int) := Int.natCast_nonneg _
      have k1 : (j : Int) < (n : Int) := by omega
      obtain ⟨u, hu⟩ : ∃ u, u = Ds[j] := ⟨_, rfl⟩
      rw [← hu] at cj1 hdr hmem
      have HDR := Lib.hid hdr
      have HM := Lib.hid hmem
      clear hu cj hdr hmem
      rcases GG.out with ⟨q, p, g, h, k, m, L, o4, o5, dA, hm, hf, hG⟩ | ⟨x, hx, o4, o5, hG⟩
      · have E5 := (one_all o5).1
        have O4 := Lib.hid o4
        have O5 := Lib.hid o5
        have DA := Lib.hid dA
        have FF := Lib.hid hf
        have GE := Lib.hid hG
        have HMM := Lib.hid hm
        have WZ := Lib.hid BB.out.size
        have hq5 := (one_all o5).2.2.2
        clear o4 o5 dA hf hG hm
        have STEP : Hid (∀ (w1 : World) (pv : Option Addr) (x : Int), Below wr.heap.size wr w1 →
            ((¬ x = 0 ∧ pv = none ∧ (allG d.l d.k d.L Ds).1 = x) ∨ (x = 0 ∧ ∃ q2 p2 g2 h2 k2 L2, pv = some ⟨q2, 0, none⟩ ∧ DgA w1 wr.heap.size q2 p2 g2 h2 d.kd d.l k2 L2.length L2 ∧ L2.length ≤ 60 * (j + 2) ∧ allG d.l d.k d.L Ds = allG d.l k2 L2 (Ds.drop (j + 1)))) →
            GRun ((w1.setCell ⟨w.heap.size, 0, none⟩ (.pointer pv)).setCell ⟨w.heap.size + 1, 0, none⟩ (.int .i64 x)) w.heap.size (w.heap.size + 1) d.l d.k d.kd d.L Ds (j + 1) ∧ Below w.heap.size w ((w1.setCell ⟨w.heap.size, 0, none⟩ (.pointer pv)).setCell ⟨w.heap.size + 1, 0, none⟩ (.int .i64 x))) := by
          intro w1 pv x hb1 hx
          have a4 := own_below O4.out hb1
          have a5 := own_below O5.out hb1
          have s4 := World.ownsRow.stored a4 0 (.pointer pv)
          have b5 := a5.kept s4.2 (own_apart a5 a4 (by decide))
          have s5 := World.ownsRow.stored b5 0 (.int .i64 x)
          have b4 := s4.1.kept s5.2 (own_apart s4.1 b5 (by decide))
          have bl : Below w.heap.size w ((w1.setCell ⟨w.heap.size, 0, none⟩ (.pointer pv)).setCell ⟨w.heap.size + 1, 0, none⟩ (.int .i64 x)) :=
            ((BB.out.trans (hb1.mono WZ.out)).setCell (p := ⟨w.heap.size, 0, none⟩) (Nat.le_refl _) _).setCell (p := ⟨w.heap.size + 1, 0, none⟩) (Nat.le_succ _) _
          refine ⟨?_, bl⟩
          rcases hx with ⟨hx, rfl, hG⟩ | ⟨rfl, q2, p2, g2, h2, k2, L2, rfl, hD, hL, hG⟩
          · exact .inr ⟨x, hx, b4, s5.1, hG⟩
          · refine .inl ⟨q2, p2, g2, h2, k2, L2.length, L2, b4, s5.1, ?_, hL, fun i f => by have := (hD.lt i f).1; omega, hG⟩
            exact ((hD.kp (Kp.setCell w1 ⟨w.heap.size, 0, none⟩ (.pointer (some ⟨q2, 0, none⟩))) fun i e f => by have := (hD.lt i f).1; simp only at e; omega).kp (Kp.setCell _ ⟨w.heap.size + 1, 0, none⟩ (.int .i64 0)) fun i e f => by have := (hD.lt i f).1; simp only at e; omega).low (Nat.zero_le _)
        cases u with
        | none =>
          have MG := Lib.hid ((blMerge_nil2 q wr).mono (R' := fun e w' => Below wr.heap.size wr w' ∧ ∃ pv x, e = .returned (.tuple #[.pointer pv, .int .i64 x]) ∧ (pv = none ∧ x = 1)) fun e w' ⟨a, b⟩ => ⟨b, none, 1, a, rfl, rfl⟩)
          have NX : Hid ((allG d.l d.k d.L Ds).1 = 1) := by show _ = _; rw [GE.out, HDR.out]; rfl
          simp only [ptrP] at cj1
          go_wp2_with fail
          refine (blAll1_put _ _ _ _ _ _ O4.out O5.out MG.out).mono ?_
          rintro e w2 ⟨rfl, w1, pv, x, hb1, ⟨rfl, rfl⟩, rfl⟩
          have ST := Lib.hid (STEP.out w1 none 1 hb1 (.inl ⟨by omega, rfl, NX.out⟩))
          clear hb1
          go_wp2_with fail
          go_roundw
          case rel => exact ⟨j + 1, by omega, by go_num, ST.out.1, ST.out.2⟩
          case measure => simp [intOf]; omega
        | some y =>
          have hy := HM.out y rfl
          have yl := DgA.po hy.1 |>.len
          have cl := DA.out.po.len
          have ml := HMM.out
          have MG := Lib.hid ((blMerge_any wr DA.out (DgA.below hy.1 BB.out) (by have := H6.out; omega) (by omega) (by have := H6.out; omega)).mono (R' := fun e w' => Below wr.heap.size wr w' ∧ ∃ pv x, e = .returned (.tuple #[.pointer pv, .int .i64 x]) ∧
            ((¬ x = 0 ∧ pv = none ∧ bmgE d.l y.l L y.L = x) ∨ (x = 0 ∧ bmgE d.l y.l L y.L = 0 ∧ ∃ q2 p2 g2 h2, pv = some ⟨q2, 0, none⟩ ∧ DgA w' wr.heap.size q2 p2 g2 h2 d.kd d.l (bmgK k y.k) (bmgL d.l (bmgK k y.k) L y.L).length (bmgL d.l (bmgK k y.k) L y.L)))) fun e w' hz => by
              rcases hz with ⟨z, a, b⟩ | ⟨z, _, hb, q2, p2, g2, h2, a, b⟩
              · exact ⟨b, none, _, a, .inl ⟨z, rfl, rfl⟩⟩
              · exact ⟨hb, _, 0, a, .inr ⟨rfl, z, q2, p2, g2, h2, rfl, b⟩⟩)
          have NX : Hid (∀ x, bmgE d.l y.l L y.L = x → ¬ x = 0 → (allG d.l d.k d.L Ds).1 = x) := by
            intro x hx h0
            rw [GE.out, HDR.out, allG_no (by rw [hx]; exact h0)]; exact hx
          have NY : Hid (bmgE d.l y.l L y.L = 0 → allG d.l d.k d.L Ds = allG d.l (bmgK k y.k) (bmgL d.l (bmgK k y.k) L y.L) (Ds.drop (j + 1)) ∧ (bmgL d.l (bmgK k y.k) L y.L).length ≤ 60 * (j + 2)) := by
            intro hx
            refine ⟨by rw [GE.out, HDR.out, allG_yes hx], ?_⟩
            have hl : d.l = y.l := by
              by_cases z : d.l = y.l
              · exact z
              · rw [bmgE_shape z] at hx; omega
            have hs : ¬ 72057594037927935 < sumC L + sumC y.L := fun z => by
              rw [← hl, bmgE_full z] at hx; omega
            have vy := DgA.v hy.1
            rw [← hl] at vy
            have := (dgV_bmg DA.out.v vy hs).2.2.1
            omega
          simp only [ptrP] at cj1
          clear hy yl cl
          generalize bmgE d.l y.l L y.L = be at *
          generalize bmgL d.l (bmgK k y.k) L y.L = L2 at *
          generalize bmgK k y.k = k2 at *
          go_wp2_with fail
          refine (blAll1_put _ _ _ _ _ _ O4.out O5.out MG.out).mono ?_
          rintro e w2 ⟨rfl, w1, pv, x, hb1, hR, rfl⟩
          have ST := Lib.hid (STEP.out w1 pv x hb1 (by
            rcases hR with ⟨h0, rfl, rfl⟩ | ⟨rfl, rfl, q2, p2, g2, h2, rfl, hD⟩
            · exact .inl ⟨h0, rfl, NX.out _ rfl h0⟩
            · exact .inr ⟨rfl, q2, p2, g2, h2, k2, L2, rfl, hD, (NY.out rfl).2, (NY.out rfl).1⟩))
          clear hb1 hR
          go_wp2_with fail
          go_roundw
          case rel => exact ⟨j + 1, by omega, by go_num, ST.out.1, ST.out.2⟩
          case measure => simp [intOf]; omega
      · have E5 := (one_all o5).1
        have GN : Hid (GRun wr w.heap.size (w.heap.size + 1) d.l d.k d.kd d.L Ds (j + 1)) := .inr ⟨x, hx, o4, o5, hG⟩
        clear o4 o5 hG
        go_wp2_with fail
        refine (blAll1_skip _ _ x _ _ E5 hx).mono ?_
        rintro e w2 ⟨rfl, rfl⟩
        go_wp2_with fail
        go_roundw
        case rel => exact ⟨j + 1, by omega, by go_num, GN.out, BB.out⟩
        case measure => simp [intOf]; omega
    · obtain rfl : j = n := by omega
      rcases GG.out with ⟨q, p, g, h, k, m, L, o4, o5, dA, hm, hf, hG⟩ | ⟨x, hx, o4, o5, hG⟩
      · obtain ⟨c4, f4, _, _⟩ := one_all o4
        obtain ⟨c5, f5, _, _⟩ := one_all o5
        rw [List.drop_of_length_le (by have := HN.out; omega)] at hG
        have E : Hid (BlAllPost d Ds w (.returned (.tuple #[.pointer (some ⟨q, 0, none⟩), .int .i64 0])) wr.drew) := by
          refine .inr ⟨by rw [hG]; rfl, BB.out.trans (below_drew wr |>.mono BB.out.size), q, p, g, h, m, rfl, ?_, by have := H6.out; omega⟩
          rw [hG]
          exact dA.below (below_drew wr)
        clear o4 o5 dA hm hf hG hlt
        go_wp2_with fail
        go_region
        all_goals go_wp2_with fail
        all_goals go_ret2
        all_goals exact E.out
      · obtain ⟨c4, f4, _, _⟩ := one_all o4
        obtain ⟨c5, f5, _, _⟩ := one_all o5
        have E : Hid (BlAllPost d Ds w (.returned (.tuple #[.pointer none, .int .i64 x])) wr.drew) := by
          exact .inl ⟨by rw [hG]; exact hx, by rw [hG]; exact ⟨rfl, BB.out.trans (below_drew wr |>.mono BB.out.size)⟩⟩
        clear o4 o5 hG hlt
        go_wp2_with fail
        go_region
        all_goals go_wp2_with fail
        all_goals go_ret2
        all_goals exact E.out

end Go.Proofs.YtmcbfoimgefaoaaGreat
