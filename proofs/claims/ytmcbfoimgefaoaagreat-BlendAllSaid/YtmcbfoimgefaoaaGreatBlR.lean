/- Texts laid together: BlRef, BlRef2, BlRef4, BlRef5, BlRef6. -/
import Derived.Test.YtmcbfoimgefaoaaGreatDgR
import Derived.Test.YtmcbfoimgefaoaaGreatRoRef4
import Derived.Test.YtmcbfoimgefaoaaGreatDgL
import Derived.Test.YtmcbfoimgefaoaaGreatBlN
import Derived.Deep.RegionWith
import Derived.Deep.Cut
import Derived.Deep.DeepCutAuto
/- The document's answers of package dewpondref14: Lower. -/
namespace Go.Proofs.YtmcbfoimgefaoaaGreat
set_option linter.unusedVariables false
set_option maxRecDepth 100000
open Go.RowKit

/-- a digest handed out, and a number (37) -/
def RBlPost (k l : Int) (M : List Nd) (x : Int) (w : World) (e : Ending) (w' : World) : Prop :=
  ∃ A m c, e = .returned (.tuple #[.agg #[.int .i64 k, .int .i64 l, .slice A m c], .int .i64 x]) ∧ NodesAt w' (.slice A m c) M ∧ Below w.heap.size w w'
/-- .. the list that came in, or a row of the call's own -/
def RBlHas (k l : Int) (A0 : Option Addr) (n0 c0 : Nat) (L M : List Nd) (x : Int) (w : World) (e : Ending) (w' : World) : Prop :=
  ∃ A m c, e = .returned (.tuple #[.agg #[.int .i64 k, .int .i64 l, .slice A m c], .int .i64 x]) ∧ HasL w w' A0 n0 c0 L (.slice A m c) M ∧ Below w.heap.size w w'
set_option maxHeartbeats 3200000 in
theorem rBlLower_no (l k0 k : Int) (v : Value) (w : World) (hk : ¬ (1 ≤ k ∧ k ≤ k0)) :
    Calls Tryz.prog 12 #[.agg #[.int .i64 k0, .int .i64 l, v], .int .i64 k] w fun e w' => e = .returned (.tuple #[.agg #[.int .i64 0, .int .i64 0, .slice none 0 0], .int .i64 2]) ∧ Below w.heap.size w w' := by
  have I0 := Lib.hid (dgI_new w k0 l v)
  obtain ⟨x0, x1, x2, _, _, _, _⟩ := tri_all I0.out.s
  obtain ⟨y0, y1, y2, h0, h1, h2, hz2⟩ := tri_all I0.out.r
  by_cases g : k < 1
  · have c1 : decide (k < 1) = true := decide_eq_true g
    clear hk g
    go_enter Tryz.func12, Tryz.ntmps12
    go_wp2_with fail
    generalize (w.alloc (.cells #[.int .i64 k0, .int .i64 l, v] 37)).alloc (.cells #[.int .i64 0, .int .i64 0, .slice none 0 0] 37) = W0 at *
    exact bodyPost_ret (v := .tuple #[.agg #[.int .i64 0, .int .i64 0, .slice none 0 0], .int .i64 2]) (by simp [results, Tryz.results12, go_sem, y0, y1, y2]) rfl ⟨rfl, I0.out.b⟩
  · have c1 : decide (k < 1) = false := decide_eq_false g
    have c2 : decide (k0 < k) = true := decide_eq_true (by omega)
    clear hk g
    go_enter Tryz.func12, Tryz.ntmps12
    go_wp2_with fail
    generalize (w.alloc (.cells #[.int .i64 k0, .int .i64 l, v] 37)).alloc (.cells #[.int .i64 0, .int .i64 0, .slice none 0 0] 37) = W0 at *
    exact bodyPost_ret (v := .tuple #[.agg #[.int .i64 0, .int .i64 0, .slice none 0 0], .int .i64 2]) (by simp [results, Tryz.results12, go_sem, y0, y1, y2]) rfl ⟨rfl, I0.out.b⟩
set_option maxHeartbeats 3200000 in
theorem rBlLower_has (l k0 k : Int) (A : Option Addr) (n c : Nat) (L : List Nd) (w : World) (h : NodesAt w (.slice A n c) L) (hr : RollC l L) (hn : n ≤ 400) (k1 : 1 ≤ k) (k2 : k ≤ k0) (k3 : k ≤ 1048576) :
    Calls Tryz.prog 12 #[.agg #[.int .i64 k0, .int .i64 l, .slice A n c], .int .i64 k] w (RBlHas k l A n c L (pressW l k L) 0 w) := by
  have I0 := Lib.hid (dgI_new w k0 l (.slice A n c))
  have HN := Lib.hid (h.below I0.out.b)
  have hk : kIs k = true := decide_eq_true ⟨k1, k3⟩
  have RN := Lib.hid (rPrRun_has l k A n c L _ HN.out hr hn hk)
  have HU := Lib.hid (fun j hl hx => press_uniq (cap := capW L k) (j := j) hr hl hx)
  have HPW : Hid (pressW l k L = preA l (capW L k) L (pressJ l (capW L k) L)) := rfl
  obtain ⟨x0, x1, x2, _, _, _, _⟩ := tri_all I0.out.s
  have c1 : decide (k < 1) = false := decide_eq_false (by omega)
  have c2 : decide (k0 < k) = false := decide_eq_false (by omega)
  clear h hr hk
  generalize pressW l k L = M at *
  generalize hcap : capW L k = cap at *
  clear hcap
  go_enter Tryz.func12, Tryz.ntmps12
  go_wp2_with fail
  generalize (w.alloc (.cells #[.int .i64 k0, .int .i64 l, .slice A n c] 37)).alloc (.cells #[.int .i64 0, .int .i64 0, .slice none 0 0] 37) = W0 at *
  refine RN.out.mono ?_
  rintro e w1 ⟨j, A1, m1, c1', A2, m2, c2', rfl, hl, hh, ho, hb1⟩
  have hM : preA l cap L j = M := by rw [HPW.out, ← HU.out j hl.1 hl.2]
  rw [hM] at hh
  have HH := Lib.hid hh
  have I1 := Lib.hid (I0.out.below hb1)
  clear hl hh ho hb1 hM x0 x1 x2 HU HPW RN
  obtain ⟨y0, y1, y2, h0, h1, h2, hz2⟩ := tri_all I1.out.r
  obtain ⟨q0, q1, q2⟩ := set_three I1.out.r (.int .i64 k) (.int .i64 l) (.slice A1 m1 c1')
  have T := Lib.hid (tri_set I1.out.r (.int .i64 k) (.int .i64 l) (.slice A1 m1 c1'))
  have B3 := Lib.hid (I1.out.b.trans T.out.2.2.1)
  have O3 : Hid (HasL w (((w1.setCell ⟨w.heap.size + 1, 0, none⟩ (.int .i64 k)).setCell ⟨w.heap.size + 1, 1, none⟩ (.int .i64 l)).setCell ⟨w.heap.size + 1, 2, none⟩ (.slice A1 m1 c1')) A n c L (.slice A1 m1 c1') M) := by
    rcases HH.out with q | o
    · exact .inl q
    · exact .inr (own_low (T.out.2.1 _ _ _ _ _ _ (by decide) o) I0.out.b.size)
  go_wp2_with fail
  exact bodyPost_ret (v := .tuple #[.agg #[.int .i64 k, .int .i64 l, .slice A1 m1 c1'], .int .i64 0]) (by simp [results, Tryz.results12, go_sem, q0, q1, q2, hz2]) rfl ⟨A1, m1, c1', rfl, O3.out.below ((Below.refl _ _).alloc (Nat.le_refl _) _), B3.out.alloc B3.out.size _⟩
theorem rBlLower_any (l k0 k : Int) (A : Option Addr) (n c : Nat) (L : List Nd) (w : World) (h : NodesAt w (.slice A n c) L) (hr : RollC l L) (hn : n ≤ 400) (k1 : 1 ≤ k) (k2 : k ≤ k0) (k3 : k ≤ 1048576) :
    Calls Tryz.prog 12 #[.agg #[.int .i64 k0, .int .i64 l, .slice A n c], .int .i64 k] w (RBlPost k l (pressW l k L) 0 w) :=
  (rBlLower_has l k0 k A n c L w h hr hn k1 k2 k3).mono fun e w' ⟨A1, m1, c1, a, b, d⟩ => ⟨A1, m1, c1, a, b.nodes h d, d⟩

end Go.Proofs.YtmcbfoimgefaoaaGreat

/- The document's answers of package dewpondref14: Merge. -/
namespace Go.Proofs.YtmcbfoimgefaoaaGreat
set_option linter.unusedVariables false
set_option maxRecDepth 100000
open Go.RowKit

theorem tri_set1 {TS : TypeId} {w : World} {B q : Nat} {x y z : Value} (r : w.ownsRow B TS 3 (.slice (some ⟨q, 0, none⟩) 1 1) 1 [x, y, z]) (u : Value) :
    (w.setCell ⟨q, 2, none⟩ u).ownsRow B TS 3 (.slice (some ⟨q, 0, none⟩) 1 1) 1 [x, y, u] ∧ (∀ (base : Nat) (e : TypeId) (size n : Nat) (v : Value) (ys : List Value), e ≠ TS → w.ownsRow base e size v n ys → (w.setCell ⟨q, 2, none⟩ u).ownsRow base e size v n ys) ∧
    Below B w (w.setCell ⟨q, 2, none⟩ u) ∧ (∀ (base : Nat) (e : TypeId) (size n : Nat) (v : Value) (ys : List Value), v.ownBlock ≠ some q → w.ownsRow base e size v n ys → (w.setCell ⟨q, 2, none⟩ u).ownsRow base e size v n ys) := by
  have s := World.ownsRow.stored r 2 u
  exact ⟨s.1, fun base e size n v ys he o => o.kept s.2 (own_apart o r he), (Below.refl _ _).setCell (p := ⟨q, 2, none⟩) (r.lt q rfl).1 u, fun base e size n v ys he o => o.kept s.2 (.inr he)⟩
theorem fold_two {l : Int} {P Q : List Nd} (hP : RollC l P) (hQ : RollC l Q) (ht : sumC P + sumC Q ≤ 72057594037927935) : foldB (P ++ Q) = true := by
  refine foldC_iff.2 ⟨⟨fun n hn => ?_, by rw [sumC_app]; exact ht⟩, fun n hn => ?_⟩
  · rcases List.mem_append.1 hn with q | q
    · exact good_nonneg (roll_good hP) n q
    · exact good_nonneg (roll_good hQ) n q
  · rcases List.mem_append.1 hn with q | q
    · exact right_pos (hP.2.2.1 n q).1
    · exact right_pos (hQ.2.2.1 n q).1
/-- the three boxes of a call of Merge: both digests, and the one that is handed out -/
structure BlM (w W : World) (ka la : Int) (va : Value) (kb lb : Int) (vb : Value) : Prop where
  s : W.ownsRow w.heap.size 37 3 (.slice (some ⟨w.heap.size, 0, none⟩) 1 1) 1 [.int .i64 ka, .int .i64 la, va]
  t : W.ownsRow w.heap.size 37 3 (.slice (some ⟨w.heap.size + 1, 0, none⟩) 1 1) 1 [.int .i64 kb, .int .i64 lb, vb]
  r : W.ownsRow w.heap.size 37 3 (.slice (some ⟨w.heap.size + 2, 0, none⟩) 1 1) 1 [.int .i64 0, .int .i64 0, .slice none 0 0]
  b : Below w.heap.size w W
theorem blM_new (w : World) (ka la : Int) (va : Value) (kb lb : Int) (vb : Value) : BlM w (((w.alloc (.cells #[.int .i64 ka, .int .i64 la, va] 37)).alloc (.cells #[.int .i64 kb, .int .i64 lb, vb] 37)).alloc (.cells #[.int .i64 0, .int .i64 0, .slice none 0 0] 37)) ka la va kb lb vb := by
  have e1 : (w.alloc (.cells #[.int .i64 ka, .int .i64 la, va] 37)).heap.size = w.heap.size + 1 := by simp
  have e2 : ((w.alloc (.cells #[.int .i64 ka, .int .i64 la, va] 37)).alloc (.cells #[.int .i64 kb, .int .i64 lb, vb] 37)).heap.size = w.heap.size + 2 := by simp
  have q1 := tri_nw (w.alloc (.cells #[.int .i64 ka, .int .i64 la, va] 37)) 37 (.int .i64 kb) (.int .i64 lb) vb
  have q2 := tri_nw ((w.alloc (.cells #[.int .i64 ka, .int .i64 la, va] 37)).alloc (.cells #[.int .i64 kb, .int .i64 lb, vb] 37)) 37 (.int .i64 0) (.int .i64 0) (.slice none 0 0)
  rw [e1] at q1
  rw [e2] at q2
  exact ⟨((tri_nw w _ _ _ _).alloc _).alloc _, own_low (q1.alloc _) (by omega), own_low q2 (by omega), (((Below.refl _ _).alloc (Nat.le_refl _) _).alloc (by simp) _).alloc (by simp; omega) _⟩
theorem BlM.below {w W W' : World} {ka la kb lb : Int} {va vb : Value} (h : BlM w W ka la va kb lb vb) (hb : Below W.heap.size W W') : BlM w W' ka la va kb lb vb := ⟨own_below h.s hb, own_below h.t hb, own_below h.r hb, h.b.trans (hb.mono h.b.size)⟩
/-- an error's answer -/
def RBlNo (x : Int) (w : World) (e : Ending) (w' : World) : Prop := e = .returned (.tuple #[.agg #[.int .i64 0, .int .i64 0, .slice none 0 0], .int .i64 x]) ∧ Below w.heap.size w w'
set_option maxHeartbeats 3200000 in
theorem rBlMerge_shape (ka la kb lb : Int) (A A2 : Option Addr) (n c n2 c2 : Nat) (w : World) (hl : ¬ la = lb) :
    Calls Tryz.prog 15 #[.agg #[.int .i64 ka, .int .i64 la, .slice A n c], .agg #[.int .i64 kb, .int .i64 lb, .slice A2 n2 c2]] w (RBlNo 6 w) := by
  have I0 := Lib.hid (blM_new w ka la (.slice A n c) kb lb (.slice A2 n2 c2))
  obtain ⟨x0, x1, x2, _, _, _, _⟩ := tri_all I0.out.s
  obtain ⟨y0, y1, y2, _, _, _, _⟩ := tri_all I0.out.t
  obtain ⟨z0, z1, z2, _, _, _, hz⟩ := tri_all I0.out.r
  obtain ⟨q0, q1, q2⟩ := set_three I0.out.r (.int .i64 0) (.int .i64 0) (.slice none 0 0)
  have g1 : (la != lb) = true := bne_iff_ne.2 hl
  clear hl
  go_enter Tryz.func15, Tryz.ntmps15
  go_wp2_with fail
  generalize ((w.alloc (.cells #[.int .i64 ka, .int .i64 la, .slice A n c] 37)).alloc (.cells #[.int .i64 kb, .int .i64 lb, .slice A2 n2 c2] 37)).alloc (.cells #[.int .i64 0, .int .i64 0, .slice none 0 0] 37) = W0 at *
  exact bodyPost_ret (v := .tuple #[.agg #[.int .i64 0, .int .i64 0, .slice none 0 0], .int .i64 6]) (by simp [results, Tryz.results15, go_sem, z0, z1, z2]) rfl ⟨rfl, by first | exact I0.out.b | exact I0.out.b.trans (tri_set I0.out.r (.int .i64 0) (.int .i64 0) (.slice none 0 0)).2.2.1⟩
set_option maxHeartbeats 6400000 in
theorem rBlMerge_full (l ka kb : Int) (A A2 : Option Addr) (n c n2 c2 : Nat) (L M : List Nd) (w : World) (h1 : NodesAt w (.slice A n c) L) (h2 : NodesAt w (.slice A2 n2 c2) M) (hL : RollC l L) (hM : RollC l M) (hn : n ≤ 400) (hn2 : n2 ≤ 400) (ht : 72057594037927935 < sumC L + sumC M) :
    Calls Tryz.prog 15 #[.agg #[.int .i64 ka, .int .i64 l, .slice A n c], .agg #[.int .i64 kb, .int .i64 l, .slice A2 n2 c2]] w (RBlNo 5 w) := by
  have I0 := Lib.hid (blM_new w ka l (.slice A n c) kb l (.slice A2 n2 c2))
  obtain ⟨x0, x1, x2, _, _, _, hx⟩ := tri_all I0.out.s
  obtain ⟨y0, y1, y2, _, _, _, hy⟩ := tri_all I0.out.t
  have Z1 := Lib.hid hx
  have Z2 := Lib.hid hy
  have WA := Lib.hid (fun v (hb : Below _ _ v) => rDgWeight_any l ka A n c L v ((h1.below I0.out.b).below hb) hL (by omega))
  have WB := Lib.hid (fun v (hb : Below _ _ v) => rDgWeight_any l kb A2 n2 c2 M v ((h2.below I0.out.b).below hb) hM (by omega))
  have s1 := hL.2.2.2.2
  have s2 := hM.2.2.2.2
  have nn := good_nonneg (roll_good hM)
  have s0 : 0 ≤ sumC M := Int.le_trans (sum_le nn 0).1 (sum_le nn 0).2
  have hw : IntKind.i64.wrap (72057594037927935 - sumC M) = 72057594037927935 - sumC M := wrap_lit rfl (by omega) (by omega)
  have g2 : decide (72057594037927935 - sumC M < sumC L) = true := decide_eq_true (by omega)
  have g1 : (l != l) = false := by simp
  clear h1 h2 hL hM nn ht
  generalize sumC L = sa at *
  generalize sumC M = sb at *
  go_enter Tryz.func15, Tryz.ntmps15
  go_wp2_with fail
  generalize ((w.alloc (.cells #[.int .i64 ka, .int .i64 l, .slice A n c] 37)).alloc (.cells #[.int .i64 kb, .int .i64 l, .slice A2 n2 c2] 37)).alloc (.cells #[.int .i64 0, .int .i64 0, .slice none 0 0] 37) = W0 at *
  go_region_held3 (fun w' => w'.cell? ⟨w.heap.size, 0, none⟩ = some (.int .i64 ka) ∧ w'.cell? ⟨w.heap.size, 1, none⟩ = some (.int .i64 l) ∧ w'.cell? ⟨w.heap.size, 2, none⟩ = some (.slice A n c) ∧ w'.cell? ⟨w.heap.size + 1, 0, none⟩ = some (.int .i64 kb) ∧ w'.cell? ⟨w.heap.size + 1, 1, none⟩ = some (.int .i64 l) ∧ w'.cell? ⟨w.heap.size + 1, 2, none⟩ = some (.slice A2 n2 c2) ∧ Below W0.heap.size W0 w')
    (first | assumption | (exact keep_sixD (by assumption) (by assumption) Z1.out Z1.out Z1.out Z2.out Z2.out Z2.out) | (exact ⟨x0, x1, x2, y0, y1, y2, below_drew _⟩))
    (first
      | (go_at_call 38; (with_reducible refine (WA.out _ (below_six (p0 := ⟨w.heap.size, 0, none⟩) (p1 := ⟨w.heap.size, 1, none⟩) (p2 := ⟨w.heap.size, 2, none⟩) (p3 := ⟨w.heap.size + 1, 0, none⟩) (p4 := ⟨w.heap.size + 1, 1, none⟩) (p5 := ⟨w.heap.size + 1, 2, none⟩) (x0 := .int .i64 ka) (x1 := .int .i64 l) (x2 := .slice A n c) (x3 := .int .i64 kb) (x4 := .int .i64 l) (x5 := .slice A2 n2 c2) (by assumption))).mono ?_); rintro e v1 ⟨rfl, hbv1⟩)
      | (go_at_call 38; (with_reducible refine (WB.out _ (below_six (p0 := ⟨w.heap.size, 0, none⟩) (p1 := ⟨w.heap.size, 1, none⟩) (p2 := ⟨w.heap.size, 2, none⟩) (p3 := ⟨w.heap.size + 1, 0, none⟩) (p4 := ⟨w.heap.size + 1, 1, none⟩) (p5 := ⟨w.heap.size + 1, 2, none⟩) (x0 := .int .i64 ka) (x1 := .int .i64 l) (x2 := .slice A n c) (x3 := .int .i64 kb) (x4 := .int .i64 l) (x5 := .slice A2 n2 c2) (by assumption))).mono ?_); rintro e v2 ⟨rfl, hbv2⟩))
  rename_i hH
  have hbb := hH.2.2.2.2.2.2
  have I1 := Lib.hid (I0.out.below hbb)
  obtain ⟨z0, z1, z2, z3, z4, z5, hz⟩ := tri_all I1.out.r
  obtain ⟨q0, q1, q2⟩ := set_three I1.out.r (.int .i64 0) (.int .i64 0) (.slice none 0 0)
  clear hH hbb
  go_wp2_with fail
  exact bodyPost_ret (v := .tuple #[.agg #[.int .i64 0, .int .i64 0, .slice none 0 0], .int .i64 5]) (by simp [results, Tryz.results15, go_sem, q0, q1, q2]) rfl ⟨rfl, I1.out.b.trans (tri_set I1.out.r (.int .i64 0) (.int .i64 0) (.slice none 0 0)).2.2.1⟩
/-- what Merge hands out -/
def RBlMergePost (l k : Int) (L M : List Nd) (w : World) (e : Ending) (w' : World) : Prop :=
  ∃ F A m c, e = .returned (.tuple #[.agg #[.int .i64 k, .int .i64 l, .slice A m c], .int .i64 0]) ∧ FoldOf (pressW l k L ++ pressW l k M) F ∧ OwnNd 79 w' w.heap.size (.slice A m c) F ∧ Below w.heap.size w w'
set_option maxHeartbeats 12800000 in
theorem rBlMerge_any (l ka kb : Int) (A A2 : Option Addr) (n c n2 c2 : Nat) (L M : List Nd) (w : World) (h1 : NodesAt w (.slice A n c) L) (h2 : NodesAt w (.slice A2 n2 c2) M) (hL : DgV l ka L) (hM : DgV l kb M) (hn : n ≤ 400) (hn2 : n2 ≤ 400) (ht : ¬ 72057594037927935 < sumC L + sumC M) :
    Calls Tryz.prog 15 #[.agg #[.int .i64 ka, .int .i64 l, .slice A n c], .agg #[.int .i64 kb, .int .i64 l, .slice A2 n2 c2]] w (RBlMergePost l (if kb < ka then kb else ka) L M w) := by
  have I0 := Lib.hid (blM_new w ka l (.slice A n c) kb l (.slice A2 n2 c2))
  obtain ⟨x0, x1, x2, _, _, _, hx⟩ := tri_all I0.out.s
  obtain ⟨y0, y1, y2, _, _, _, hy⟩ := tri_all I0.out.t
  have Z1 := Lib.hid hx
  have Z2 := Lib.hid hy
  have H1 := Lib.hid (h1.below I0.out.b)
  have H2 := Lib.hid (h2.below I0.out.b)
  have WA := Lib.hid (fun v (hb : Below _ _ v) => rDgWeight_any l ka A n c L v (H1.out.below hb) hL.roll (by omega))
  have WB := Lib.hid (fun v (hb : Below _ _ v) => rDgWeight_any l kb A2 n2 c2 M v (H2.out.below hb) hM.roll (by omega))
  obtain ⟨k, hk⟩ : ∃ k, k = (if kb < ka then kb else ka) := ⟨_, rfl⟩
  rw [← hk]
  have a1 := hL.k1
  have a2 := hL.k2
  have b1 := hM.k1
  have b2 := hM.k2
  have kk : 1 ≤ k ∧ k ≤ ka ∧ k ≤ kb ∧ k ≤ 1048576 := by rw [hk]; split <;> omega
  have LA := Lib.hid (fun v (hb : Below _ _ v) => rBlLower_any l ka k A n c L v (H1.out.below hb) hL.roll hn kk.1 kk.2.1 kk.2.2.2)
  have LB := Lib.hid (fun v (hb : Below _ _ v) => rBlLower_any l kb k A2 n2 c2 M v (H2.out.below hb) hM.roll hn2 kk.1 kk.2.2.1 kk.2.2.2)
  have PA := pressed_few hL.roll kk.1 (pressed_fun k hL.roll)
  have PB := pressed_few hM.roll kk.1 (pressed_fun k hM.roll)
  have FB := Lib.hid (fold_two PA.2.2.1 PB.2.2.1 (by rw [PA.2.2.2, PB.2.2.2]; omega))
  have BA := Lib.hid (nbds_roll PA.2.2.1)
  have BBd := Lib.hid (nbds_roll PB.2.2.1)
  have LNA : Hid ((pressW l k L).length ≤ 400) := by have := (nodes_cells h1).1; have := PA.2.1; show _ ≤ _; omega
  have LNB : Hid ((pressW l k M).length ≤ 400) := by have := (nodes_cells h2).1; have := PB.2.1; show _ ≤ _; omega
  have s1 := hL.roll.2.2.2.2
  have s2 := hM.roll.2.2.2.2
  have nn := good_nonneg (roll_good hM.roll)
  have s0 : 0 ≤ sumC M := Int.le_trans (sum_le nn 0).1 (sum_le nn 0).2
  have hw : IntKind.i64.wrap (72057594037927935 - sumC M) = 72057594037927935 - sumC M := wrap_lit rfl (by omega) (by omega)
  have g2 : decide (72057594037927935 - sumC M < sumC L) = false := decide_eq_false (by omega)
  have g1 : (l != l) = false := by simp
  have g3 : Hid (decide (kb < ka) = true ∧ k = kb ∨ decide (kb < ka) = false ∧ k = ka) := by
    by_cases q : kb < ka
    · exact .inl ⟨decide_eq_true q, by rw [hk, if_pos q]⟩
    · exact .inr ⟨decide_eq_false q, by rw [hk, if_neg q]⟩
  clear h1 h2 hL hM nn ht hk kk PA PB a1 a2 b1 b2
  unfold RBlMergePost
  generalize pressW l k L = P at *
  generalize pressW l k M = Q at *
  generalize sumC L = sa at *
  generalize sumC M = sb at *
  go_enter Tryz.func15, Tryz.ntmps15
  go_wp2_with fail
  generalize ((w.alloc (.cells #[.int .i64 ka, .int .i64 l, .slice A n c] 37)).alloc (.cells #[.int .i64 kb, .int .i64 l, .slice A2 n2 c2] 37)).alloc (.cells #[.int .i64 0, .int .i64 0, .slice none 0 0] 37) = W0 at *
  go_region_held3 (fun w' => w'.cell? ⟨w.heap.size, 0, none⟩ = some (.int .i64 ka) ∧ w'.cell? ⟨w.heap.size, 1, none⟩ = some (.int .i64 l) ∧ w'.cell? ⟨w.heap.size, 2, none⟩ = some (.slice A n c) ∧ w'.cell? ⟨w.heap.size + 1, 0, none⟩ = some (.int .i64 kb) ∧ w'.cell? ⟨w.heap.size + 1, 1, none⟩ = some (.int .i64 l) ∧ w'.cell? ⟨w.heap.size + 1, 2, none⟩ = some (.slice A2 n2 c2) ∧ Below W0.heap.size W0 w')
    (first | assumption | (exact keep_sixD (by assumption) (by assumption) Z1.out Z1.out Z1.out Z2.out Z2.out Z2.out) | (exact ⟨x0, x1, x2, y0, y1, y2, below_drew _⟩))
    (first
      | (go_at_call 38; (with_reducible refine (WA.out _ (below_six (p0 := ⟨w.heap.size, 0, none⟩) (p1 := ⟨w.heap.size, 1, none⟩) (p2 := ⟨w.heap.size, 2, none⟩) (p3 := ⟨w.heap.size + 1, 0, none⟩) (p4 := ⟨w.heap.size + 1, 1, none⟩) (p5 := ⟨w.heap.size + 1, 2, none⟩) (x0 := .int .i64 ka) (x1 := .int .i64 l) (x2 := .slice A n c) (x3 := .int .i64 kb) (x4 := .int .i64 l) (x5 := .slice A2 n2 c2) (by assumption))).mono ?_); rintro e v1 ⟨rfl, hbv1⟩)
      | (go_at_call 38; (with_reducible refine (WB.out _ (below_six (p0 := ⟨w.heap.size, 0, none⟩) (p1 := ⟨w.heap.size, 1, none⟩) (p2 := ⟨w.heap.size, 2, none⟩) (p3 := ⟨w.heap.size + 1, 0, none⟩) (p4 := ⟨w.heap.size + 1, 1, none⟩) (p5 := ⟨w.heap.size + 1, 2, none⟩) (x0 := .int .i64 ka) (x1 := .int .i64 l) (x2 := .slice A n c) (x3 := .int .i64 kb) (x4 := .int .i64 l) (x5 := .slice A2 n2 c2) (by assumption))).mono ?_); rintro e v2 ⟨rfl, hbv2⟩))
  rename_i hH
  have hbb := hH.2.2.2.2.2.2
  have R1 := Lib.hid hbb
  obtain ⟨x0, x1, x2, y0, y1, y2, _⟩ := hH
  clear hbb
  rcases g3.out with ⟨g4, rfl⟩ | ⟨g4, rfl⟩
  all_goals
    clear g3
    go_wp2_with fail
    refine (LA.out _ R1.out).mono ?_
    rintro e w2 ⟨A3, m3, c3, rfl, hv3, hb2⟩
    have R2 := Lib.hid (R1.out.trans (hb2.mono R1.out.size))
    have hba := (Below.refl w2.heap.size w2).alloc (Nat.le_refl _) (.cells #[.int .i64 k, .int .i64 l, .slice A3 m3 c3] 37)
    have R3 := Lib.hid (R2.out.trans (hba.mono R2.out.size))
    have XB := Lib.hid (tri_nw w2 37 (.int .i64 k) (.int .i64 l) (.slice A3 m3 c3))
    have V3 := Lib.hid (hv3.below hba)
    obtain ⟨x0, x1, x2, _, _, _, hx⟩ := tri_all (own_below I0.out.s R3.out)
    obtain ⟨y0, y1, y2, _, _, _, hy⟩ := tri_all (own_below I0.out.t R3.out)
    clear hb2 hba hv3
    go_wp2_with fail
    generalize w2.alloc (.cells #[.int .i64 k, .int .i64 l, .slice A3 m3 c3] 37) = W3 at *
    refine (LB.out _ R3.out).mono ?_
    rintro e w4 ⟨A4, m4, c4, rfl, hv4, hb4⟩
    have R4 := Lib.hid (R3.out.trans (hb4.mono R3.out.size))
    have hba2 := (Below.refl w4.heap.size w4).alloc (Nat.le_refl _) (.cells #[.int .i64 k, .int .i64 l, .slice A4 m4 c4] 37)
    have R5 := Lib.hid (R4.out.trans (hba2.mono R4.out.size))
    have XB5 := Lib.hid (own_below (own_below XB.out hb4) hba2)
    have YB5 := Lib.hid (tri_nw w4 37 (.int .i64 k) (.int .i64 l) (.slice A4 m4 c4))
    have V5 := Lib.hid ((V3.out.below hb4).below hba2)
    have V6 := Lib.hid (hv4.below hba2)
    have JN := Lib.hid ((rJoin_own A3 A4 m3 c3 m4 c4 P Q _ V5.out V6.out BA.out BBd.out (by have a := (nodes_cells V5.out).1; have b := LNA.out; omega) (by have a := (nodes_cells V6.out).1; have b := LNB.out; omega)).mono (fun _ _ q => foldO_is_yes FB.out q))
    obtain ⟨x0, x1, x2, xf0, xf1, xf2, hx⟩ := tri_all XB5.out
    obtain ⟨y0, y1, y2, _, _, _, hy⟩ := tri_all YB5.out
    clear hb4 hba2 hv4
    go_wp2_with fail
    generalize w4.alloc (.cells #[.int .i64 k, .int .i64 l, .slice A4 m4 c4] 37) = W5 at *
    refine JN.out.mono ?_
    rintro e w6 ⟨F, A5, c5, rfl, hF, ho5, hb6⟩
    have R6 := Lib.hid (R5.out.trans (hb6.mono R5.out.size))
    have XB6 := Lib.hid (own_below XB5.out hb6)
    have T6 := Lib.hid (tri_set1 XB6.out (.slice A5 F.length c5))
    have I6 := Lib.hid (I0.out.below R6.out)
    have RR := Lib.hid (T6.out.2.2.2 _ _ _ _ _ _ (by
      have u1 := R2.out.size
      have u2 : w.heap.size + 2 < W0.heap.size := (I0.out.r.lt (w.heap.size + 2) rfl).2
      simp only [Value.ownBlock, ne_eq, Option.some.injEq]
      omega) I6.out.r)
    have T7 := Lib.hid (tri_set RR.out (.int .i64 k) (.int .i64 l) (.slice A5 F.length c5))
    have O7 := Lib.hid (own_low (T7.out.2.1 _ _ _ _ _ _ (by decide) (T6.out.2.1 _ _ _ _ _ _ (by decide) ho5)) (B2 := w.heap.size) (Nat.le_trans I0.out.b.size R5.out.size))
    have B7 := Lib.hid ((I6.out.b.trans (T6.out.2.2.1.mono (Nat.le_trans I0.out.b.size R2.out.size))).trans T7.out.2.2.1)
    obtain ⟨x0, x1, x2, xf0, xf1, xf2, hx⟩ := tri_all XB6.out
    obtain ⟨x3, x4, x5, _, _, _, hx6⟩ := tri_all T6.out.1
    obtain ⟨z0, z1, z2, z3, z4, z5, hz⟩ := tri_all RR.out
    obtain ⟨q0, q1, q2⟩ := set_three RR.out (.int .i64 k) (.int .i64 l) (.slice A5 F.length c5)
    have HF := Lib.hid hF
    clear hF ho5 hb6 y0 y1 y2
    go_wp2_with fail
    exact bodyPost_ret (v := .tuple #[.agg #[.int .i64 k, .int .i64 l, .slice A5 F.length c5], .int .i64 0]) (by simp [results, Tryz.results15, go_sem, q0, q1, q2]) rfl ⟨F, A5, F.length, c5, rfl, HF.out, O7.out, B7.out⟩

end Go.Proofs.YtmcbfoimgefaoaaGreat

/- The document's answers of package dewpondref14: Merge, in one form; All. -/
namespace Go.Proofs.YtmcbfoimgefaoaaGreat
set_option linter.unusedVariables false
set_option maxRecDepth 100000
open Go.RowKit

/-- a digest handed out with a row of the call's own, and a number -/
def RBlOwn (k l : Int) (M : List Nd) (x : Int) (w : World) (e : Ending) (w' : World) : Prop :=
  ∃ A m c, e = .returned (.tuple #[.agg #[.int .i64 k, .int .i64 l, .slice A m c], .int .i64 x]) ∧ OwnNd 79 w' w.heap.size (.slice A m c) M ∧ Below w.heap.size w w'
/-- what Merge hands out, or why not -/
def RBlMrgPost (la ka lb kb : Int) (L M : List Nd) (w : World) (e : Ending) (w' : World) : Prop :=
  (¬ bmgE la lb L M = 0 ∧ RBlNo (bmgE la lb L M) w e w') ∨ (bmgE la lb L M = 0 ∧ la = lb ∧ RBlOwn (bmgK ka kb) la (bmgL la (bmgK ka kb) L M) 0 w e w')
theorem rBlMrg_any (la ka lb kb : Int) (A A2 : Option Addr) (n c n2 c2 : Nat) (L M : List Nd) (w : World) (h1 : NodesAt w (.slice A n c) L) (h2 : NodesAt w (.slice A2 n2 c2) M) (hL : DgV la ka L) (hM : DgV lb kb M) (hn : n ≤ 400) (hn2 : n2 ≤ 400) :
    Calls Tryz.prog 15 #[.agg #[.int .i64 ka, .int .i64 la, .slice A n c], .agg #[.int .i64 kb, .int .i64 lb, .slice A2 n2 c2]] w (RBlMrgPost la ka lb kb L M w) := by
  by_cases hl : la = lb
  · subst hl
    by_cases ht : 72057594037927935 < sumC L + sumC M
    · have e := bmgE_full (l := la) ht
      exact (rBlMerge_full la ka kb A A2 n c n2 c2 L M w h1 h2 hL.roll hM.roll hn hn2 ht).mono fun _ _ q => .inl ⟨by rw [e]; omega, by rw [e]; exact q⟩
    · refine (rBlMerge_any la ka kb A A2 n c n2 c2 L M w h1 h2 hL hM hn hn2 ht).mono ?_
      rintro e w1 ⟨F, A3, m3, c3, he, hF, hv, hb⟩
      obtain ⟨k1, k2, k3⟩ := bmgK_le ka kb
      have x := dgV_lower hL (k3 hL.k1 hM.k1) k1
      have y := dgV_lower hM (k3 hL.k1 hM.k1) k2
      have ee : F = bmgL la (bmgK ka kb) L M := fold_mrg x.1.roll y.1.roll hF
      rw [ee] at hv
      exact .inr ⟨bmgE_ok ht, rfl, A3, m3, c3, he, hv, hb⟩
  · have e := bmgE_shape (L := L) (M := M) hl
    exact (rBlMerge_shape ka la kb lb A A2 n c n2 c2 w hl).mono fun _ _ q => .inl ⟨by rw [e]; omega, by rw [e]; exact q⟩
/-- a digest of the document's: its k, its bits, its slice and its list -/
structure DgX where
  k : Int
  l : Int
  A : Option Addr
  m : Nat
  c : Nat
  L : List Nd
/-- a slice of digests that is read -/
def DgsAt (w : World) (A : Option Addr) (Ds : List DgX) : Prop := ∀ i (h : i < Ds.length), ∃ b o, A = some ⟨b, o, none⟩ ∧ b < w.heap.size ∧ w.cell? ⟨b, o + i * 3, none⟩ = some (.int .i64 Ds[i].k) ∧ w.cell? ⟨b, o + i * 3 + 1, none⟩ = some (.int .i64 Ds[i].l) ∧ w.cell? ⟨b, o + i * 3 + 2, none⟩ = some (.slice Ds[i].A Ds[i].m Ds[i].c) ∧ NodesAt w (.slice Ds[i].A Ds[i].m Ds[i].c) Ds[i].L
theorem DgsAt.below {w w' : World} {A : Option Addr} {Ds : List DgX} (h : DgsAt w A Ds) (hb : Below w.heap.size w w') : DgsAt w' A Ds := fun i hi => by
  obtain ⟨b, o, e, hz, c0, c1, c2, hv⟩ := h i hi
  exact ⟨b, o, e, Nat.lt_of_lt_of_le hz hb.size, (hb.cell (p := ⟨b, o + i * 3, none⟩) hz).trans c0, (hb.cell (p := ⟨b, o + i * 3 + 1, none⟩) hz).trans c1, (hb.cell (p := ⟨b, o + i * 3 + 2, none⟩) hz).trans c2, hv.below hb⟩
/-- merged, one behind the other: the error, and k and list -/
def allF (l : Int) : Int → List Nd → List DgX → Int × Int × List Nd
  | k, L, [] => (0, k, L)
  | k, L, d :: ds => if bmgE l d.l L d.L = 0 then allF l (bmgK k d.k) (bmgL l (bmgK k d.k) L d.L) ds else (bmgE l d.l L d.L, 0, [])
theorem allF_yes {l k : Int} {L : List Nd} {d : DgX} {ds : List DgX} (h : bmgE l d.l L d.L = 0) : allF l k L (d :: ds) = allF l (bmgK k d.k) (bmgL l (bmgK k d.k) L d.L) ds := if_pos h
theorem allF_no {l k : Int} {L : List Nd} {d : DgX} {ds : List DgX} (h : ¬ bmgE l d.l L d.L = 0) : allF l k L (d :: ds) = (bmgE l d.l L d.L, 0, []) := if_neg h
/-- what All hands out of one digest and more -/
def RBlAllPost (d : DgX) (ds : List DgX) (w : World) (e : Ending) (w' : World) : Prop :=
  (¬ (allF d.l d.k d.L ds).1 = 0 ∧ RBlNo (allF d.l d.k d.L ds).1 w e w') ∨ ((allF d.l d.k d.L ds).1 = 0 ∧ RBlPost (allF d.l d.k d.L ds).2.1 d.l (allF d.l d.k d.L ds).2.2 0 w e w')

end Go.Proofs.YtmcbfoimgefaoaaGreat

/- The document's answers of package dewpondref14: All. -/
namespace Go.Proofs.YtmcbfoimgefaoaaGreat
set_option linter.unusedVariables false
set_option maxRecDepth 100000
open Go.RowKit

theorem rBlAll_none (c : Nat) (w : World) : Calls Tryz.prog 17 #[.slice none 0 c] w (RBlNo 7 w) := by
  have X0 := Lib.hid (tri_nw w 37 (.int .i64 0) (.int .i64 0) (.slice none 0 0))
  have HB0 : Hid (Below w.heap.size w (w.alloc (.cells #[.int .i64 0, .int .i64 0, .slice none 0 0] 37))) := (Below.refl _ _).alloc (Nat.le_refl _) _
  obtain ⟨x0, x1, x2, _, _, _, hz⟩ := tri_all X0.out
  go_enter Tryz.func17, Tryz.ntmps17
  go_wp2_with fail
  generalize w.alloc (.cells #[.int .i64 0, .int .i64 0, .slice none 0 0] 37) = W0 at *
  exact bodyPost_ret (v := .tuple #[.agg #[.int .i64 0, .int .i64 0, .slice none 0 0], .int .i64 7]) (by simp [results, Tryz.results17, go_sem, x0, x1, x2]) rfl ⟨rfl, HB0.out⟩
/-- a list that was there before, or a row of the call's own -/
def HasN (w wr : World) (v : Value) (L : List Nd) : Prop := NodesAt w v L ∨ OwnNd 79 wr 0 v L
theorem HasN.nodes {w wr : World} {v : Value} {L : List Nd} (h : HasN w wr v L) (hb : Below w.heap.size w wr) : NodesAt wr v L := h.elim (fun q => q.below hb) fun q => ownNd_nodes q
/-- a round of All: what has been merged, or why not -/
def AllRun (w : World) (W0 wr : World) (qs : Nat) (l k0 : Int) (L0 : List Nd) (ds : List DgX) (n j : Nat) (x : Int) : Prop :=
  (∃ k L A1 m1 c1, x = 0 ∧ wr.ownsRow w.heap.size 37 3 (.slice (some ⟨qs, 0, none⟩) 1 1) 1 [.int .i64 k, .int .i64 l, .slice A1 m1 c1] ∧ HasN w wr (.slice A1 m1 c1) L ∧ DgV l k L ∧ L.length ≤ 60 * j ∧ allF l k0 L0 ds = allF l k L (ds.drop (j - 1))) ∨
  (¬ x = 0 ∧ (allF l k0 L0 ds).1 = x)
set_option maxHeartbeats 12800000 in
theorem rBlAll_more (A : Option Addr) (n c : Nat) (d : DgX) (ds : List DgX) (w : World) (hn : n = ds.length + 1) (h1 : 1 ≤ ds.length) (h6 : n ≤ 6) (hd : DgsAt w A (d :: ds)) (hv : ∀ x ∈ d :: ds, DgV x.l x.k x.L ∧ x.L.length ≤ 60) :
    Calls Tryz.prog 17 #[.slice A n c] w (RBlAllPost d ds w) := by
  have X0 := Lib.hid (tri_nw w 37 (.int .i64 0) (.int .i64 0) (.slice none 0 0))
  have HB0 : Hid (Below w.heap.size w (w.alloc (.cells #[.int .i64 0, .int .i64 0, .slice none 0 0] 37))) := (Below.refl _ _).alloc (Nat.le_refl _) _
  have DA := Lib.hid (hd.below HB0.out)
  have DV0 : Hid (NodesAt w (.slice d.A d.m d.c) d.L) := by
    obtain ⟨_, _, _, _, _, _, _, z⟩ := hd 0 (by simp)
    exact z
  obtain ⟨b, o, rfl, hbz, d0, d1, d2, dv⟩ := DA.out 0 (by simp)
  simp only [Nat.zero_mul, Nat.add_zero, List.getElem_cons_zero] at d0 d1 d2 dv
  have VV := Lib.hid hv
  have V0 := (VV.out d (by simp))
  have LW := Lib.hid (fun v (hb : Below _ _ v) => rBlLower_any d.l d.k d.k d.A d.m d.c d.L v (dv.below hb) V0.1.roll (by have a := (nodes_cells dv).1; have b := V0.2; omega) V0.1.k1 (Int.le_refl _) V0.1.k2)
  have g1 : ((n : Int) == 0) = false := beq_eq_false_iff_ne.2 (by omega)
  have g2 : decide (1 < (n : Int)) = true := decide_eq_true (by omega)
  have g3 : (0 : Int) < (n : Int) := by omega
  have HN := Lib.hid hn
  have H1 := Lib.hid h1
  have HBZ := Lib.hid hbz
  clear hd hv hn h1
  go_enter Tryz.func17, Tryz.ntmps17
  go_upto_region 3 with fail
  generalize w.alloc (.cells #[.int .i64 0, .int .i64 0, .slice none 0 0] 37) = W0 at *
  go_cut [4, 5] (fun s4 s5 wx => ∃ qs A1 m1 c1, s4 = .pointer (some ⟨qs, 0, none⟩) ∧ s5 = .int .i64 0 ∧ wx.ownsRow W0.heap.size 37 3 (.slice (some ⟨qs, 0, none⟩) 1 1) 1 [.int .i64 d.k, .int .i64 d.l, .slice A1 m1 c1] ∧ Below W0.heap.size W0 wx)
  case first =>
    go_region_with (go_at_call 12; refine (LW.out _ (by first | (exact below_drew _) | (exact (below_drew _).alloc (Nat.le_refl _) _))).mono ?_; rintro e w6 ⟨A3, m3, c3, rfl, hv3, hb3⟩; have hw6 : Below W0.heap.size W0 w6 := Below.trans (by first | (exact below_drew _) | (exact (below_drew _).alloc (Nat.le_refl _) _)) (Below.mono hb3 (by simp)); first | (have du : Hid (w6.ownsRow W0.heap.size 37 3 (.slice (some ⟨W0.heap.size, 0, none⟩) 1 1) 1 [.int .i64 0, .int .i64 0, .slice none 0 0]) := own_below (tri_nw W0.drew _ _ _ _) hb3; obtain ⟨v0, v1, v2, v3, v4, v5, _⟩ := tri_all du.out) | skip)
    all_goals go_wp2_with fail
    all_goals go_meet
    all_goals first
      | (exact ⟨W0.heap.size, A3, m3, c3, rfl, rfl, (tri_set du.out _ _ _).1, hw6.trans (tri_set du.out _ _ _).2.2.1⟩)
      | (exact ⟨w6.heap.size, A3, m3, c3, rfl, rfl, own_low (tri_nw ..) hw6.size, hw6.alloc hw6.size _⟩)
  case rest =>
    obtain ⟨qs, A1, m1, c1, rfl, rfl, hq, hbc⟩ := hcut
    have B0 := Lib.hid (HB0.out.trans (hbc.mono HB0.out.size))
    have RS := Lib.hid (own_below X0.out hbc)
    have DC := Lib.hid (DA.out.below hbc)
    have QB := Lib.hid (own_low hq (Nat.le_trans (Nat.le_of_lt (X0.out.lt _ rfl).2) (Nat.le_refl _)) : wc.ownsRow w.heap.size 37 3 (.slice (some ⟨qs, 0, none⟩) 1 1) 1 [.int .i64 d.k, .int .i64 d.l, .slice A1 m1 c1])
    have QS : Hid (W0.heap.size ≤ qs) := (hq.lt qs rfl).1
    have RZ : Hid (w.heap.size < W0.heap.size) := (X0.out.lt _ rfl).2
    have T := Lib.hid (tri_set QB.out (.int .i64 d.k) (.int .i64 d.l) (.slice d.A d.m d.c))
    have dc0 := (hbc.cell (p := ⟨b, o, none⟩) HBZ.out).trans d0
    have dc1 := (hbc.cell (p := ⟨b, o + 1, none⟩) HBZ.out).trans d1
    have dc2 := (hbc.cell (p := ⟨b, o + 2, none⟩) HBZ.out).trans d2
    obtain ⟨x0, x1, x2, xf0, xf1, xf2, hx⟩ := tri_all hq
    -- what lies below the box is kept by a store into it
    have KQ : Hid (∀ (v : World) (u0 u1 u2 : Value), Below W0.heap.size v (((v.setCell ⟨qs, 0, none⟩ u0).setCell ⟨qs, 1, none⟩ u1).setCell ⟨qs, 2, none⟩ u2)) := fun v u0 u1 u2 => (((Below.refl _ _).setCell (p := ⟨qs, 0, none⟩) QS.out u0).setCell (p := ⟨qs, 1, none⟩) QS.out u1).setCell (p := ⟨qs, 2, none⟩) QS.out u2
    have NA : Hid (AllRun w W0 (((wc.setCell ⟨qs, 0, none⟩ (.int .i64 d.k)).setCell ⟨qs, 1, none⟩ (.int .i64 d.l)).setCell ⟨qs, 2, none⟩ (.slice d.A d.m d.c)) qs d.l d.k d.L ds n 1 0) := by
      refine .inl ⟨d.k, d.L, d.A, d.m, d.c, rfl, T.out.1, .inl DV0.out, V0.1, by have := V0.2; omega, rfl⟩
    have RS1 := Lib.hid (T.out.2.2.2 _ _ _ _ _ _ (by simp only [Value.ownBlock, ne_eq, Option.some.injEq]; have := QS.out; have := RZ.out; omega) RS.out)
    have B1 := Lib.hid (B0.out.trans T.out.2.2.1)
    have W1 : Hid (Below W0.heap.size W0 (((wc.setCell ⟨qs, 0, none⟩ (.int .i64 d.k)).setCell ⟨qs, 1, none⟩ (.int .i64 d.l)).setCell ⟨qs, 2, none⟩ (.slice d.A d.m d.c))) := hbc.trans (KQ.out ..)
    clear hq hbc LW d0 d1 d2
    go_wp2_with fail
    go_loopw [5, 6] (fun e i wr => ∃ (j : Nat) (x : Int), 1 ≤ j ∧ j ≤ n ∧ i = .int .i64 j ∧ e = .int .i64 x ∧ AllRun w W0 wr qs d.l d.k d.L ds n j x ∧
      wr.ownsRow w.heap.size 37 3 (.slice (some ⟨w.heap.size, 0, none⟩) 1 1) 1 [.int .i64 0, .int .i64 0, .slice none 0 0] ∧ Below w.heap.size w wr ∧ Below W0.heap.size W0 wr) (fun _ i _ => n - (intOf i).toNat)
    case atStart => exact ⟨1, 0, by omega, by have := HN.out; omega, rfl, rfl, NA.out, RS1.out, B1.out, W1.out⟩
    case round =>
      obtain ⟨j, x, hj1, hj2, rfl, rfl, har, hres, hbw, hb0⟩ := hrel
      clear x0 x1 x2 xf0 xf1 xf2 dc0 dc1 dc2 NA RS1 B1 W1
      have RS := Lib.hid hres
      have BW := Lib.hid hbw
      have BZ := Lib.hid hb0
      have k0 : (0 : Int) ≤ (j : Int) := Int.natCast_nonneg _
      obtain ⟨z0, z1, z2, z3, z4, z5, hz⟩ := tri_all hres
      clear hres hbw hb0
      rcases har with ⟨k, L, A2, m2, c2, rfl, hbox, hnv, hvv, hlen, hF⟩ | ⟨hx0, hF⟩
      · have BX := Lib.hid hbox
        have HN2 := Lib.hid hnv
        have NV := Lib.hid (hnv.nodes BW.out)
        have LV := Lib.hid hvv
        have FF := Lib.hid hF
        obtain ⟨x0, x1, x2, xf0, xf1, xf2, hx⟩ := tri_all hbox
        clear hbox hnv hvv hF
        by_cases hlt : j < n
        · have hjl : j < (d :: ds).length := by have := HN.out; simp; omega
          obtain ⟨b', o', ee, hbz', e0, e1, e2, hvj⟩ := DA.out j hjl
          have VJ := VV.out (d :: ds)[j] (List.getElem_mem hjl)
          have hdr : ds.drop (j - 1) = (d :: ds)[j] :: ds.drop j := by
            obtain ⟨j', rfl⟩ : ∃ j', j = j' + 1 := ⟨j - 1, by omega⟩
            simp only [List.length_cons] at hjl
            rw [Nat.add_sub_cancel, List.getElem_cons_succ]
            exact List.drop_eq_getElem_cons (by omega)
          obtain ⟨y, hy⟩ : ∃ y, y = (d :: ds)[j] := ⟨_, rfl⟩
          rw [← hy] at e0 e1 e2 hvj VJ hdr
          have HDR := Lib.hid hdr
          injection ee with ee
          injection ee with ee1 ee2
          subst ee1 ee2
          have E0 := (BZ.out.cell (p := ⟨b, o + j * 3, none⟩) hbz').trans e0
          have E1 := (BZ.out.cell (p := ⟨b, o + j * 3 + 1, none⟩) hbz').trans e1
          have E2 := (BZ.out.cell (p := ⟨b, o + j * 3 + 2, none⟩) hbz').trans e2
          have hzb : b < wr.heap.size := Nat.lt_of_lt_of_le hbz' BZ.out.size
          have k1 : (j : Int) < (n : Int) := by omega
          have MG := rBlMrg_any d.l k y.l y.k A2 y.A m2 c2 y.m y.c L y.L wr.drew (NV.out.below (below_drew _)) ((hvj.below BZ.out).below (below_drew _)) LV.out VJ.1 (by have a := (nodes_cells NV.out).1; have := LV.out; omega) (by have a := (nodes_cells hvj).1; have := VJ.2; omega)
          have D1 := Lib.hid (own_below BX.out (below_drew wr))
          clear hdr hy e0 e1 e2
          by_cases hE : bmgE d.l y.l L y.L = 0
          · have hll : d.l = y.l := by
              by_cases q : d.l = y.l
              · exact q
              · rw [bmgE_shape q] at hE; exact absurd hE (by omega)
            have hsum : ¬ 72057594037927935 < sumC L + sumC y.L := fun q => by
              rw [← hll, bmgE_full q] at hE; exact absurd hE (by omega)
            have VM := dgV_bmg LV.out (show DgV d.l y.k y.L by rw [hll]; exact VJ.1) hsum
            have HVM := Lib.hid VM
            have NXT : Hid (allF d.l d.k d.L ds = allF d.l (bmgK k y.k) (bmgL d.l (bmgK k y.k) L y.L) (ds.drop (j + 1 - 1))) := by
              show _ = _
              rw [FF.out, HDR.out, allF_yes hE, Nat.add_sub_cancel]
            have LEN : Hid ((bmgL d.l (bmgK k y.k) L y.L).length ≤ 60 * (j + 1)) := by have := VM.2.2.1; have := VJ.2; show _ ≤ _; omega
            have MY := Lib.hid (MG.mono (R' := RBlOwn (bmgK k y.k) d.l (bmgL d.l (bmgK k y.k) L y.L) 0 wr.drew) fun e w' q => by
              rcases q with ⟨q, _⟩ | ⟨_, _, q⟩
              · exact absurd hE q
              · exact q)
            clear MG VM hE hsum hll
            generalize bmgL d.l (bmgK k y.k) L y.L = L2 at *
            generalize bmgK k y.k = k2 at *
            go_wp2_with fail
            go_region_with (go_at_call 15; refine MY.out.mono ?_; rintro e w5 ⟨A3, m3, c3, rfl, ho3, hb5⟩; have D5 := Lib.hid (own_below D1.out hb5); obtain ⟨y0, y1, y2, yf0, yf1, yf2, hy⟩ := tri_all D5.out)
            all_goals
              have T := Lib.hid (tri_set D5.out (.int .i64 k2) (.int .i64 d.l) (.slice A3 m3 c3))
              have hwd : Below wr.heap.size wr w5 := (below_drew wr).trans hb5
              have OV := Lib.hid (own_low (T.out.2.1 _ _ _ _ _ _ (by decide) ho3) (Nat.zero_le _))
              have R2 := Lib.hid (T.out.2.2.2 _ _ _ _ _ _ (by simp only [Value.ownBlock, ne_eq, Option.some.injEq]; have := QS.out; have := RZ.out; omega) (own_below RS.out hwd))
              have B2 := Lib.hid ((BW.out.trans (hwd.mono BW.out.size)).trans T.out.2.2.1)
              have Z2 := Lib.hid ((BZ.out.trans (hwd.mono BZ.out.size)).trans (KQ.out w5 (.int .i64 k2) (.int .i64 d.l) (.slice A3 m3 c3)))
              clear ho3 hb5 hwd x0 x1 x2 xf0 xf1 xf2 E0 E1 E2 z0 z1 z2 z3 z4 z5
              go_wp2_with fail
              go_roundw
              case rel => exact ⟨j + 1, 0, by omega, by omega, by go_num, rfl, .inl ⟨k2, L2, A3, m3, c3, rfl, T.out.1, .inr OV.out, HVM.out.1, LEN.out, NXT.out⟩, R2.out, B2.out, Z2.out⟩
              case measure => simp [intOf]; omega
          · have NXT : Hid ((allF d.l d.k d.L ds).1 = bmgE d.l y.l L y.L) := by
              show _ = _
              rw [FF.out, HDR.out, allF_no hE]
            have HE := Lib.hid hE
            have MY := Lib.hid (MG.mono (R' := RBlNo (bmgE d.l y.l L y.L) wr.drew) fun e w' q => by
              rcases q with ⟨_, q⟩ | ⟨q, _⟩
              · exact q
              · exact absurd q hE)
            clear MG hE
            generalize bmgE d.l y.l L y.L = x2' at *
            go_wp2_with fail
            go_region_with (go_at_call 15; refine MY.out.mono ?_; rintro e w5 ⟨rfl, hb5⟩; have D5 := Lib.hid (own_below D1.out hb5); obtain ⟨y0, y1, y2, yf0, yf1, yf2, hy⟩ := tri_all D5.out)
            all_goals
              have T := Lib.hid (tri_set D5.out (.int .i64 0) (.int .i64 0) (.slice none 0 0))
              have hwd : Below wr.heap.size wr w5 := (below_drew wr).trans hb5
              have R2 := Lib.hid (T.out.2.2.2 _ _ _ _ _ _ (by simp only [Value.ownBlock, ne_eq, Option.some.injEq]; have := QS.out; have := RZ.out; omega) (own_below RS.out hwd))
              have B2 := Lib.hid ((BW.out.trans (hwd.mono BW.out.size)).trans T.out.2.2.1)
              have Z2 := Lib.hid ((BZ.out.trans (hwd.mono BZ.out.size)).trans (KQ.out w5 (.int .i64 0) (.int .i64 0) (.slice none 0 0)))
              clear hb5 hwd x0 x1 x2 xf0 xf1 xf2 E0 E1 E2 z0 z1 z2 z3 z4 z5
              go_wp2_with fail
              go_roundw
              case rel => exact ⟨j + 1, x2', by omega, by omega, by go_num, rfl, .inr ⟨HE.out, NXT.out⟩, R2.out, B2.out, Z2.out⟩
              case measure => simp [intOf]; omega
        · obtain rfl : j = n := by omega
          have hFE : allF d.l d.k d.L ds = (0, k, L) := by
            rw [FF.out, List.drop_of_length_le (by have := HN.out; omega)]; rfl
          have T := Lib.hid (tri_set RS.out (.int .i64 k) (.int .i64 d.l) (.slice A2 m2 c2))
          have BT := Lib.hid (BW.out.trans T.out.2.2.1)
          have E : Hid (RBlAllPost d ds w (.returned (.tuple #[.agg #[.int .i64 k, .int .i64 d.l, .slice A2 m2 c2], .int .i64 0])) (((wr.setCell ⟨w.heap.size, 0, none⟩ (.int .i64 k)).setCell ⟨w.heap.size, 1, none⟩ (.int .i64 d.l)).setCell ⟨w.heap.size, 2, none⟩ (.slice A2 m2 c2))) := by
            refine .inr ⟨by rw [hFE], A2, m2, c2, by rw [hFE], ?_, BT.out⟩
            rw [hFE]
            rcases HN2.out with q | q
            · exact q.below BT.out
            · exact ownNd_nodes (T.out.2.1 _ _ _ _ _ _ (by decide) q)
          obtain ⟨q0, q1, q2⟩ := set_three RS.out (.int .i64 k) (.int .i64 d.l) (.slice A2 m2 c2)
          clear hlt hFE hlen
          go_wp2_with fail
          exact bodyPost_ret (v := .tuple #[.agg #[.int .i64 k, .int .i64 d.l, .slice A2 m2 c2], .int .i64 0]) (by simp [results, Tryz.results17, go_sem, q0, q1, q2]) rfl E.out
      · have T := Lib.hid (tri_set RS.out (.int .i64 0) (.int .i64 0) (.slice none 0 0))
        have BT := Lib.hid (BW.out.trans T.out.2.2.1)
        have E : Hid (RBlAllPost d ds w (.returned (.tuple #[.agg #[.int .i64 0, .int .i64 0, .slice none 0 0], .int .i64 x])) (((wr.setCell ⟨w.heap.size, 0, none⟩ (.int .i64 0)).setCell ⟨w.heap.size, 1, none⟩ (.int .i64 0)).setCell ⟨w.heap.size, 2, none⟩ (.slice none 0 0))) :=
          .inl ⟨by rw [hF]; exact hx0, by rw [hF], BT.out⟩
        obtain ⟨q0, q1, q2⟩ := set_three RS.out (.int .i64 0) (.int .i64 0) (.slice none 0 0)
        have a1 : (x == 0) = false := beq_eq_false_iff_ne.2 hx0
        have a2 : (x != 0) = true := bne_iff_ne.2 hx0
        clear hF hx0
        by_cases hlt : j < n
        all_goals
          go_wp2_with fail
          exact bodyPost_ret (v := .tuple #[.agg #[.int .i64 0, .int .i64 0, .slice none 0 0], .int .i64 x]) (by simp [results, Tryz.results17, go_sem, q0, q1, q2]) rfl E.out

end Go.Proofs.YtmcbfoimgefaoaaGreat

/- The document's answers of package dewpondref14: All of one digest. -/
namespace Go.Proofs.YtmcbfoimgefaoaaGreat
set_option linter.unusedVariables false
set_option maxRecDepth 100000
open Go.RowKit

set_option maxHeartbeats 12800000 in
theorem rBlAll_one (A : Option Addr) (c : Nat) (d : DgX) (w : World) (hd : DgsAt w A [d]) (hv : DgV d.l d.k d.L ∧ d.L.length ≤ 60) :
    Calls Tryz.prog 17 #[.slice A 1 c] w (RBlPost d.k d.l (pressW d.l d.k d.L) 0 w) := by
  have X0 := Lib.hid (tri_nw w 37 (.int .i64 0) (.int .i64 0) (.slice none 0 0))
  have HB0 : Hid (Below w.heap.size w (w.alloc (.cells #[.int .i64 0, .int .i64 0, .slice none 0 0] 37))) := (Below.refl _ _).alloc (Nat.le_refl _) _
  have DA := Lib.hid (hd.below HB0.out)
  obtain ⟨b, o, rfl, hbz, d0, d1, d2, dv⟩ := DA.out 0 (by simp)
  simp only [Nat.zero_mul, Nat.add_zero, List.getElem_cons_zero] at d0 d1 d2 dv
  have V0 := hv
  have DV0 : Hid (NodesAt w (.slice d.A d.m d.c) d.L) := by
    obtain ⟨_, _, _, _, _, _, _, z⟩ := hd 0 (by simp)
    exact z
  have LW := Lib.hid (fun v (hb : Below _ _ v) => rBlLower_has d.l d.k d.k d.A d.m d.c d.L v (dv.below hb) V0.1.roll (by have a := (nodes_cells dv).1; have b := V0.2; omega) V0.1.k1 (Int.le_refl _) V0.1.k2)
  have HBZ := Lib.hid hbz
  clear hd hv
  go_enter Tryz.func17, Tryz.ntmps17
  go_upto_region 3 with fail
  generalize w.alloc (.cells #[.int .i64 0, .int .i64 0, .slice none 0 0] 37) = W0 at *
  go_cut [4, 5] (fun s4 s5 wx => ∃ qs A1 m1 c1, s4 = .pointer (some ⟨qs, 0, none⟩) ∧ s5 = .int .i64 0 ∧ wx.ownsRow W0.heap.size 37 3 (.slice (some ⟨qs, 0, none⟩) 1 1) 1 [.int .i64 d.k, .int .i64 d.l, .slice A1 m1 c1] ∧ HasN w wx (.slice A1 m1 c1) (pressW d.l d.k d.L) ∧ Below W0.heap.size W0 wx)
  case first =>
    go_region_with (go_at_call 12; refine (LW.out _ (by first | (exact below_drew _) | (exact (below_drew _).alloc (Nat.le_refl _) _))).mono ?_; rintro e w6 ⟨A3, m3, c3, rfl, hv3, hb3⟩; have hw6 : Below W0.heap.size W0 w6 := Below.trans (by first | (exact below_drew _) | (exact (below_drew _).alloc (Nat.le_refl _) _)) (Below.mono hb3 (by simp)); have hn6 : HasN w w6 (.slice A3 m3 c3) (pressW d.l d.k d.L) := hv3.elim (fun q => .inl (by rw [q.1, q.2]; exact DV0.out)) (fun q => .inr (own_low q (Nat.zero_le _))); first | (have du : Hid (w6.ownsRow W0.heap.size 37 3 (.slice (some ⟨W0.heap.size, 0, none⟩) 1 1) 1 [.int .i64 0, .int .i64 0, .slice none 0 0]) := own_below (tri_nw W0.drew _ _ _ _) hb3; obtain ⟨v0, v1, v2, v3, v4, v5, _⟩ := tri_all du.out) | skip)
    all_goals go_wp2_with fail
    all_goals go_meet
    all_goals first
      | (exact ⟨W0.heap.size, A3, m3, c3, rfl, rfl, (tri_set du.out _ _ _).1, hn6.elim (fun q => .inl q) (fun q => .inr ((tri_set du.out _ _ _).2.1 _ _ _ _ _ _ (by decide) q)), hw6.trans (tri_set du.out _ _ _).2.2.1⟩)
      | (exact ⟨w6.heap.size, A3, m3, c3, rfl, rfl, own_low (tri_nw ..) hw6.size, hn6.elim (fun q => .inl q) (fun q => .inr (own_below q ((Below.refl _ _).alloc (Nat.le_refl _) _))), hw6.alloc hw6.size _⟩)
  case rest =>
    obtain ⟨qs, A1, m1, c1, rfl, rfl, hq, hnv, hbc⟩ := hcut
    have B0 := Lib.hid (HB0.out.trans (hbc.mono HB0.out.size))
    have RS := Lib.hid (own_below X0.out hbc)
    have HN := Lib.hid hnv
    have T := Lib.hid (tri_set RS.out (.int .i64 d.k) (.int .i64 d.l) (.slice A1 m1 c1))
    have BT := Lib.hid (B0.out.trans T.out.2.2.1)
    have NV : Hid (NodesAt (((wc.setCell ⟨w.heap.size, 0, none⟩ (.int .i64 d.k)).setCell ⟨w.heap.size, 1, none⟩ (.int .i64 d.l)).setCell ⟨w.heap.size, 2, none⟩ (.slice A1 m1 c1)) (.slice A1 m1 c1) (pressW d.l d.k d.L)) := by
      rcases HN.out with q | q
      · exact q.below BT.out
      · exact ownNd_nodes (T.out.2.1 _ _ _ _ _ _ (by decide) q)
    obtain ⟨x0, x1, x2, xf0, xf1, xf2, hx⟩ := tri_all hq
    obtain ⟨z0, z1, z2, z3, z4, z5, hz⟩ := tri_all RS.out
    obtain ⟨q0, q1, q2⟩ := set_three RS.out (.int .i64 d.k) (.int .i64 d.l) (.slice A1 m1 c1)
    clear hq hbc hnv LW d0 d1 d2
    go_wp2_with fail
    go_loopw [5, 6] (fun e i wr => e = .int .i64 0 ∧ i = .int .i64 1 ∧ wr = wc) (fun _ _ _ => 0)
    case atStart => exact ⟨rfl, rfl, rfl⟩
    case round =>
      obtain ⟨rfl, rfl, rfl⟩ := hrel
      go_wp2_with fail
      exact bodyPost_ret (v := .tuple #[.agg #[.int .i64 d.k, .int .i64 d.l, .slice A1 m1 c1], .int .i64 0]) (by simp [results, Tryz.results17, go_sem, q0, q1, q2]) rfl ⟨A1, m1, c1, rfl, NV.out, BT.out⟩

end Go.Proofs.YtmcbfoimgefaoaaGreat
