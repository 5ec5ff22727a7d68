/- Texts laid together: DgLaw7, DgLaw9. -/
import Derived.Test.YtelekchdbiimiaaGreatDgR
import Derived.Test.YtelekchdbiimiaaGreatBgR
import Derived.Test.YtelekchdbiimiaaGreatRoQ
import Derived.Deep.CutRange
import Derived.Deep.DeepCutAuto
import Derived.Deep.RegionHeld3
import Derived.Deep.Cut
namespace Go.Proofs.YtelekchdbiimiaaGreat
set_option linter.unusedVariables false
set_option maxRecDepth 100000
open Go.RowKit
theorem nodes_uniqD {w : World} {v : Value} {L M : List Nd} (h : NodesAt w v L) (g : NodesAt w v M) : L = M := by
  obtain ⟨A, c, rfl, _, _, _, a⟩ := h
  obtain ⟨B, d, e, _, _, _, b⟩ := g
  injection e with e1 e2 e3
  subst e1
  refine List.ext_getElem e2 fun i h1 h2 => ?_
  obtain ⟨p, o, q1, hin⟩ := a (by omega)
  obtain ⟨p', o', q2, hin2⟩ := b (by omega)
  rw [q1] at q2
  injection q2 with q2
  injection q2 with q3 q4
  subst q3 q4
  have x := hin.2 i h1
  have y := hin2.2 i h2
  rw [x.1, x.2] at y
  have e1 : (L.getD i nz) = L[i] := by rw [List.getD_eq_getElem?_getD, List.getElem?_eq_getElem h1]; rfl
  have e4 : (M.getD i nz) = M[i] := by rw [List.getD_eq_getElem?_getD, List.getElem?_eq_getElem h2]; rfl
  rw [e1, e4] at y
  obtain ⟨y1, y2⟩ := y
  injection y1 with y1
  injection y2 with y2
  injection y1 with _ y1
  injection y2 with _ y2
  exact Prod.ext_iff.2 ⟨y1, y2⟩
theorem box_setB {TS : TypeId} {w : World} {B q : Nat} {x y : Value} (r : w.ownsRow B TS 2 (.slice (some ⟨q, 0, none⟩) 1 1) 1 [x, y]) (u : Value) :
    (w.setCell ⟨q, 1, none⟩ u).ownsRow B TS 2 (.slice (some ⟨q, 0, none⟩) 1 1) 1 [x, u] ∧ Below B w (w.setCell ⟨q, 1, none⟩ u) :=
  ⟨(World.ownsRow.stored r 1 u).1, (Below.refl _ _).setCell (p := ⟨q, 1, none⟩) (r.lt q rfl).1 u⟩
theorem dgBag_ins {l k : Int} {L T : List Nd} (s : DgS l L T) {x c : Int} (h : dgE l L x c = 0) : bagS l T x c = insW T x c ∧ bagE l T x c = 0 := by
  obtain ⟨hv, h1, h2⟩ := dgE_yes h
  have e : bagE l T x c = 0 := by
    unfold bagE
    rw [(leaf_yes hv).2, if_neg (by simp), if_neg h1, if_neg (by rw [← s.std.tot]; exact h2)]
  exact ⟨by unfold bagS; rw [if_pos e], e⟩
theorem dgBag_yes {l kd : Int} {L T : List Nd} {x c : Int} (h1 : ¬ kd = 1) (h2 : ¬ kd = 2) (h : dgE l L x c = 0) : dgBag l L T kd x c = insW T x c := by unfold dgBag; rw [if_neg h1, if_neg h2, if_pos h]
theorem dgBag_no {l kd : Int} {L T : List Nd} {x c : Int} (h1 : ¬ kd = 1) (h2 : ¬ kd = 2) (h : ¬ dgE l L x c = 0) : dgBag l L T kd x c = T := by unfold dgBag; rw [if_neg h1, if_neg h2, if_neg h]
theorem dgBag_len {l : Int} {L T : List Nd} (hT : BagC l T) (kd x c : Int) : (dgBag l L T kd x c).length ≤ T.length + 1 := by
  unfold dgBag
  split
  · omega
  · split
    · simp
    · split
      · rw [insW_len hT.good]; split <;> omega
      · omega
/-- the digest of calls -/
def dgOf (l k : Int) (O : List Pl) : List Nd := O.foldl (fun L o => dgDo l k L o.1.1 o.1.2 o.2) []
theorem dgOf_take {l k : Int} {O : List Pl} {j : Nat} (hj : j < O.length) : dgOf l k (O.take (j + 1)) = dgDo l k (dgOf l k (O.take j)) (O.getD j plz).1.1 (O.getD j plz).1.2 (O.getD j plz).2 := by
  have e : O.take (j + 1) = O.take j ++ [O.getD j plz] := by
    rw [List.take_add_one, List.getD_eq_getElem?_getD, List.getElem?_eq_getElem hj]; rfl
  unfold dgOf
  rw [e, List.foldl_append]
  rfl
/-- what Made leaves -/
def DgMadePost (kd l k : Int) (n : Nat) (O : List Pl) (w : World) (e : Ending) (w' : World) : Prop :=
  ∃ (q p g h : Nat) (T : List Nd) (A : Option Addr) (m c : Nat), e = .returned (.tuple #[.pointer (some ⟨q, 0, none⟩), .agg #[.int .i64 l, .slice A m c]]) ∧ DgA w' w.heap.size q p g h kd l k n (dgOf l k O) ∧ NodesAt w' (.slice A m c) T ∧ T.length ≤ n ∧ DgS l (dgOf l k O) T ∧ Below w.heap.size w w'
/-- .. the readings in a row of the call's own -/
def DgMadeOwn (kd l k : Int) (n : Nat) (O : List Pl) (w : World) (e : Ending) (w' : World) : Prop :=
  ∃ (q p g h : Nat) (T : List Nd) (A : Option Addr) (m c : Nat), e = .returned (.tuple #[.pointer (some ⟨q, 0, none⟩), .agg #[.int .i64 l, .slice A m c]]) ∧ DgA w' w.heap.size q p g h kd l k n (dgOf l k O) ∧ OwnNd 66 w' 0 (.slice A m c) T ∧ T.length ≤ n ∧ DgS l (dgOf l k O) T ∧ Below w.heap.size w w'
/-- between two rounds of Made: the digest, the conf, the result, the bag's box and its row -/
structure MadeD (w wr : World) (Q q p g h : Nat) (kd l k : Int) (n : Nat) (L T : List Nd) (A : Option Addr) (m c : Nat) : Prop where
  d : DgA wr (w.heap.size + 2) q p g h kd l k n L
  cf : wr.ownsRow w.heap.size 23 3 (.slice (some ⟨w.heap.size, 0, none⟩) 1 1) 1 [.int .i64 l, .int .i64 k, .int .i64 kd]
  rs : wr.ownsRow w.heap.size 57 2 (.slice (some ⟨w.heap.size + 1, 0, none⟩) 1 1) 1 [.int .i64 0, .slice none 0 0]
  bx : wr.ownsRow w.heap.size 57 2 (.slice (some ⟨Q, 0, none⟩) 1 1) 1 [.int .i64 l, .slice A m c]
  row : OwnNd 66 wr 0 (.slice A m c) T
  nq : ∀ i, dgF q p g h i → i ≠ Q
  nr : ∀ i, (Value.slice A m c).ownBlock = some i → ¬ dgF q p g h i
  hq : w.heap.size + 1 < Q
  len : T.length ≤ n
  s : DgS l L T
  b : Below w.heap.size w wr
section
variable {w wr w' : World} {Q q p g h : Nat} {kd l k : Int} {n : Nat} {L T : List Nd} {A : Option Addr} {m c : Nat}
theorem MadeD.below (i : MadeD w wr Q q p g h kd l k n L T A m c) (hb : Below wr.heap.size wr w') : MadeD w w' Q q p g h kd l k n L T A m c :=
  ⟨i.d.below hb, own_below i.cf hb, own_below i.rs hb, own_below i.bx hb, own_below i.row hb, i.nq, i.nr, i.hq, i.len, i.s, i.b.trans (hb.mono i.b.size)⟩
/-- the digest has turned; what was accepted is put anew later -/
theorem MadeD.turn {p' g' h' : Nat} {L' : List Nd} (i : MadeD w wr Q q p g h kd l k n L T A m c) (d : DgA w' (w.heap.size + 2) q p' g' h' kd l k (n + 1) L') (c1 : Kp (dgF q p g h) wr w') (nw : ∀ j, dgF q p' g' h' j → dgF q p g h j ∨ wr.heap.size ≤ j) :
    w'.ownsRow w.heap.size 23 3 (.slice (some ⟨w.heap.size, 0, none⟩) 1 1) 1 [.int .i64 l, .int .i64 k, .int .i64 kd] ∧ w'.ownsRow w.heap.size 57 2 (.slice (some ⟨w.heap.size + 1, 0, none⟩) 1 1) 1 [.int .i64 0, .slice none 0 0] ∧
    w'.ownsRow w.heap.size 57 2 (.slice (some ⟨Q, 0, none⟩) 1 1) 1 [.int .i64 l, .slice A m c] ∧ OwnNd 66 w' 0 (.slice A m c) T ∧ (∀ j, dgF q p' g' h' j → j ≠ Q) ∧ (∀ j, (Value.slice A m c).ownBlock = some j → ¬ dgF q p' g' h' j) ∧ Below w.heap.size w w' := by
  have lo : ∀ j, dgF q p g h j → w.heap.size + 2 ≤ j := fun j f => (i.d.lt j f).1
  refine ⟨own_kp i.cf c1 fun j e f => ?_, own_kp i.rs c1 fun j e f => ?_, own_kp i.bx c1 fun j e f => ?_, own_kp i.row c1 fun j e f => i.nr j e f, fun j f => ?_, fun j e f => ?_, i.b.trans (c1.below (fun j _ f => by have := lo j f; omega) i.b.size)⟩
  · simp only [Value.ownBlock, Option.some.injEq] at e; have := lo j f; omega
  · simp only [Value.ownBlock, Option.some.injEq] at e; have := lo j f; omega
  · simp only [Value.ownBlock, Option.some.injEq] at e; exact i.nq j f e.symm
  · rcases nw j f with z | z
    · exact i.nq j z
    · have := (i.bx.lt Q rfl).2; omega
  · rcases nw j f with z | z
    · exact i.nr j e z
    · have := (World.ownsRow.lt i.row j e).2; omega
end
set_option maxHeartbeats 12800000 in
theorem dgMade_own (l k kd : Int) (A : Option Addr) (n c : Nat) (O : List Pl) (w : World) (H1 : PlacedAt w (.slice A n c) O) (OB : OBds O) (hn : n ≤ 250) (hc : kIs k = true ∧ isP kd l = true) :
    Calls Tryz.prog 16 #[.agg #[.int .i64 l, .int .i64 k, .int .i64 kd], .slice A n c] w (DgMadeOwn kd l k n O w) := by
  have e1 : (w.alloc (.cells #[.int .i64 l, .int .i64 k, .int .i64 kd] 23)).heap.size = w.heap.size + 1 := by simp
  have X0 := Lib.hid ((tri_nw w 23 (.int .i64 l) (.int .i64 k) (.int .i64 kd)).alloc (.cells #[.int .i64 0, .slice none 0 0] 57))
  have Y0 : Hid (((w.alloc (.cells #[.int .i64 l, .int .i64 k, .int .i64 kd] 23)).alloc (.cells #[.int .i64 0, .slice none 0 0] 57)).ownsRow w.heap.size 57 2 (.slice (some ⟨w.heap.size + 1, 0, none⟩) 1 1) 1 [.int .i64 0, .slice none 0 0]) := by
    have z := box2 (w.alloc (.cells #[.int .i64 l, .int .i64 k, .int .i64 kd] 23)) 57 (.int .i64 0) (.slice none 0 0)
    rw [e1] at z
    exact own_low z (Nat.le_succ _)
  have HB0 : Hid (Below w.heap.size w ((w.alloc (.cells #[.int .i64 l, .int .i64 k, .int .i64 kd] 23)).alloc (.cells #[.int .i64 0, .slice none 0 0] 57))) := ((Below.refl _ _).alloc (Nat.le_refl _) _).alloc (by simp) _
  have Z0 : Hid (((w.alloc (.cells #[.int .i64 l, .int .i64 k, .int .i64 kd] 23)).alloc (.cells #[.int .i64 0, .slice none 0 0] 57)).heap.size = w.heap.size + 2) := by show _ = _; simp
  obtain ⟨x0, x1, x2, _, _, _, hz⟩ := tri_all X0.out
  have HL := Lib.hid (placed_cells H1).1
  have HA := Lib.hid (placed_cells H1).2.2.2
  have HB := Lib.hid OB
  have NW := Lib.hid (fun w => dgNew_ok kd l k w hc.1 hc.2)
  have HU : Hid (1 ≤ l ∧ l ≤ 48) := by rcases of_decide_eq_true hc.2 with q | q <;> exact ⟨by omega, by omega⟩
  clear H1 OB hc e1
  go_enter Tryz.func16, Tryz.ntmps16
  go_wp2_with fail
  generalize (w.alloc (.cells #[.int .i64 l, .int .i64 k, .int .i64 kd] 23)).alloc (.cells #[.int .i64 0, .slice none 0 0] 57) = W at *
  refine (NW.out _).mono ?_
  rintro e w1 ⟨hb1, q, p, g, h, rfl, hd⟩
  have X1 := Lib.hid (own_below X0.out hb1)
  have Y1 := Lib.hid (own_below Y0.out hb1)
  have D1 : Hid (DgA w1 (w.heap.size + 2) q p g h kd l k 0 []) := hd.low (by have := Z0.out; omega)
  have B1 := Lib.hid (HB0.out.trans (hb1.mono HB0.out.size))
  have S1 : Hid (w.heap.size + 2 ≤ w1.heap.size) := by have := Z0.out; have := hb1.size; show _ ≤ _; omega
  obtain ⟨x0, x1, x2, _, _, _, hz⟩ := tri_all X1.out
  have hba : Below w1.heap.size w1 (w1.alloc (.cells #[.int .i64 l, .slice none 0 0] 57)) := (Below.refl _ _).alloc (Nat.le_refl _) _
  have M0 : Hid (MadeD w (w1.alloc (.cells #[.int .i64 l, .slice none 0 0] 57)) w1.heap.size q p g h kd l k 0 [] [] none 0 0) :=
    ⟨D1.out.below hba, own_below X1.out hba, own_below Y1.out hba, own_low (box2 ..) (by have := S1.out; omega), ownNd_nil .., fun i f => by have := (D1.out.lt i f).2; omega, fun i e => by simp [Value.ownBlock] at e, S1.out, by simp, dgS_nil HU.out, B1.out.alloc B1.out.size _⟩
  clear hb1 hd NW hba
  go_wp2_with fail
  go_loopw [29] (fun i wr => ∃ (j : Nat) (L T : List Nd) (p g h : Nat) (A2 : Option Addr) (m2 c2 : Nat), j ≤ n ∧ i = .int .i64 j ∧ L = dgOf l k (O.take j) ∧ MadeD w wr w1.heap.size q p g h kd l k j L T A2 m2 c2) (fun i _ => n - (intOf i).toNat)
  case atStart => exact ⟨0, [], [], p, g, h, none, 0, 0, by omega, rfl, rfl, M0.out⟩
  case round =>
    obtain ⟨j, L, T, p, g, h, A2, m2, c2, hj, rfl, hLO, hi⟩ := hrel
    have LO : Hid (L = dgOf l k (O.take j)) := hLO
    clear hLO
    have I := Lib.hid hi
    have hb := hi.b
    have hzr := hb.size
    obtain ⟨q0, q1, q2, q3, hq⟩ := box_cells hi.bx
    clear hi
    by_cases hlt : j < n
    · have hk2 : j < O.length := by have := HL.out; omega
      obtain ⟨bq, o, rfl, hin⟩ := HA.out (by have := HL.out; omega)
      obtain ⟨e0, e1, e2⟩ := (hin.below hb hin.1).2 j hk2
      have hbd := obds_at HB.out hk2
      obtain ⟨_, ⟨b2, b3⟩, b4, b5⟩ := hbd
      have hbl := hin.1
      have HT := Lib.hid (dgOf_take (l := l) (k := k) hk2)
      rw [← LO.out] at HT
      clear hin hb
      generalize O.getD j plz = r at *
      obtain ⟨⟨kq, id⟩, cc⟩ := r
      have HT2 : Hid (dgDo l k L kq id cc = dgOf l k (O.take (j + 1))) := HT.out.symm
      clear HT
      simp only at e0 e1 e2 b2 b3 b4 b5
      have hba : Below wr.heap.size wr (wr.alloc (.cells #[.int .i64 kq, .int .i64 id, .int .i64 cc] 99)) := (Below.refl _ _).alloc (Nat.le_refl _) _
      have TR := Lib.hid (tri_nw wr 99 (.int .i64 kq) (.int .i64 id) (.int .i64 cc))
      have I1 := Lib.hid (I.out.below hba)
      have NA : Hid (∀ i, dgF q p g h i → i ≠ wr.heap.size) := fun i f => by have := (I.out.d.lt i f).2; omega
      have SD := Lib.hid (dgS_do I.out.d.v I.out.s kq id cc)
      have SL := Lib.hid (dgBag_len (L := L) I.out.s.bag kq id cc)
      clear hba q0 q1 q2 q3 hq
      go_wp2_with fail
      generalize wr.alloc (.cells #[.int .i64 kq, .int .i64 id, .int .i64 cc] 99) = W1 at *
      refine (dgLdo_any kq id cc W1 I1.out.d (by omega) b2 b3 b4 b5).mono ?_
      rintro e w5 ⟨rfl, p', g', h', hd5, hk5, hn5⟩
      have TU := Lib.hid (I1.out.turn hd5 hk5 hn5)
      have DD5 := Lib.hid hd5
      have TR5 := Lib.hid (own_kp TR.out hk5 fun i e f => by
        simp only [Value.ownBlock, Option.some.injEq] at e
        exact NA.out i f e.symm)
      obtain ⟨t0, t1, t2, _, _, _, ht⟩ := tri_all TR5.out
      obtain ⟨q0, q1, q2, q3, hq⟩ := box_cells TU.out.2.2.1
      clear hd5 hk5 hn5 e0 e1 e2
      by_cases h2 : kq = 2
      · have a1 : (kq == 2) = true := beq_iff_eq.2 h2
        subst h2
        have ST := Lib.hid (box_setB TU.out.2.2.1 (.slice none 0 0))
        have J : Hid (MadeD w (w5.setCell ⟨w1.heap.size, 1, none⟩ (.slice none 0 0)) w1.heap.size q p' g' h' kd l k (j + 1) (dgDo l k L 2 id cc) [] none 0 0) := by
          have KS := Kp.setCell w5 ⟨w1.heap.size, 1, none⟩ (.slice none 0 0)
          refine ⟨DD5.out.kp KS fun i e f => TU.out.2.2.2.2.1 i f e, own_kp TU.out.1 KS fun i e f => ?_, own_kp TU.out.2.1 KS fun i e f => ?_, ST.out.1, ownNd_nil .., TU.out.2.2.2.2.1, fun i e => by simp [Value.ownBlock] at e, I.out.hq, by simp, SD.out, TU.out.2.2.2.2.2.2.trans ST.out.2⟩
          · simp only [Value.ownBlock, Option.some.injEq] at e; have := I.out.hq; simp only at f; omega
          · simp only [Value.ownBlock, Option.some.injEq] at e; have := I.out.hq; simp only at f; omega
        go_wp2_with fail
        go_roundw
        case rel => exact ⟨j + 1, _, [], p', g', h', none, 0, 0, by omega, by go_num, HT2.out, J.out⟩
        case measure => simp [intOf]; omega
      · have a1 : (kq == 2) = false := beq_eq_false_iff_ne.2 h2
        have KEEP : Hid (dgBag l L T kq id cc = T → MadeD w w5 w1.heap.size q p' g' h' kd l k (j + 1) (dgDo l k L kq id cc) T A2 m2 c2) := fun z => by
          have sd := SD.out
          have sl := SL.out
          rw [z] at sd sl
          exact ⟨DD5.out, TU.out.1, TU.out.2.1, TU.out.2.2.1, TU.out.2.2.2.1, TU.out.2.2.2.2.1, TU.out.2.2.2.2.2.1, I.out.hq, by have := I.out.len; omega, sd, TU.out.2.2.2.2.2.2⟩
        by_cases h1 : kq = 1
        · have a2 : (kq == 1) = true := beq_iff_eq.2 h1
          have a3 : (kq != 1) = false := by simp [h1]
          have J := Lib.hid (KEEP.out (by rw [h1]; rfl))
          clear h1 h2
          go_wp2_with fail
          go_roundw
          case rel => exact ⟨j + 1, _, T, p', g', h', A2, m2, c2, by omega, by go_num, HT2.out, J.out⟩
          case measure => simp [intOf]; omega
        · have a2 : (kq == 1) = false := beq_eq_false_iff_ne.2 h1
          have a3 : (kq != 1) = true := bne_iff_ne.2 h1
          by_cases h3 : dgE l L id cc = 0
          · have ht0 : dgTell l k L kq id cc = 0 := by rw [(dgLdo_else h1 h2).2, h3]
            have a4 : (dgTell l k L kq id cc == 0) = true := beq_iff_eq.2 ht0
            have BI := dgBag_ins (k := k) I.out.s h3
            have BY := dgBag_yes (T := T) h1 h2 h3
            have AD := Lib.hid (rgAdd_any l id cc A2 m2 c2 T w5 (ownNd_nodes TU.out.2.2.2.1) I.out.s.bag (by have a := (nodes_cells (ownNd_nodes TU.out.2.2.2.1)).1; have b := I.out.len; omega) b2 b3 b4 b5)
            rw [BI.1, BI.2] at AD
            have sd := SD.out
            have sl := SL.out
            rw [BY] at sd sl
            have SD' := Lib.hid sd
            have SL' := Lib.hid sl
            clear h1 h2 h3 ht0 BI BY sd sl
            go_wp2_with fail
            refine AD.out.mono ?_
            rintro e w6 ⟨A3, m3, c3, rfl, hv3, hb6, hnw⟩
            have BX6 := own_below TU.out.2.2.1 hb6
            have ST := Lib.hid (box_set BX6 (.int .i64 l) (.slice A3 m3 c3))
            have OW6 : Hid (OwnNd 66 w6 0 (.slice A3 m3 c3) (insW T id cc) ∧ ∀ i, (Value.slice A3 m3 c3).ownBlock = some i → ¬ dgF q p' g' h' i) := by
              rcases hnw with z | z
              · have ow := own_below TU.out.2.2.2.1 hb6
                rw [← z] at ow
                have ee : insW T id cc = T := nodes_uniqD hv3 (ownNd_nodes ow)
                rw [ee]
                exact ⟨ow, fun i e f => TU.out.2.2.2.2.2.1 i (by rw [← z]; exact e) f⟩
              · exact ⟨own_low z (Nat.zero_le _), fun i e f => by
                  have a := (World.ownsRow.lt z i e).1
                  have b := (DD5.out.lt i f).2
                  omega⟩
            have J : Hid (MadeD w ((w6.setCell ⟨w1.heap.size, 0, none⟩ (.int .i64 l)).setCell ⟨w1.heap.size, 1, none⟩ (.slice A3 m3 c3)) w1.heap.size q p' g' h' kd l k (j + 1) (dgDo l k L kq id cc) (insW T id cc) A3 m3 c3) := by
              have KS : Kp (fun i => i = w1.heap.size) w6 ((w6.setCell ⟨w1.heap.size, 0, none⟩ (.int .i64 l)).setCell ⟨w1.heap.size, 1, none⟩ (.slice A3 m3 c3)) := (Kp.setCell w6 ⟨w1.heap.size, 0, none⟩ (.int .i64 l)).trans (Kp.setCell _ ⟨w1.heap.size, 1, none⟩ (.slice A3 m3 c3)) (fun _ _ z => z)
              refine ⟨(DD5.out.below hb6).kp KS fun i e f => TU.out.2.2.2.2.1 i f e, own_kp (own_below TU.out.1 hb6) KS fun i e f => ?_, own_kp (own_below TU.out.2.1 hb6) KS fun i e f => ?_, ST.out.1, ST.out.2.1 _ _ _ _ _ _ (by decide) OW6.out.1, TU.out.2.2.2.2.1, OW6.out.2, I.out.hq, by have := SL'.out; have := I.out.len; omega, SD'.out, (TU.out.2.2.2.2.2.2.trans (hb6.mono TU.out.2.2.2.2.2.2.size)).trans ST.out.2.2.1⟩
              · simp only [Value.ownBlock, Option.some.injEq] at e; have := I.out.hq; omega
              · simp only [Value.ownBlock, Option.some.injEq] at e; have := I.out.hq; omega
            obtain ⟨r0, r1, r2, r3, hr⟩ := box_cells BX6
            clear hv3 hb6 hnw BX6 q0 q1 q2 q3 t0 t1 t2
            go_wp2_with fail
            go_roundw
            case rel => exact ⟨j + 1, _, _, p', g', h', A3, m3, c3, by omega, by go_num, HT2.out, J.out⟩
            case measure => simp [intOf]; omega
          · have a4 : (dgTell l k L kq id cc == 0) = false := beq_eq_false_iff_ne.2 (by rw [(dgLdo_else h1 h2).2]; exact h3)
            have J := Lib.hid (KEEP.out (dgBag_no h1 h2 h3))
            clear h1 h2 h3
            go_wp2_with fail
            go_roundw
            case rel => exact ⟨j + 1, _, T, p', g', h', A2, m2, c2, by omega, by go_num, HT2.out, J.out⟩
            case measure => simp [intOf]; omega
    · obtain rfl : j = n := by omega
      have LE : L = dgOf l k O := by rw [LO.out, List.take_of_length_le (by have := HL.out; omega)]
      obtain ⟨y0, y1, y2, y3, hy⟩ := box_cells I.out.rs
      have E : Hid (DgMadeOwn kd l k j O w (.returned (.tuple #[.pointer (some ⟨q, 0, none⟩), .agg #[.int .i64 l, .slice A2 m2 c2]])) ((wr.setCell ⟨w.heap.size + 1, 0, none⟩ (.int .i64 l)).setCell ⟨w.heap.size + 1, 1, none⟩ (.slice A2 m2 c2)).drew) := by
        have I2 := I.out
        have ST := box_set I2.rs (.int .i64 l) (.slice A2 m2 c2)
        have KS : Kp (fun i => i = w.heap.size + 1) wr ((wr.setCell ⟨w.heap.size + 1, 0, none⟩ (.int .i64 l)).setCell ⟨w.heap.size + 1, 1, none⟩ (.slice A2 m2 c2)) := (Kp.setCell wr ⟨w.heap.size + 1, 0, none⟩ (.int .i64 l)).trans (Kp.setCell _ ⟨w.heap.size + 1, 1, none⟩ (.slice A2 m2 c2)) (fun _ _ z => z)
        have bd := I2.b.trans ST.2.2.1
        rw [LE] at I2
        exact ⟨q, p, g, h, T, A2, m2, c2, rfl, ((I2.d.kp KS fun i e f => by have := (I2.d.lt i f).1; omega).low (by omega)).below (below_drew _), own_below (ST.2.1 _ _ _ _ _ _ (by decide) I2.row) (below_drew _), I2.len, I2.s, bd.trans ((below_drew _).mono bd.size)⟩
      obtain ⟨z0, z1⟩ := set_two (w := wr) (x := .int .i64 0) (y := .slice none 0 0) y0 y1
      have z2 := World.cell?_setCell_same' wr ⟨w.heap.size + 1, 0, none⟩ (.int .i64 l) (by rw [y0]; rfl)
      have z3 := z1 (.int .i64 l) (.slice A2 m2 c2)
      clear hlt LE LO
      go_wp2_with fail
      go_region
      all_goals go_wp2_with fail
      all_goals exact bodyPost_ret (v := .tuple #[.pointer (some ⟨q, 0, none⟩), .agg #[.int .i64 l, .slice A2 m2 c2]]) (by simp [results, Tryz.results16, go_sem, z2, z3]) rfl E.out
theorem dgMade_any (l k kd : Int) (A : Option Addr) (n c : Nat) (O : List Pl) (w : World) (H1 : PlacedAt w (.slice A n c) O) (OB : OBds O) (hn : n ≤ 250) (hc : kIs k = true ∧ isP kd l = true) :
    Calls Tryz.prog 16 #[.agg #[.int .i64 l, .int .i64 k, .int .i64 kd], .slice A n c] w (DgMadePost kd l k n O w) :=
  (dgMade_own l k kd A n c O w H1 OB hn hc).mono fun e w' ⟨q, p, g, h, T, A2, m2, c2, a, b, d, x, y, z⟩ => ⟨q, p, g, h, T, A2, m2, c2, a, b, ownNd_nodes d, x, y, z⟩
end Go.Proofs.YtelekchdbiimiaaGreat
namespace Go.Proofs.YtelekchdbiimiaaGreat
set_option linter.unusedVariables false
set_option maxRecDepth 100000
open Go.RowKit
set_option maxHeartbeats 3200000 in
theorem dgMade_no (l k kd : Int) (A : Option Addr) (n c : Nat) (w : World) (hc : ¬ (kIs k = true ∧ isP kd l = true)) (L0 : -9223372036854775808 ≤ l) (L1 : l ≤ 9223372036854775807) :
    Calls Tryz.prog 16 #[.agg #[.int .i64 l, .int .i64 k, .int .i64 kd], .slice A n c] w fun e w' => e = .returned (.tuple #[.pointer none, .agg #[.int .i64 0, .slice none 0 0]]) ∧ Below w.heap.size w w' := by
  have e1 : (w.alloc (.cells #[.int .i64 l, .int .i64 k, .int .i64 kd] 23)).heap.size = w.heap.size + 1 := by simp
  have X0 := Lib.hid ((tri_nw w 23 (.int .i64 l) (.int .i64 k) (.int .i64 kd)).alloc (.cells #[.int .i64 0, .slice none 0 0] 57))
  have Y0 : Hid (((w.alloc (.cells #[.int .i64 l, .int .i64 k, .int .i64 kd] 23)).alloc (.cells #[.int .i64 0, .slice none 0 0] 57)).ownsRow w.heap.size 57 2 (.slice (some ⟨w.heap.size + 1, 0, none⟩) 1 1) 1 [.int .i64 0, .slice none 0 0]) := by
    have z := box2 (w.alloc (.cells #[.int .i64 l, .int .i64 k, .int .i64 kd] 23)) 57 (.int .i64 0) (.slice none 0 0)
    rw [e1] at z
    exact own_low z (Nat.le_succ _)
  have HB0 : Hid (Below w.heap.size w ((w.alloc (.cells #[.int .i64 l, .int .i64 k, .int .i64 kd] 23)).alloc (.cells #[.int .i64 0, .slice none 0 0] 57))) := ((Below.refl _ _).alloc (Nat.le_refl _) _).alloc (by simp) _
  obtain ⟨x0, x1, x2, _, _, _, hz⟩ := tri_all X0.out
  have NW := Lib.hid (fun w => dgNew_no kd l k w hc L0 L1)
  clear hc e1
  go_enter Tryz.func16, Tryz.ntmps16
  go_wp2_with fail
  generalize (w.alloc (.cells #[.int .i64 l, .int .i64 k, .int .i64 kd] 23)).alloc (.cells #[.int .i64 0, .slice none 0 0] 57) = W at *
  refine (NW.out _).mono ?_
  rintro e w1 ⟨rfl, hb1⟩
  have Y1 := Lib.hid (own_below Y0.out hb1)
  have B1 := Lib.hid (HB0.out.trans (hb1.mono HB0.out.size))
  have ST := Lib.hid (box_set Y1.out (.int .i64 0) (.slice none 0 0)).2.2.1
  obtain ⟨y0, y1, y2, y3, hy⟩ := box_cells Y1.out
  obtain ⟨q0, q1⟩ := set_two y0 y1
  clear hb1 NW x0 x1 x2
  go_wp2_with fail
  exact bodyPost_ret (v := .tuple #[.pointer none, .agg #[.int .i64 0, .slice none 0 0]]) (by simp [results, Tryz.results16, go_sem, q0, q1]) rfl ⟨rfl, B1.out.trans ST.out⟩
end Go.Proofs.YtelekchdbiimiaaGreat
