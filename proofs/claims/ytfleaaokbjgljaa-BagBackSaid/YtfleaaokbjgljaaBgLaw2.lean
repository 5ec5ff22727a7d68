/- The laws' own function Made; a walk: BagNobody. -/
import Derived.Test.YtfleaaokbjgljaaBgLaw
namespace Go.Proofs.Ytfleaaokbjgljaa
set_option linter.unusedVariables false
set_option maxRecDepth 100000
open Go.RowKit
attribute [local go_sem ↓] Go.wp_at_zero Go.wp_at_succ

/-- a bag, and the document's own one, whose row is none of the bag's -/
structure MadeI (w0 w : World) (g : Nat) (l : Int) (L : List Nd) (v : Value) (A : Option Addr) (n c : Nat) (N : Nat) : Prop where
  bag : BgA w w0.heap.size g l L v
  blocks : ∀ k, bgF g v k → k < N
  nodes : NodesAt w (.slice A n c) L
  own : Value.slice A n c = .slice none 0 0 ∨ OwnNd 31 w N (.slice A n c) L
  below : Below w0.heap.size w0 w
theorem MadeI.to {w0 w w' : World} {g : Nat} {l : Int} {L : List Nd} {v : Value} {A : Option Addr} {n c N : Nat} (m : MadeI w0 w g l L v A n c N) (hb : Below w.heap.size w w') : MadeI w0 w' g l L v A n c N :=
  ⟨m.bag.below hb, m.blocks, m.nodes.below hb, m.own.imp id (fun q => own_below q hb), m.below.trans (hb.mono m.below.size)⟩
set_option maxHeartbeats 3200000 in
theorem bgMade_any (l : Int) (A : Option Addr) (n c : Nat) (R : List Nd) (w : World) (h : NodesAt w (.slice A n c) R) (hB : NBds R) (hu : 1 ≤ l ∧ l ≤ 48) (hn : n ≤ 1000) :
    Calls Try.prog 14 #[.int .i64 l, .slice A n c] w fun e w' => ∃ g v A5 m5 c5 N, e = .returned (.tuple #[.pointer (some ⟨g, 0, none⟩), .agg #[.int .i64 l, .slice A5 m5 c5]]) ∧ MadeI w w' g l (ofS l R) v A5 m5 c5 N := by
  have HN := Lib.hid h
  have HNB := Lib.hid hB
  have hL := Lib.hid (nodes_cells h).1
  have HU := Lib.hid hu
  have RES : Hid ((w.alloc (.cells #[.int .i64 0, .slice none 0 0] 29)).ownsRow w.heap.size 29 2 (.slice (some ⟨w.heap.size, 0, none⟩) 1 1) 1 [.int .i64 0, .slice none 0 0]) := bx2 ..
  have HB : Hid (Below w.heap.size w (w.alloc (.cells #[.int .i64 0, .slice none 0 0] 29))) := (Below.refl _ _).alloc (Nat.le_refl _) _
  have hzW : Hid ((w.alloc (.cells #[.int .i64 0, .slice none 0 0] 29)).heap.size = w.heap.size + 1) := by show _ = _; simp
  clear h hB
  go_enter Try.func14, Try.ntmps14
  go_wp2_with fail
  generalize w.alloc (.cells #[.int .i64 0, .slice none 0 0] 29) = w1 at *
  have hz := hzW.out
  refine (bgNew_any l w1 hu).mono ?_
  rintro e w2 ⟨g, rfl, d2, b2⟩
  have D2 := Lib.hid d2
  have B2 := Lib.hid b2
  clear d2 b2
  go_wp2_with fail
  go_loopw [24] (fun i wr => ∃ (k : Nat) (v : Value), i = .int .i64 (k : Int) ∧ k ≤ n ∧ BgA wr w1.heap.size g l (ofS l (R.take k)) v ∧ Below w1.heap.size w1 wr) (fun i _ => n - (intOf i).toNat)
  case atStart => exact ⟨0, _, rfl, Nat.zero_le _, D2.out, B2.out⟩
  case round =>
    obtain ⟨k, v, rfl, hk, d, hb⟩ := hrel
    have D := Lib.hid d
    have zs := hb.size
    have HBK : Hid (Below w.heap.size w wr) := HB.out.trans (hb.mono HB.out.size)
    clear d
    by_cases hlt : k < n
    · have hkM : k < R.length := by have := hL.out; omega
      obtain ⟨b1, o, rfl, hin⟩ := (nodes_cells (HN.out.below HBK.out)).2.2.2 (by omega)
      obtain ⟨e0, e1⟩ := hin.2 k hkM
      have PS := of_step (l := l) hkM
      have bd := nbds_at HNB.out hkM
      have ol := of_len l (R.take k)
      have ADD := Lib.hid (fun w4 (q : Below wr.heap.size wr w4) => bgAdd_any (R.getD k nz).1 (R.getD k nz).2 w4 (D.out.below q) (by rw [List.length_take] at ol; have := hL.out; omega) bd.1.1 bd.1.2 bd.2.1 bd.2.2)
      obtain ⟨ee, hee⟩ : ∃ ee, bagE l (ofS l (R.take k)) (R.getD k nz).1 (R.getD k nz).2 = ee := ⟨_, rfl⟩
      rw [PS, hee] at ADD
      have k0 : (0 : Int) ≤ (k : Int) := Int.natCast_nonneg _
      have k1 : (k : Int) < (n : Int) := by omega
      clear hin PS bd ol hee
      generalize R.getD k nz = r at *
      obtain ⟨r1, r2⟩ := r
      dsimp only at e0 e1 ADD
      have BD : Hid (Below wr.heap.size wr (wr.alloc (.cells #[.int .i64 r1, .int .i64 r2] 31))) := (Below.refl _ _).alloc (Nat.le_refl _) _
      go_wp2_with (go_at_call 12; refine (ADD.out _ BD.out).mono ?_; rintro e w4 ⟨v4, rfl, d4, k4, _⟩)
      go_roundw
      case rel => exact ⟨k + 1, v4, by go_num, by omega, d4, hb.trans ((BD.out.mono zs).trans (bg_below (D.out.below BD.out) k4 (by have := BD.out.size; omega)))⟩
      case measure => simp [intOf]; omega
    · have e : R.take k = R := List.take_of_length_le (by have := hL.out; omega)
      rw [e] at D
      have OF := rgOf_any l A n c R wr (HN.out.below HBK.out) HNB.out HU.out (by omega)
      clear e
      go_wp2_with fail
      refine OF.mono ?_
      rintro e w5 ⟨A5, m5, c5, rfl, n5, b5, o5⟩
      have RES2 := own_below RES.out (hb.trans (b5.mono zs) |>.mono (by omega) : Below w1.heap.size w1 w5)
      have r0 := RES2.cellAt 0 (by omega)
      have r1 := RES2.cellAt 1 (by omega)
      have g0 := RES2.frozenAt 0
      have g1 := RES2.frozenAt 1
      simp only [List.getElem?_cons_zero, List.getElem?_cons_succ] at r0 r1
      obtain ⟨q0, q1⟩ := set_two r0 r1
      have hz5 := b5.size
      have FIN : ∀ u u', MadeI w ((w5.setCell ⟨w.heap.size, 0, none⟩ u).setCell ⟨w.heap.size, 1, none⟩ u') g l (ofS l R) v A5 m5 c5 wr.heap.size := fun u u' => by
        have KS : Kp (fun k => k = w.heap.size) w5 ((w5.setCell ⟨w.heap.size, 0, none⟩ u).setCell ⟨w.heap.size, 1, none⟩ u') := by
          have a : Kp (fun k => k = w.heap.size) w5 (w5.setCell ⟨w.heap.size, 0, none⟩ u) := Kp.setCell w5 ⟨w.heap.size, 0, none⟩ u
          exact a.set (b := w.heap.size) (o := 1) u' (fun _ => rfl)
        have dd := ((D.out.below b5).kp KS fun k hk q => by have := ((D.out.below b5).blocks k hk).1; omega).low (B2 := w.heap.size) (by omega)
        have own : OwnNd 31 w5 wr.heap.size (.slice A5 m5 c5) (ofS l R) → OwnNd 31 ((w5.setCell ⟨w.heap.size, 0, none⟩ u).setCell ⟨w.heap.size, 1, none⟩ u') wr.heap.size (.slice A5 m5 c5) (ofS l R) := fun q =>
          ownsRow_setCell_below (ownsRow_setCell_below q (a := ⟨w.heap.size, 0, none⟩) (by show w.heap.size < wr.heap.size; omega) u) (a := ⟨w.heap.size, 1, none⟩) (by show w.heap.size < wr.heap.size; omega) u'
        refine ⟨dd, fun k hk => (D.out.blocks k hk).2, ?_, o5.imp id own, ((HBK.out.trans (b5.mono HBK.out.size)).setCell (p := ⟨w.heap.size, 0, none⟩) (Nat.le_refl _) u).setCell (p := ⟨w.heap.size, 1, none⟩) (Nat.le_refl _) u'⟩
        rcases o5 with q | q
        · rw [q] at n5 ⊢
          rw [(nodes_none n5).2.2]
          exact nodes_nil _
        · exact ownNd_nodes (own q)
      have HF := Lib.hid FIN
      clear FIN RES2
      go_wp2_with fail
      exact bodyPost_ret (v := .tuple #[.pointer (some ⟨g, 0, none⟩), .agg #[.int .i64 l, .slice A5 m5 c5]]) (by simp [results, Try.results14, go_sem, q0, q1]) rfl ⟨g, v, A5, m5, c5, _, rfl, HF.out _ _⟩
set_option maxHeartbeats 3200000 in
theorem walk_bagNobody (x y : Int) (X0 : -9223372036854775808 ≤ x) (X1 : x ≤ 9223372036854775807) (Y0 : -9223372036854775808 ≤ y) (Y1 : y ≤ 9223372036854775807) (w : World) :
    Calls Try.prog 8 #[.int .i64 x, .int .i64 y] w fun e w' => e = .returned (.bool true) ∧ Below w.heap.size w w' := by
  go_enter Try.func8, Try.ntmps8
  go_wp2_with fail
  refine (bgNew_any 5 w (by omega)).mono ?_
  rintro e w1 ⟨g, rfl, d1, b1⟩
  have z1 := b1.size
  clear d1
  have hq1 : ∀ w, (binOp .eql 24 (.pointer (some ⟨g, 0, none⟩)) (.pointer none)).run Try.prog w = .ok (.bool false) w := fun _ => by kernel_rfl
  go_wp2_with (first
    | (go_at_call 15; refine (bgKth_nil _ _).mono ?_; rintro e w2 ⟨rfl, rfl⟩)
    | (go_at_call 21; refine (bgEnds_nil _).mono ?_; rintro e w2 ⟨rfl, rfl⟩)
    | (go_at_call 26; refine (bgImage_nil _ _).mono ?_; rintro e w2 ⟨rfl, rfl⟩)
    | (go_at_call 28; refine (bgWider_nil _ _).mono ?_; rintro e w2 ⟨rfl, rfl⟩)
    | (go_at_call 31; refine (bgL_nil _).mono ?_; rintro e w2 ⟨rfl, rfl⟩)
    | (go_at_call 32; refine (bgLen_nil _).mono ?_; rintro e w2 ⟨rfl, rfl⟩)
    | (go_at_call 30; refine (bgTotal_nil _).mono ?_; rintro e w2 ⟨rfl, rfl⟩)
    | (go_at_call 12; refine (bgAdd_nil _ _ _).mono ?_; rintro e w2 ⟨rfl, rfl⟩)
    | (go_at_call 17; refine (bgRank_nil _ _).mono ?_; rintro e w2 ⟨rfl, rfl⟩)
    | (go_at_call 19; refine (bgBetween_nil _ _ _).mono ?_; rintro e w2 ⟨rfl, rfl⟩)
    | (go_at_call 33; refine (bgItems_nil _).mono ?_; rintro e w2 ⟨rfl, rfl⟩)
    | (go_at_call 25; with_reducible refine (bgPour_nil _ _).mono ?_; rintro e w2 ⟨rfl, rfl⟩)
    | (go_at_call 25; with_reducible refine (bgPour_none _ _).mono ?_; rintro e w2 ⟨rfl, rfl⟩)
    | (go_at_call 22; with_reducible refine (bgSame_nil _).mono ?_; rintro e w2 ⟨rfl, rfl⟩)
    | (go_at_call 22; with_reducible refine (bgSame_right _ _).mono ?_; rintro e w2 ⟨rfl, rfl⟩)
    | (go_at_call 22; with_reducible refine (bgSame_left _ _).mono ?_; rintro e w2 ⟨rfl, rfl⟩)
    | (go_at_call 9; refine (bgAlive_any _).mono ?_; rintro e w3 ⟨rfl, b3⟩))
  go_ret
  exact ⟨rfl, b1.trans (b3.mono z1)⟩

end Go.Proofs.Ytfleaaokbjgljaa
