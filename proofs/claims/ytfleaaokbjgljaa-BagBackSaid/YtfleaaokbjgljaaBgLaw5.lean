/- The walk of BagMoves. -/
import Derived.Test.YtfleaaokbjgljaaBgLaw2
namespace Go.Proofs.Ytfleaaokbjgljaa
set_option linter.unusedVariables false
set_option maxRecDepth 100000
open Go.RowKit
attribute [local go_sem ↓] Go.wp_at_zero Go.wp_at_succ

theorem bel_al {B : Nat} {w w' : World} (h : Below B w w') (hB : B ≤ w.heap.size) (o : Obj) : Below B w (w'.alloc o) := h.alloc (by have := h.size; omega) o
theorem bel_tr {B : Nat} {a b c : World} (h : Below B a b) (g : Below b.heap.size b c) (hB : B ≤ a.heap.size) : Below B a c := h.trans (g.mono (by have := h.size; omega))
set_option maxHeartbeats 12800000 in
theorem walk_bagMoves (l : Int) (A : Option Addr) (n c : Nat) (R : List Nd) (a0 a1 : Int) (L0 : -9223372036854775808 ≤ l) (L1 : l ≤ 9223372036854775807) (hB : NBds R) (hc : n ≤ 9223372036854775807) (A00 : -9223372036854775808 ≤ a0) (A01 : a0 ≤ 9223372036854775807) (A10 : -9223372036854775808 ≤ a1) (A11 : a1 ≤ 9223372036854775807) (w : World) (h : NodesAt w (.slice A n c) R) :
    Calls Try.prog 6 #[.int .i64 l, .slice A n c, .agg #[.int .i64 a0, .int .i64 a1]] w fun e w' => e = .returned (.bool true) ∧ Below w.heap.size w w' := by
  have hb0 : Below w.heap.size w (w.alloc (.cells #[.int .i64 a0, .int .i64 a1] 57)) := (Below.refl _ _).alloc (Nat.le_refl _) _
  have HB0 := Lib.hid hb0
  have HN := Lib.hid (h.below hb0)
  have HNB := Lib.hid hB
  have hL := Lib.hid (nodes_cells h).1
  clear h hB hc
  by_cases hn : n ≤ 60 ∧ 1 ≤ l ∧ l ≤ 48
  · obtain ⟨n1, u0, u1⟩ := hn
    have x0 : (w.alloc (.cells #[.int .i64 a0, .int .i64 a1] 57)).cell? ⟨w.heap.size, 0, none⟩ = some (.int .i64 a0) := by simp
    have x1 : (w.alloc (.cells #[.int .i64 a0, .int .i64 a1] 57)).cell? ⟨w.heap.size, 1, none⟩ = some (.int .i64 a1) := by simp
    have hzW : Hid ((w.alloc (.cells #[.int .i64 a0, .int .i64 a1] 57)).heap.size = w.heap.size + 1) := by show _ = _; simp
    go_enter Try.func6, Try.ntmps6
    go_wp2_with fail
    generalize w.alloc (.cells #[.int .i64 a0, .int .i64 a1] 57) = w1 at *
    refine (bgMade_any l A n c R w1 HN.out HNB.out ⟨u0, u1⟩ (by omega)).mono ?_
    rintro e w2 ⟨g, v, A5, m5, c5, N, rfl, M⟩
    have hSl : (ofS l R).length ≤ 60 := by have := of_len l R; have := hL.out; omega
    have hz1 := hzW.out
    have zs := M.below.size
    have b2 := M.below
    have M3 := Lib.hid (M.to ((Below.refl _ _).alloc (Nat.le_refl _) (.cells #[.int .i64 l, .slice A5 m5 c5] 29)))
    clear M
    have b23 : Below w2.heap.size w2 (w2.alloc (.cells #[.int .i64 l, .slice A5 m5 c5] 29)) := (Below.refl _ _).alloc (Nat.le_refl _) _
    generalize ofS l R = S at *
    have hO : w.heap.size < w2.heap.size := by omega
    have y0 := (b23.cell (p := ⟨w.heap.size, 0, none⟩) hO).trans ((b2.cell (p := ⟨w.heap.size, 0, none⟩) (by show w.heap.size < _; omega)).trans x0)
    have y1 := (b23.cell (p := ⟨w.heap.size, 1, none⟩) hO).trans ((b2.cell (p := ⟨w.heap.size, 1, none⟩) (by show w.heap.size < _; omega)).trans x1)
    have y2 : (w2.alloc (.cells #[.int .i64 l, .slice A5 m5 c5] 29)).cell? ⟨w2.heap.size, 0, none⟩ = some (.int .i64 l) := by simp
    have y3 : (w2.alloc (.cells #[.int .i64 l, .slice A5 m5 c5] 29)).cell? ⟨w2.heap.size, 1, none⟩ = some (.slice A5 m5 c5) := by simp
    have hz3 : Hid ((w2.alloc (.cells #[.int .i64 l, .slice A5 m5 c5] 29)).heap.size = w2.heap.size + 1) := by show _ = _; simp
    clear x0 x1
    have hq1 : ∀ (g : Nat) w, (binOp .eql 24 (.pointer (some ⟨g, 0, none⟩)) (.pointer none)).run Try.prog w = .ok (.bool false) w := fun _ _ => by kernel_rfl
    have hq2 : ∀ (g : Nat) w, (binOp .neq 24 (.pointer (some ⟨g, 0, none⟩)) (.pointer none)).run Try.prog w = .ok (.bool true) w := fun _ _ => by kernel_rfl
    have hq3 : ∀ w, (binOp .eql 24 (.pointer none) (.pointer none)).run Try.prog w = .ok (.bool true) w := fun _ => by kernel_rfl
    have hq4 : ∀ w, (binOp .neq 24 (.pointer none) (.pointer none)).run Try.prog w = .ok (.bool false) w := fun _ => by kernel_rfl
    have hm5b : m5 ≤ 1000 := by have := (nodes_cells M3.out.nodes).1; omega
    go_wp2_with fail
    have BW3 : Hid (Below w.heap.size w (w2.alloc (.cells #[.int .i64 l, .slice A5 m5 c5] 29))) := bel_tr (bel_tr HB0.out b2 (Nat.le_refl _)) b23 (Nat.le_refl _)
    generalize w2.alloc (.cells #[.int .i64 l, .slice A5 m5 c5] 29) = w3 at *
    have hz3' := hz3.out
    have hk0 : w.heap.size < w3.heap.size := by omega
    have hk1 : w2.heap.size < w3.heap.size := by omega
    have CL := Lib.hid (fun w' (q : Below w3.heap.size w3 w') => (⟨(q.cell (p := ⟨w.heap.size, 0, none⟩) hk0).trans y0, (q.cell (p := ⟨w.heap.size, 1, none⟩) hk0).trans y1, (q.cell (p := ⟨w2.heap.size, 0, none⟩) hk1).trans y2, (q.cell (p := ⟨w2.heap.size, 1, none⟩) hk1).trans y3⟩ :
      w'.cell? ⟨w.heap.size, 0, none⟩ = some (.int .i64 a0) ∧ w'.cell? ⟨w.heap.size, 1, none⟩ = some (.int .i64 a1) ∧ w'.cell? ⟨w2.heap.size, 0, none⟩ = some (.int .i64 l) ∧ w'.cell? ⟨w2.heap.size, 1, none⟩ = some (.slice A5 m5 c5)))
    clear b2 b23 hz3
    by_cases hi : 0 ≤ a0 ∧ a0 < l
    · obtain ⟨i0, i1⟩ := hi
      refine (bgImage_any a0 w3 M3.out.bag (by omega) i0 i1).mono ?_
      rintro e w4 ⟨gc, vc, rfl, d4, b4⟩
      have hil : (imgS S a0).length ≤ 60 := by have := img_len S a0; omega
      obtain ⟨t0, t1, t2, t3⟩ := CL.out _ b4
      have hz4 := b4.size
      have B4 := Lib.hid b4
      have D4 := Lib.hid d4
      clear y0 y1 y2 y3 b4 d4
      go_wp2_with fail
      refine (rgImage_any l a0 A5 m5 c5 S w4 (M3.out.nodes.below B4.out) M3.out.bag.bag (by omega) i0 i1).mono ?_
      rintro e w5a ⟨A6, m6, c6, rfl, nd5, b5, own5⟩
      have b5' : Below w4.heap.size w4 (w5a.alloc (.cells #[.int .i64 (l - a0), .slice A6 m6 c6] 29)) := bel_al b5 (Nat.le_refl _) _
      have H5 := Lib.hid (bel_tr B4.out b5' (Nat.le_refl _))
      have DC := Lib.hid (D4.out.below b5')
      have NX := Lib.hid (nd5.below ((Below.refl _ _).alloc (Nat.le_refl _) (.cells #[.int .i64 (l - a0), .slice A6 m6 c6] 29)))
      have hz5 := b5'.size
      have hz5a := b5.size
      have CX0 : (w5a.alloc (.cells #[.int .i64 (l - a0), .slice A6 m6 c6] 29)).cell? ⟨w5a.heap.size, 0, none⟩ = some (.int .i64 (l - a0)) := by simp
      have CX1 : (w5a.alloc (.cells #[.int .i64 (l - a0), .slice A6 m6 c6] 29)).cell? ⟨w5a.heap.size, 1, none⟩ = some (.slice A6 m6 c6) := by simp
      have CXz : w5a.heap.size < (w5a.alloc (.cells #[.int .i64 (l - a0), .slice A6 m6 c6] 29)).heap.size := by simp
      have CX := Lib.hid (fun w' (q : Below (w5a.alloc (.cells #[.int .i64 (l - a0), .slice A6 m6 c6] 29)).heap.size (w5a.alloc (.cells #[.int .i64 (l - a0), .slice A6 m6 c6] 29)) w') => (⟨(q.cell (p := ⟨w5a.heap.size, 0, none⟩) CXz).trans CX0, (q.cell (p := ⟨w5a.heap.size, 1, none⟩) CXz).trans CX1⟩ :
        w'.cell? ⟨w5a.heap.size, 0, none⟩ = some (.int .i64 (l - a0)) ∧ w'.cell? ⟨w5a.heap.size, 1, none⟩ = some (.slice A6 m6 c6)))
      clear CX0 CX1 t0 t1 t2 t3 nd5 own5 b5 b5'
      obtain ⟨t0, t1, t2, t3⟩ := CL.out _ H5.out
      go_wp2_with fail
      generalize w5a.alloc (.cells #[.int .i64 (l - a0), .slice A6 m6 c6] 29) = w5 at *
      clear t0 t1 t2 t3
      by_cases hw : a1 < l ∨ 48 < a1
      · refine (bgWider_no a1 w5 (M3.out.bag.below H5.out) hw).mono ?_
        rintro e w6 ⟨rfl, rfl⟩
        have b6 : Below w5.heap.size w5 w5 := Below.refl _ _
        have H6 := H5
        have hz6 := b6.size
        have B56 := Lib.hid b6
        clear b6
        obtain ⟨t0, t1, t2, t3⟩ := CL.out _ H6.out
        have DC6 := Lib.hid (DC.out.below B56.out)
        obtain ⟨p0, p1⟩ := CX.out _ B56.out
        have NX6 := Lib.hid (NX.out.below B56.out)
        go_wp2_with fail
        refine (rgWider_no l a1 A5 m5 c5 w5 hw).mono ?_
        rintro e w7 ⟨rfl, b7⟩
        have hz7 := b7.size
        have b8 : Below w5.heap.size w5 (w7.alloc (.cells #[.int .i64 0, .slice none 0 0] 29)) := bel_al b7 (Nat.le_refl _) _
        have H8 := Lib.hid (bel_tr H6.out b8 (Nat.le_refl _))
        have B68 := Lib.hid b8
        clear b7 b8 t0 t1 t2 t3 p0 p1
        obtain ⟨t0, t1, t2, t3⟩ := CL.out _ H8.out
        have DC8 := Lib.hid (DC6.out.below B68.out)
        obtain ⟨p0, p1⟩ := CX.out _ (bel_tr B56.out B68.out (Nat.le_refl _))
        have NX8 := Lib.hid (NX6.out.below B68.out)
        have yb0 : (w7.alloc (.cells #[.int .i64 0, .slice none 0 0] 29)).cell? ⟨w7.heap.size, 0, none⟩ = some (.int .i64 0) := by simp
        have yb1 : (w7.alloc (.cells #[.int .i64 0, .slice none 0 0] 29)).cell? ⟨w7.heap.size, 1, none⟩ = some (.slice none 0 0) := by simp
        have hz8 : Hid ((w7.alloc (.cells #[.int .i64 0, .slice none 0 0] 29)).heap.size = w7.heap.size + 1) := by show _ = _; simp
        go_wp2_with fail
        generalize w7.alloc (.cells #[.int .i64 0, .slice none 0 0] 29) = w8 at *
        have hz8' := hz8.out
        refine (bgLike_any A6 m6 c6 w8 DC8.out NX8.out (by omega)).mono ?_
        rintro e w9 ⟨rfl, b9⟩
        have H9 := Lib.hid (bel_tr H8.out b9 (Nat.le_refl _))
        have B9 := Lib.hid b9
        have DC9 := Lib.hid (DC8.out.below b9)
        have hz9 := b9.size
        obtain ⟨r0, r1, r2, r3⟩ := CL.out _ H9.out
        have yc0 := (b9.cell (p := ⟨w7.heap.size, 0, none⟩) (by show w7.heap.size < _; omega)).trans yb0
        have yc1 := (b9.cell (p := ⟨w7.heap.size, 1, none⟩) (by show w7.heap.size < _; omega)).trans yb1
        clear b9 t0 t1 t2 t3 yb0 yb1 p0 p1
        go_wp2_with fail
        refine (bgAdd_any 0 1 w9 DC9.out (by omega) (by omega) (by omega) (by omega) (by omega)).mono ?_
        rintro e w11 ⟨vc2, rfl, _, k11, _⟩
        have b11 : Below w3.heap.size w9 w11 := bg_below DC9.out k11 (by omega)
        have H11 := Lib.hid (H9.out.trans b11)
        have hz11 := k11.size
        clear b11 k11
        go_wp2_with fail
        refine (bgAdd_nil 0 1 w11).mono ?_
        rintro e w12 ⟨rfl, rfl⟩
        obtain ⟨s0, s1, s2, s3⟩ := CL.out _ H11.out
        go_wp2_with fail
        refine (bgLike_any A5 m5 c5 w11 (M3.out.bag.below H11.out) (M3.out.nodes.below H11.out) (by omega)).mono ?_
        rintro e w13 ⟨rfl, b13⟩
        have BZ := Lib.hid (bel_tr BW3.out (bel_tr H11.out b13 (Nat.le_refl _)) (Nat.le_refl _))
        clear b13
        go_wp2_with (go_at_call 9; refine (bgAlive_any _).mono ?_; rintro e w14 ⟨rfl, b14⟩)
        go_ret
        exact ⟨rfl, bel_tr BZ.out b14 (Nat.le_refl _)⟩
      · have v0 : l ≤ a1 := by omega
        have v1 : a1 ≤ 48 := by omega
        clear hw
        refine (bgWider_any a1 w5 (M3.out.bag.below H5.out) (by omega) v0 v1).mono ?_
        rintro e w6 ⟨gd, vd, rfl, d6, b6⟩
        have H6 := Lib.hid (bel_tr H5.out b6 (Nat.le_refl _))
        have D6 := Lib.hid d6
        have hz6 := b6.size
        have B56 := Lib.hid b6
        clear b6 d6
        obtain ⟨t0, t1, t2, t3⟩ := CL.out _ H6.out
        have DC6 := Lib.hid (DC.out.below B56.out)
        obtain ⟨p0, p1⟩ := CX.out _ B56.out
        have NX6 := Lib.hid (NX.out.below B56.out)
        go_wp2_with fail
        refine (rgWider_any l a1 A5 m5 c5 w6 (by omega) (by omega)).mono ?_
        rintro e w7 ⟨rfl, b7⟩
        have hz7 := b7.size
        have b8 : Below w6.heap.size w6 (w7.alloc (.cells #[.int .i64 a1, .slice A5 m5 c5] 29)) := bel_al b7 (Nat.le_refl _) _
        have H8 := Lib.hid (bel_tr H6.out b8 (Nat.le_refl _))
        have B68 := Lib.hid b8
        clear b7 b8 t0 t1 t2 t3 p0 p1
        obtain ⟨t0, t1, t2, t3⟩ := CL.out _ H8.out
        have D8 := Lib.hid (D6.out.below B68.out)
        have DC8 := Lib.hid (DC6.out.below B68.out)
        obtain ⟨p0, p1⟩ := CX.out _ (bel_tr B56.out B68.out (Nat.le_refl _))
        have NX8 := Lib.hid (NX6.out.below B68.out)
        have yb0 : (w7.alloc (.cells #[.int .i64 a1, .slice A5 m5 c5] 29)).cell? ⟨w7.heap.size, 0, none⟩ = some (.int .i64 a1) := by simp
        have yb1 : (w7.alloc (.cells #[.int .i64 a1, .slice A5 m5 c5] 29)).cell? ⟨w7.heap.size, 1, none⟩ = some (.slice A5 m5 c5) := by simp
        have hz8 : Hid ((w7.alloc (.cells #[.int .i64 a1, .slice A5 m5 c5] 29)).heap.size = w7.heap.size + 1) := by show _ = _; simp
        go_wp2_with fail
        generalize w7.alloc (.cells #[.int .i64 a1, .slice A5 m5 c5] 29) = w8 at *
        have hz8' := hz8.out
        refine (bgLike_any A6 m6 c6 w8 DC8.out NX8.out (by omega)).mono ?_
        rintro e w9 ⟨rfl, b9⟩
        have H9 := Lib.hid (bel_tr H8.out b9 (Nat.le_refl _))
        have B9 := Lib.hid b9
        have DC9 := Lib.hid (DC8.out.below b9)
        have D9 := Lib.hid (D8.out.below b9)
        have hz9 := b9.size
        obtain ⟨r0, r1, r2, r3⟩ := CL.out _ H9.out
        have yc0 := (b9.cell (p := ⟨w7.heap.size, 0, none⟩) (by show w7.heap.size < _; omega)).trans yb0
        have yc1 := (b9.cell (p := ⟨w7.heap.size, 1, none⟩) (by show w7.heap.size < _; omega)).trans yb1
        clear b9 t0 t1 t2 t3 yb0 yb1 p0 p1
        go_wp2_with fail
        refine (bgLike_any A5 m5 c5 w9 D9.out (M3.out.nodes.below H9.out) (by omega)).mono ?_
        rintro e w10 ⟨rfl, b10⟩
        have H10 := Lib.hid (bel_tr H9.out b10 (Nat.le_refl _))
        have D10 := Lib.hid (D9.out.below b10)
        have DC10 := Lib.hid (DC9.out.below b10)
        have hz10 := b10.size
        clear b10
        go_wp2_with fail
        refine (bgAdd_any 0 1 w10 DC10.out (by omega) (by omega) (by omega) (by omega) (by omega)).mono ?_
        rintro e w11 ⟨vc2, rfl, _, k11, _⟩
        have b11 : Below w3.heap.size w10 w11 := bg_below DC10.out k11 (by omega)
        have H11 := Lib.hid (H10.out.trans b11)
        have hz11 := k11.size
        have D11 := Lib.hid (D10.out.kp k11 fun k hk q => by have := (D10.out.blocks k hk).1; have := (DC.out.blocks k q).2; omega)
        clear b11 k11
        go_wp2_with fail
        refine (bgAdd_any 0 1 w11 D11.out (by omega) (by omega) (by omega) (by omega) (by omega)).mono ?_
        rintro e w12 ⟨vd2, rfl, _, k12, _⟩
        have b12 : Below w3.heap.size w11 w12 := (bg_below D11.out k12 (by omega)).mono (by have := H5.out.size; omega)
        have H12 := Lib.hid (H11.out.trans b12)
        obtain ⟨s0, s1, s2, s3⟩ := CL.out _ H12.out
        clear b12 k12
        go_wp2_with fail
        refine (bgLike_any A5 m5 c5 w12 (M3.out.bag.below H12.out) (M3.out.nodes.below H12.out) (by omega)).mono ?_
        rintro e w13 ⟨rfl, b13⟩
        have BZ := Lib.hid (bel_tr BW3.out (bel_tr H12.out b13 (Nat.le_refl _)) (Nat.le_refl _))
        clear b13
        go_wp2_with (go_at_call 9; refine (bgAlive_any _).mono ?_; rintro e w14 ⟨rfl, b14⟩)
        go_ret
        exact ⟨rfl, bel_tr BZ.out b14 (Nat.le_refl _)⟩
    · have hi2 : a0 < 0 ∨ l ≤ a0 := by omega
      clear hi
      refine (bgImage_no a0 w3 M3.out.bag hi2).mono ?_
      rintro e w4 ⟨rfl, rfl⟩
      go_wp2_with fail
      refine (rgImage_no l a0 A5 m5 c5 w3 hi2).mono ?_
      rintro e w5a ⟨rfl, b5⟩
      have b5' : Below w3.heap.size w3 (w5a.alloc (.cells #[.int .i64 0, .slice none 0 0] 29)) := bel_al b5 (Nat.le_refl _) _
      have H5 := Lib.hid b5'
      have hz5 := b5'.size
      obtain ⟨t0, t1, t2, t3⟩ := CL.out _ b5'
      clear y0 y1 y2 y3 b5 b5'
      go_wp2_with fail
      generalize w5a.alloc (.cells #[.int .i64 0, .slice none 0 0] 29) = w5 at *
      clear t0 t1 t2 t3
      by_cases hw : a1 < l ∨ 48 < a1
      · refine (bgWider_no a1 w5 (M3.out.bag.below H5.out) hw).mono ?_
        rintro e w6 ⟨rfl, rfl⟩
        have b6 : Below w5.heap.size w5 w5 := Below.refl _ _
        have H6 := H5
        have hz6 := b6.size
        have B56 := Lib.hid b6
        clear b6
        obtain ⟨t0, t1, t2, t3⟩ := CL.out _ H6.out
        go_wp2_with fail
        refine (rgWider_no l a1 A5 m5 c5 w5 hw).mono ?_
        rintro e w7 ⟨rfl, b7⟩
        have hz7 := b7.size
        have b8 : Below w5.heap.size w5 (w7.alloc (.cells #[.int .i64 0, .slice none 0 0] 29)) := bel_al b7 (Nat.le_refl _) _
        have H8 := Lib.hid (bel_tr H6.out b8 (Nat.le_refl _))
        have B68 := Lib.hid b8
        clear b7 b8 t0 t1 t2 t3
        obtain ⟨t0, t1, t2, t3⟩ := CL.out _ H8.out
        have yb0 : (w7.alloc (.cells #[.int .i64 0, .slice none 0 0] 29)).cell? ⟨w7.heap.size, 0, none⟩ = some (.int .i64 0) := by simp
        have yb1 : (w7.alloc (.cells #[.int .i64 0, .slice none 0 0] 29)).cell? ⟨w7.heap.size, 1, none⟩ = some (.slice none 0 0) := by simp
        have hz8 : Hid ((w7.alloc (.cells #[.int .i64 0, .slice none 0 0] 29)).heap.size = w7.heap.size + 1) := by show _ = _; simp
        go_wp2_with fail
        generalize w7.alloc (.cells #[.int .i64 0, .slice none 0 0] 29) = w8 at *
        have hz8' := hz8.out
        refine (bgAdd_nil 0 1 w8).mono ?_
        rintro e w11 ⟨rfl, rfl⟩
        go_wp2_with fail
        refine (bgAdd_nil 0 1 w8).mono ?_
        rintro e w12 ⟨rfl, rfl⟩
        obtain ⟨s0, s1, s2, s3⟩ := CL.out _ H8.out
        go_wp2_with fail
        refine (bgLike_any A5 m5 c5 w8 (M3.out.bag.below H8.out) (M3.out.nodes.below H8.out) (by omega)).mono ?_
        rintro e w13 ⟨rfl, b13⟩
        have BZ := Lib.hid (bel_tr BW3.out (bel_tr H8.out b13 (Nat.le_refl _)) (Nat.le_refl _))
        clear b13
        go_wp2_with (go_at_call 9; refine (bgAlive_any _).mono ?_; rintro e w14 ⟨rfl, b14⟩)
        go_ret
        exact ⟨rfl, bel_tr BZ.out b14 (Nat.le_refl _)⟩
      · have v0 : l ≤ a1 := by omega
        have v1 : a1 ≤ 48 := by omega
        clear hw
        refine (bgWider_any a1 w5 (M3.out.bag.below H5.out) (by omega) v0 v1).mono ?_
        rintro e w6 ⟨gd, vd, rfl, d6, b6⟩
        have H6 := Lib.hid (bel_tr H5.out b6 (Nat.le_refl _))
        have D6 := Lib.hid d6
        have hz6 := b6.size
        have B56 := Lib.hid b6
        clear b6 d6
        obtain ⟨t0, t1, t2, t3⟩ := CL.out _ H6.out
        go_wp2_with fail
        refine (rgWider_any l a1 A5 m5 c5 w6 (by omega) (by omega)).mono ?_
        rintro e w7 ⟨rfl, b7⟩
        have hz7 := b7.size
        have b8 : Below w6.heap.size w6 (w7.alloc (.cells #[.int .i64 a1, .slice A5 m5 c5] 29)) := bel_al b7 (Nat.le_refl _) _
        have H8 := Lib.hid (bel_tr H6.out b8 (Nat.le_refl _))
        have B68 := Lib.hid b8
        clear b7 b8 t0 t1 t2 t3
        obtain ⟨t0, t1, t2, t3⟩ := CL.out _ H8.out
        have D8 := Lib.hid (D6.out.below B68.out)
        have yb0 : (w7.alloc (.cells #[.int .i64 a1, .slice A5 m5 c5] 29)).cell? ⟨w7.heap.size, 0, none⟩ = some (.int .i64 a1) := by simp
        have yb1 : (w7.alloc (.cells #[.int .i64 a1, .slice A5 m5 c5] 29)).cell? ⟨w7.heap.size, 1, none⟩ = some (.slice A5 m5 c5) := by simp
        have hz8 : Hid ((w7.alloc (.cells #[.int .i64 a1, .slice A5 m5 c5] 29)).heap.size = w7.heap.size + 1) := by show _ = _; simp
        go_wp2_with fail
        generalize w7.alloc (.cells #[.int .i64 a1, .slice A5 m5 c5] 29) = w8 at *
        have hz8' := hz8.out
        refine (bgLike_any A5 m5 c5 w8 D8.out (M3.out.nodes.below H8.out) (by omega)).mono ?_
        rintro e w10 ⟨rfl, b10⟩
        have H10 := Lib.hid (bel_tr H8.out b10 (Nat.le_refl _))
        have D10 := Lib.hid (D8.out.below b10)
        have hz10 := b10.size
        clear b10
        go_wp2_with fail
        refine (bgAdd_nil 0 1 w10).mono ?_
        rintro e w11 ⟨rfl, rfl⟩
        go_wp2_with fail
        refine (bgAdd_any 0 1 w10 D10.out (by omega) (by omega) (by omega) (by omega) (by omega)).mono ?_
        rintro e w12 ⟨vd2, rfl, _, k12, _⟩
        have b12 : Below w3.heap.size w10 w12 := (bg_below D10.out k12 (by omega)).mono (by have := H5.out.size; omega)
        have H12 := Lib.hid (H10.out.trans b12)
        obtain ⟨s0, s1, s2, s3⟩ := CL.out _ H12.out
        clear b12 k12
        go_wp2_with fail
        refine (bgLike_any A5 m5 c5 w12 (M3.out.bag.below H12.out) (M3.out.nodes.below H12.out) (by omega)).mono ?_
        rintro e w13 ⟨rfl, b13⟩
        have BZ := Lib.hid (bel_tr BW3.out (bel_tr H12.out b13 (Nat.le_refl _)) (Nat.le_refl _))
        clear b13
        go_wp2_with (go_at_call 9; refine (bgAlive_any _).mono ?_; rintro e w14 ⟨rfl, b14⟩)
        go_ret
        exact ⟨rfl, bel_tr BZ.out b14 (Nat.le_refl _)⟩
  · rcases (show ¬ n ≤ 60 ∨ (n ≤ 60 ∧ l < 1) ∨ (n ≤ 60 ∧ ¬ l < 1 ∧ 48 < l) by omega) with q | ⟨q, q2⟩ | ⟨q, q2, q3⟩
    all_goals
      clear hn
      go_enter Try.func6, Try.ntmps6
      go_wp2_with (go_at_call 9; refine (bgAlive_any _).mono ?_; rintro e w3 ⟨rfl, b3⟩)
      go_ret
      exact ⟨rfl, HB0.out.trans (b3.mono HB0.out.size)⟩

end Go.Proofs.Ytfleaaokbjgljaa
