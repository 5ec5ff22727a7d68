/- The walk of BagPlays. -/
import Derived.Test.YtfleaaokbjgljaaBgLaw2
namespace Go.Proofs.Ytfleaaokbjgljaa
set_option linter.unusedVariables false
set_option maxRecDepth 100000
open Go.RowKit
attribute [local go_sem ↓] Go.wp_at_zero Go.wp_at_succ

/-- a bag that holds S, and a box of the document's one that holds S2, whose row is none of the bag's -/
structure PlayI (w0 wr : World) (g O : Nat) (l : Int) (S S2 : List Nd) (v X : Value) : Prop where
  bag : BgA wr w0.heap.size g l S v
  box : wr.ownsRow w0.heap.size 29 2 (.slice (some ⟨O, 0, none⟩) 1 1) 1 [.int .i64 l, X]
  nodes : NodesAt wr X S2
  own : X = .slice none 0 0 ∨ OwnNd 31 wr w0.heap.size X S2
  apart : ∀ k, X.ownBlock = some k → ¬ bgF g v k
  below : Below w0.heap.size w0 wr
section
variable {w0 wr w' : World} {g O : Nat} {l : Int} {S S2 : List Nd} {v X : Value}
theorem PlayI.to (p : PlayI w0 wr g O l S S2 v X) (hb : Below wr.heap.size wr w') : PlayI w0 w' g O l S S2 v X :=
  ⟨p.bag.below hb, own_below p.box hb, p.nodes.below hb, p.own.imp id (fun q => own_below q hb), p.apart, p.below.trans (hb.mono p.below.size)⟩
theorem PlayI.far (p : PlayI w0 wr g O l S S2 v X) : ¬ bgF g v O := fun h => by
  rcases h with h | h
  · subst h
    rcases own_apart p.box p.bag.top (by decide) with q | q
    · simp [Value.ownBlock] at q
    · exact q rfl
  · rcases own_apart p.box p.bag.row (by decide) with q | q
    · simp [Value.ownBlock] at q
    · exact q (by rw [h]; rfl)
theorem PlayI.lt (p : PlayI w0 wr g O l S S2 v X) : w0.heap.size ≤ O ∧ O < wr.heap.size := p.box.lt O rfl
theorem PlayI.cells (p : PlayI w0 wr g O l S S2 v X) : wr.cell? ⟨O, 0, none⟩ = some (.int .i64 l) ∧ wr.cell? ⟨O, 1, none⟩ = some X ∧ wr.frozen? ⟨O, 0, none⟩ = false ∧ wr.frozen? ⟨O, 1, none⟩ = false :=
  ⟨p.box.cellAt 0 (by omega), p.box.cellAt 1 (by omega), p.box.frozenAt 0, p.box.frozenAt 1⟩
/-- the document's answer is stored -/
theorem PlayI.put {Y : Value} {T : List Nd} (p : PlayI w0 wr g O l S S v X) {w4 : World} {N : Nat} (hb : Below wr.heap.size wr w4) (nd : NodesAt w4 Y T) (own : Y = X ∨ OwnNd 31 w4 N Y T) (hN : wr.heap.size ≤ N) :
    PlayI w0 ((w4.setCell ⟨O, 0, none⟩ (.int .i64 l)).setCell ⟨O, 1, none⟩ Y) g O l S T v Y := by
  have q := p.to hb
  have hO := p.lt
  have K : Kp (fun k => k = O) w4 ((w4.setCell ⟨O, 0, none⟩ (.int .i64 l)).setCell ⟨O, 1, none⟩ Y) := by
    have a : Kp (fun k => k = O) w4 (w4.setCell ⟨O, 0, none⟩ (.int .i64 l)) := Kp.setCell w4 ⟨O, 0, none⟩ _
    exact a.set (b := O) (o := 1) _ (fun _ => rfl)
  have bx := ((q.box.stored 0 (.int .i64 l)).1.stored 1 Y).1
  have far := q.far
  have bag := q.bag.kp K fun k hk e => far (by subst e; exact hk)
  have bel : Below w0.heap.size w0 ((w4.setCell ⟨O, 0, none⟩ (.int .i64 l)).setCell ⟨O, 1, none⟩ Y) := (q.below.setCell (p := ⟨O, 0, none⟩) hO.1 _).setCell (p := ⟨O, 1, none⟩) hO.1 _
  have main : (Y = .slice none 0 0 ∧ T = [] ∧ ∀ k, Y.ownBlock = some k → ¬ bgF g v k) ∨ (OwnNd 31 w4 w0.heap.size Y T ∧ ∀ k, Y.ownBlock = some k → ¬ bgF g v k) := by
    rcases own with e | o
    · subst e
      rcases q.own with r | r
      · subst r
        exact .inl ⟨rfl, (nodes_none nd).2.2, p.apart⟩
      · have e := nodes_uniq nd (ownNd_nodes r)
        subst e
        exact .inr ⟨r, p.apart⟩
    · refine .inr ⟨own_low o (by have := p.below.size; omega), fun k hk h => ?_⟩
      have a := (o.lt k hk).1
      have b := (p.bag.blocks k h).2
      omega
  rcases main with ⟨e, e2, ap⟩ | ⟨o, ap⟩
  · refine ⟨bag, bx, ?_, .inl e, ap, bel⟩
    rw [e, e2]; exact nodes_nil _
  · have hne : Y.ownBlock ≠ some O := fun e => by
      rcases own_apart q.box o (by decide) with s | s
      · simp [Value.ownBlock] at s
      · exact s e.symm
    have o2 := ownsRow_setCell_other (ownsRow_setCell_other o (a := ⟨O, 0, none⟩) hne (.int .i64 l)) (a := ⟨O, 1, none⟩) hne Y
    exact ⟨bag, bx, ownNd_nodes o2, .inr o2, ap, bel⟩
/-- the program's bag is changed -/
theorem PlayI.add {v2 : Value} {T : List Nd} (p : PlayI w0 wr g O l S S2 v X) (d : BgA w' w0.heap.size g l T v2) (k : Kp (bgF g v) wr w') (a : At2 wr v v2) : PlayI w0 w' g O l T S2 v2 X := by
  have far := p.far
  have bel : Below w0.heap.size w0 w' := p.below.trans (bg_below p.bag k p.below.size)
  have own2 : OwnNd 31 wr w0.heap.size X S2 → OwnNd 31 w' w0.heap.size X S2 := fun o => own_kp o k fun j e h => p.apart j e h
  refine ⟨d, own_kp p.box k (fun j e h => far (by simp [Value.ownBlock] at e; subst e; exact h)), ?_, p.own.imp id own2, fun j e h => ?_, bel⟩
  · rcases p.own with e | o
    · have n := p.nodes
      rw [e] at n ⊢
      rw [(nodes_none n).2.2]; exact nodes_nil _
    · exact ownNd_nodes (own2 o)
  · have hj : j < wr.heap.size := by
      rcases p.own with q | q
      · rw [q] at e; simp [Value.ownBlock] at e
      · exact (q.lt j e).2
    rcases h with h | h
    · exact p.apart j e (.inl h)
    · rcases a j h with q | q
      · exact p.apart j e (.inr q)
      · omega
end
set_option maxHeartbeats 6400000 in
theorem walk_bagPlays (l : Int) (A : Option Addr) (n c : Nat) (R : List Nd) (L0 : -9223372036854775808 ≤ l) (L1 : l ≤ 9223372036854775807) (hB : NBds R) (hc : n ≤ 9223372036854775807) (w : World) (h : NodesAt w (.slice A n c) R) :
    Calls Try.prog 3 #[.int .i64 l, .slice A n c] w fun e w' => e = .returned (.bool true) ∧ Below w.heap.size w w' := by
  have HN := Lib.hid h
  have HNB := Lib.hid hB
  have hL := Lib.hid (nodes_cells h).1
  clear h hB hc
  by_cases hn : n ≤ 100
  · by_cases hu : 1 ≤ l ∧ l ≤ 48
    · have HU := Lib.hid hu
      obtain ⟨u0, u1⟩ := hu
      go_enter Try.func3, Try.ntmps3
      go_wp2_with fail
      refine (bgNew_any l w HU.out).mono ?_
      rintro e w1 ⟨g, rfl, d1, b1⟩
      have z1 := b1.size
      have START : Hid (PlayI w (w1.alloc (.cells #[.int .i64 l, .slice none 0 0] 29)) g w1.heap.size l (ofS l (R.take 0)) (ofS l (R.take 0)) (.slice none 0 0) (.slice none 0 0)) :=
        ⟨d1.below ((Below.refl _ _).alloc (Nat.le_refl _) _), own_low (bx2 ..) z1, nodes_nil _, .inl rfl, fun k e => by simp [Value.ownBlock] at e, b1.alloc z1 _⟩
      clear d1 b1
      go_wp2_with fail
      go_loopw [46] (fun i wr => ∃ (k : Nat) (v : Value) (A5 : Option Addr) (m5 c5 : Nat), i = .int .i64 (k : Int) ∧ k ≤ n ∧ PlayI w wr g w1.heap.size l (ofS l (R.take k)) (ofS l (R.take k)) v (.slice A5 m5 c5)) (fun i _ => n - (intOf i).toNat)
      case atStart => exact ⟨0, _, none, 0, 0, rfl, Nat.zero_le _, START.out⟩
      case round =>
        obtain ⟨k, v, A5, m5, c5, rfl, hk, p⟩ := hrel
        have PI := Lib.hid p
        obtain ⟨o0, o1, g0, g1⟩ := p.cells
        have hO := p.lt
        have zs := p.below.size
        have HBK := Lib.hid p.below
        clear p
        by_cases hlt : k < n
        · have hkM : k < R.length := by have := hL.out; omega
          obtain ⟨b1, o, rfl, hin⟩ := (nodes_cells (HN.out.below HBK.out)).2.2.2 (by omega)
          obtain ⟨e0, e1⟩ := hin.2 k hkM
          have PS := of_step (l := l) hkM
          have bd := nbds_at HNB.out hkM
          have ob := of_bag HU.out (R.take k)
          have ol := of_len l (R.take k)
          have ol2 : (ofS l (R.take k)).length ≤ 1000 := by rw [List.length_take] at ol; have := hL.out; omega
          have ol3 : Hid ((ofS l (R.take (k + 1))).length ≤ 1000) := by have := of_len l (R.take (k + 1)); rw [List.length_take] at this; have := hL.out; show _ ≤ _; omega
          obtain ⟨ee, hee⟩ : ∃ ee, bagE l (ofS l (R.take k)) (R.getD k nz).1 (R.getD k nz).2 = ee := ⟨_, rfl⟩
          have ADD := Lib.hid (fun w4 (q : Below wr.heap.size wr w4) => rgAdd_any l (R.getD k nz).1 (R.getD k nz).2 A5 m5 c5 (ofS l (R.take k)) w4 (PI.out.nodes.below q) ob (by have a := (nodes_cells PI.out.nodes).1; omega) bd.1.1 bd.1.2 bd.2.1 bd.2.2)
          have BAD := Lib.hid (fun (w4 : World) (X : Value) (p : PlayI w w4 g w1.heap.size l (ofS l (R.take k)) (ofS l (R.take (k + 1))) v X) => bgAdd_any (R.getD k nz).1 (R.getD k nz).2 w4 p.bag (by omega) bd.1.1 bd.1.2 bd.2.1 bd.2.2)
          rw [PS, hee] at ADD BAD
          have k0 : (0 : Int) ≤ (k : Int) := Int.natCast_nonneg _
          have k1 : (k : Int) < (n : Int) := by omega
          have hbl : Hid (b1 < wr.heap.size) := hin.1
          clear hin PS bd ob ol ol2 hee
          generalize R.getD k nz = r at *
          obtain ⟨r1, r2⟩ := r
          dsimp only at e0 e1 ADD BAD
          have BD : Hid (Below wr.heap.size wr (wr.alloc (.cells #[.int .i64 r1, .int .i64 r2] 31))) := (Below.refl _ _).alloc (Nat.le_refl _) _
          have PB := Lib.hid (PI.out.to BD.out)
          have t0 := (BD.out.cell (p := ⟨w1.heap.size, 0, none⟩) hO.2).trans o0
          have t1 := (BD.out.cell (p := ⟨w1.heap.size, 1, none⟩) hO.2).trans o1
          have xb0 : (wr.alloc (.cells #[.int .i64 r1, .int .i64 r2] 31)).cell? ⟨wr.heap.size, 0, none⟩ = some (.int .i64 r1) := by simp
          have xb1 : (wr.alloc (.cells #[.int .i64 r1, .int .i64 r2] 31)).cell? ⟨wr.heap.size, 1, none⟩ = some (.int .i64 r2) := by simp
          have hzB : Hid ((wr.alloc (.cells #[.int .i64 r1, .int .i64 r2] 31)).heap.size = wr.heap.size + 1) := by show _ = _; simp
          go_wp2_with fail
          generalize wr.alloc (.cells #[.int .i64 r1, .int .i64 r2] 31) = wx at *
          refine (ADD.out _ BD.out).mono ?_
          rintro e w4 ⟨A6, m6, c6, rfl, nd4, hb4, own4⟩
          have PUT := Lib.hid ((PB.out.put hb4 nd4 own4 (Nat.le_refl _)).to ((Below.refl _ _).alloc (Nat.le_refl _) (.cells #[.int .i64 l, .slice A6 m6 c6] 29)))
          obtain ⟨s0, s1, s2, s3⟩ := (PB.out.to hb4).cells
          have xw0 := (hb4.cell (p := ⟨wr.heap.size, 0, none⟩) (by have := hzB.out; show wr.heap.size < _; omega)).trans xb0
          have xw1 := (hb4.cell (p := ⟨wr.heap.size, 1, none⟩) (by have := hzB.out; show wr.heap.size < _; omega)).trans xb1
          have hz4 : wr.heap.size < w4.heap.size := by have := hb4.size; have := hzB.out; omega
          have hne1 : ¬ wr.heap.size = w1.heap.size := by omega
          have hne2 : ¬ w1.heap.size = wr.heap.size := by omega
          have hOw4 : w1.heap.size < w4.heap.size := by omega
          clear nd4 own4 ADD t0 t1 xb0 xb1
          go_wp2_with fail
          generalize ((w4.setCell ⟨w1.heap.size, 0, none⟩ (.int .i64 l)).setCell ⟨w1.heap.size, 1, none⟩ (.slice A6 m6 c6)).alloc (.cells #[.int .i64 l, .slice A6 m6 c6] 29) = w5 at *
          refine (BAD.out w5 _ PUT.out).mono ?_
          rintro e w6 ⟨v6, rfl, d6, k6, a6⟩
          have P6 := Lib.hid (PUT.out.add d6 k6 a6)
          obtain ⟨y0, y1, _, _⟩ := P6.out.cells
          clear d6 k6 a6 BAD s0 s1 s2 s3 xw0 xw1
          go_wp2_with fail
          refine (bgLike_any A6 m6 c6 w6 P6.out.bag P6.out.nodes (by have := ol3.out; omega)).mono ?_
          rintro e w7 ⟨rfl, hb7⟩
          go_wp2_with fail
          go_roundw
          case rel => exact ⟨k + 1, v6, A6, m6, c6, by go_num, by omega, P6.out.to hb7⟩
          case measure => simp [intOf]; omega
        · go_wp2_with fail
          refine (bgAlive_any wr).mono ?_
          rintro e w4 ⟨rfl, hb4⟩
          go_wp2_with fail
          go_ret
          exact ⟨rfl, HBK.out.trans (hb4.mono HBK.out.size)⟩
    · have NEW := Lib.hid (fun w1 => bgNew_no l w1 hu)
      have hq1 : ∀ w, (binOp .eql 24 (.pointer none) (.pointer none)).run Try.prog w = .ok (.bool true) w := fun _ => by kernel_rfl
      rcases (show l < 1 ∨ (¬ l < 1 ∧ 48 < l) by omega) with q | ⟨q, q2⟩
      all_goals
        clear hu
        go_enter Try.func3, Try.ntmps3
        go_wp2_with (first | (go_at_call 10; refine (NEW.out _).mono ?_; rintro e w1 ⟨rfl, rfl⟩) | (go_at_call 9; refine (bgAlive_any _).mono ?_; rintro e w3 ⟨rfl, b3⟩))
        go_ret
        exact ⟨rfl, b3⟩
  · go_enter Try.func3, Try.ntmps3
    go_wp2_with (go_at_call 9; refine (bgAlive_any _).mono ?_; rintro e w3 ⟨rfl, b3⟩)
    go_ret
    exact ⟨rfl, b3⟩

end Go.Proofs.Ytfleaaokbjgljaa
