/- Texts laid together: DgLaw, DgLaw2, DgLaw5. -/
import Derived.Test.YtkhacpapkalkiaaGreatDgQ
import Derived.Test.YtkhacpapkalkiaaGreatRrQ
import Derived.Test.YtkhacpapkalkiaaGreatDgR
import Derived.Test.YtkhacpapkalkiaaGreatDrQ
/- What the statements of layer digest call: Do, and the chapter's example (alive). -/
namespace Go.Proofs.YtkhacpapkalkiaaGreat
set_option linter.unusedVariables false
set_option maxRecDepth 100000
open Go.RowKit

theorem dgSame_below {P : Program} {f : FuncId} {args : Array Value} {L M : List Nd} {w : World} (h : Calls P f args w (SamePost L M w)) : Calls P f args w fun e w' => e = .returned (.bool (sameB L M)) ∧ Below w.heap.size w w' :=
  h.mono fun _ _ ⟨a, q, b⟩ => ⟨a, by rw [b]; exact drewN_below (Below.refl _ _) q⟩
theorem dgLdo_one {l k : Int} {L : List Nd} {x c : Int} : dgDo l k L 1 x c = pressW l k L ∧ dgTell l k L 1 x c = (pressN l k L : Int) := ⟨rfl, rfl⟩
theorem dgLdo_two {l k : Int} {L : List Nd} {x c : Int} : dgDo l k L 2 x c = [] ∧ dgTell l k L 2 x c = 0 := ⟨rfl, rfl⟩
theorem dgLdo_else {l k kd : Int} {L : List Nd} {x c : Int} (h1 : ¬ kd = 1) (h2 : ¬ kd = 2) : dgDo l k L kd x c = dgIns l k L x c ∧ dgTell l k L kd x c = dgE l L x c := by
  unfold dgDo dgTell
  rw [if_neg h1, if_neg h1, if_neg h2, if_neg h2]
  exact ⟨rfl, rfl⟩
theorem dgPost_from {B q p g h : Nat} {kd l k : Int} {n m : Nat} {M : List Nd} {x : Int} {w w0 w' : World} {v : Value} (hb : Below w.heap.size w w0) (hm : n ≤ m) (f : ∃ p' g' h', DgA w' B q p' g' h' kd l k n M ∧ Kp (dgF q p g h) w0 w' ∧ ∀ i, dgF q p' g' h' i → dgF q p g h i ∨ w0.heap.size ≤ i) :
    DgPost B q p g h kd l k m M x w (.returned (.int .i64 x)) w' := by
  obtain ⟨p', g', h', a, b, c⟩ := f
  exact ⟨rfl, p', g', h', a.more hm, (Kp.of (F := dgF q p g h) hb).trans b (fun i _ z => z), fun i z => (c i z).imp (fun z => z) fun z => by have := hb.size; omega⟩
set_option maxHeartbeats 1600000 in
theorem dgLdo_any {B q p g h : Nat} {kd l k : Int} {n : Nat} {L : List Nd} (op x c : Int) (w : World) (d : DgA w B q p g h kd l k n L) (hn : n ≤ 400)
    (A0 : -9223372036854775808 ≤ x) (A1 : x ≤ 9223372036854775807) (B0 : -9223372036854775808 ≤ c) (B1 : c ≤ 9223372036854775807) :
    Calls Tryz.prog 44 #[.pointer (some ⟨q, 0, none⟩), .agg #[.int .i64 op, .int .i64 x, .int .i64 c]] w (DgPost B q p g h kd l k (n + 1) (dgDo l k L op x c) (dgTell l k L op x c) w) := by
  have HB0 : Hid (Below w.heap.size w (w.alloc (.cells #[.int .i64 op, .int .i64 x, .int .i64 c] 92))) := (Below.refl _ _).alloc (Nat.le_refl _) _
  obtain ⟨x0, x1, x2, _, _, _, hz⟩ := tri_all (tri_nw w 92 (.int .i64 op) (.int .i64 x) (.int .i64 c))
  have D0 := Lib.hid (d.below HB0.out)
  clear d
  by_cases h1 : op = 1
  · subst h1
    rw [dgLdo_one.1, dgLdo_one.2]
    have CP := Lib.hid (dgCompress_any _ D0.out hn)
    generalize pressW l k L = M at *
    generalize ((pressN l k L : Nat) : Int) = t at *
    go_enter Tryz.func44, Tryz.ntmps44
    go_wp2_with fail
    generalize w.alloc (.cells #[.int .i64 1, .int .i64 x, .int .i64 c] 92) = W at *
    refine CP.out.mono ?_
    rintro e w1 ⟨rfl, q1⟩
    have E := Lib.hid (dgPost_from (x := t) (v := .int .i64 t) HB0.out (Nat.le_succ n) q1)
    clear q1
    go_wp2_with fail
    go_ret
    exact E.out
  · by_cases h2 : op = 2
    · subst h2
      rw [dgLdo_two.1, dgLdo_two.2]
      have CP := Lib.hid (dgReset_any _ D0.out)
      clear h1
      go_enter Tryz.func44, Tryz.ntmps44
      go_wp2_with fail
      generalize w.alloc (.cells #[.int .i64 2, .int .i64 x, .int .i64 c] 92) = W at *
      refine CP.out.mono ?_
      rintro e w1 ⟨rfl, q1⟩
      have E := Lib.hid (dgPost_from (x := 0) (v := .int .i64 0) HB0.out (Nat.le_succ n) q1)
      clear q1
      go_wp2_with fail
      go_ret
      exact E.out
    · rw [(dgLdo_else h1 h2).1, (dgLdo_else h1 h2).2]
      have CP := Lib.hid (dgInsert_any x c _ D0.out hn A0 A1 B0 B1)
      have b1 : (op == 1) = false := beq_eq_false_iff_ne.2 h1
      have b2 : (op == 2) = false := beq_eq_false_iff_ne.2 h2
      clear h1 h2
      generalize dgIns l k L x c = M at *
      generalize dgE l L x c = t at *
      go_enter Tryz.func44, Tryz.ntmps44
      go_wp2_with fail
      generalize w.alloc (.cells #[.int .i64 op, .int .i64 x, .int .i64 c] 92) = W at *
      refine CP.out.mono ?_
      rintro e w1 ⟨rfl, q1⟩
      have E := Lib.hid (dgPost_from (x := t) (v := .int .i64 t) HB0.out (Nat.le_refl _) q1)
      clear q1
      go_wp2_with fail
      go_ret
      exact E.out
end Go.Proofs.YtkhacpapkalkiaaGreat

/- What the statements of layer digest call: is a digest the document's (like)? -/
namespace Go.Proofs.YtkhacpapkalkiaaGreat
set_option linter.unusedVariables false
set_option maxRecDepth 100000
open Go.RowKit

theorem keep_sixD {W a b : World} {p0 p1 p2 p3 p4 p5 : Addr} {x0 x1 x2 x3 x4 x5 : Value} (h : a.cell? p0 = some x0 ∧ a.cell? p1 = some x1 ∧ a.cell? p2 = some x2 ∧ a.cell? p3 = some x3 ∧ a.cell? p4 = some x4 ∧ a.cell? p5 = some x5 ∧ Below W.heap.size W a) (hb : Below a.heap.size a b)
    (q0 : p0.block < W.heap.size) (q1 : p1.block < W.heap.size) (q2 : p2.block < W.heap.size) (q3 : p3.block < W.heap.size) (q4 : p4.block < W.heap.size) (q5 : p5.block < W.heap.size) :
    b.cell? p0 = some x0 ∧ b.cell? p1 = some x1 ∧ b.cell? p2 = some x2 ∧ b.cell? p3 = some x3 ∧ b.cell? p4 = some x4 ∧ b.cell? p5 = some x5 ∧ Below W.heap.size W b := by
  obtain ⟨h0, h1, h2, h3, h4, h5, h6⟩ := h
  have hz := h6.size
  exact ⟨(hb.cell (by omega)).trans h0, (hb.cell (by omega)).trans h1, (hb.cell (by omega)).trans h2, (hb.cell (by omega)).trans h3, (hb.cell (by omega)).trans h4, (hb.cell (by omega)).trans h5, h6.trans (hb.mono hz)⟩
theorem below_six {W a : World} {p0 p1 p2 p3 p4 p5 : Addr} {x0 x1 x2 x3 x4 x5 : Value} (h : a.cell? p0 = some x0 ∧ a.cell? p1 = some x1 ∧ a.cell? p2 = some x2 ∧ a.cell? p3 = some x3 ∧ a.cell? p4 = some x4 ∧ a.cell? p5 = some x5 ∧ Below W.heap.size W a) : Below W.heap.size W a := h.2.2.2.2.2.2
end Go.Proofs.YtkhacpapkalkiaaGreat

/- The walk of the statement DigestPlays of layer digest: for every input it returns true, and nothing that was there before is changed. -/
namespace Go.Proofs.YtkhacpapkalkiaaGreat
set_option linter.unusedVariables false
set_option maxRecDepth 100000
open Go.RowKit

end Go.Proofs.YtkhacpapkalkiaaGreat
