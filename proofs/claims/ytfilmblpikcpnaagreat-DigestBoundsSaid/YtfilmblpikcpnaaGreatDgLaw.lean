/- What the statements of layer digest call: Do, and the chapter's example (alive). -/
import Derived.Test.YtfilmblpikcpnaaGreatDgQ
import Derived.Test.YtfilmblpikcpnaaGreatRrQ
namespace Go.Proofs.YtfilmblpikcpnaaGreat
set_option linter.unusedVariables false
set_option maxRecDepth 100000
open Go.RowKit

theorem dgSame_below {P : Program} {f : FuncId} {args : Array Value} {L M : List Nd} {w : World} (h : Calls P f args w (SamePost L M w)) : Calls P f args w fun e w' => e = .returned (.bool (sameB L M)) ∧ Below w.heap.size w w' :=
  h.mono fun _ _ ⟨a, q, b⟩ => ⟨a, by rw [b]; exact drewN_below (Below.refl _ _) q⟩
theorem dgLdo_one {l k : Int} {L : List Nd} {x c : Int} : dgDo l k L 1 x c = pressW l k L ∧ dgTell l k L 1 x c = (pressN l k L : Int) := ⟨rfl, rfl⟩
theorem dgLdo_two {l k : Int} {L : List Nd} {x c : Int} : dgDo l k L 2 x c = [] ∧ dgTell l k L 2 x c = 0 := ⟨rfl, rfl⟩
theorem dgLdo_else {l k kd : Int} {L : List Nd} {x c : Int} (h1 : ¬ kd = 1) (h2 : ¬ kd = 2) : dgDo l k L kd x c = dgIns l k L x c ∧ dgTell l k L kd x c = dgE l L x c := by
  unfold dgDo dgTell
  rw [if_neg h1, if_neg h1, if_neg h2, if_neg h2]
  exact ⟨rfl, rfl⟩
theorem dgPost_from {B q p g h : Nat} {kd l k : Int} {n m : Nat} {M : List Nd} {x : Int} {w w0 w' : World} {v : Value} (hb : Below w.heap.size w w0) (hm : n ≤ m) (f : ∃ p' g' h', DgA w' B q p' g' h' kd l k n M ∧ Kp (dgF q p g h) w0 w' ∧ ∀ i, dgF q p' g' h' i → dgF q p g h i ∨ w0.heap.size ≤ i) :
    DgPost B q p g h kd l k m M x w (.returned (.int .i64 x)) w' := by
  obtain ⟨p', g', h', a, b, c⟩ := f
  exact ⟨rfl, p', g', h', a.more hm, (Kp.of (F := dgF q p g h) hb).trans b (fun i _ z => z), fun i z => (c i z).imp (fun z => z) fun z => by have := hb.size; omega⟩
set_option maxHeartbeats 1600000 in
theorem dgLdo_any {B q p g h : Nat} {kd l k : Int} {n : Nat} {L : List Nd} (op x c : Int) (w : World) (d : DgA w B q p g h kd l k n L) (hn : n ≤ 400)
    (A0 : -9223372036854775808 ≤ x) (A1 : x ≤ 9223372036854775807) (B0 : -9223372036854775808 ≤ c) (B1 : c ≤ 9223372036854775807) :
    Calls Tryz.prog 15 #[.pointer (some ⟨q, 0, none⟩), .agg #[.int .i64 op, .int .i64 x, .int .i64 c]] w (DgPost B q p g h kd l k (n + 1) (dgDo l k L op x c) (dgTell l k L op x c) w) := by
  have HB0 : Hid (Below w.heap.size w (w.alloc (.cells #[.int .i64 op, .int .i64 x, .int .i64 c] 39))) := (Below.refl _ _).alloc (Nat.le_refl _) _
  obtain ⟨x0, x1, x2, _, _, _, hz⟩ := tri_all (tri_nw w 39 (.int .i64 op) (.int .i64 x) (.int .i64 c))
  have D0 := Lib.hid (d.below HB0.out)
  clear d
  by_cases h1 : op = 1
  · subst h1
    rw [dgLdo_one.1, dgLdo_one.2]
    have CP := Lib.hid (dgCompress_any _ D0.out hn)
    generalize pressW l k L = M at *
    generalize ((pressN l k L : Nat) : Int) = t at *
    go_enter Tryz.func15, Tryz.ntmps15
    go_wp2_with fail
    generalize w.alloc (.cells #[.int .i64 1, .int .i64 x, .int .i64 c] 39) = W at *
    refine CP.out.mono ?_
    rintro e w1 ⟨rfl, q1⟩
    have E := Lib.hid (dgPost_from (x := t) (v := .int .i64 t) HB0.out (Nat.le_succ n) q1)
    clear q1
    go_wp2_with fail
    go_ret
    exact E.out
  · by_cases h2 : op = 2
    · subst h2
      rw [dgLdo_two.1, dgLdo_two.2]
      have CP := Lib.hid (dgReset_any _ D0.out)
      clear h1
      go_enter Tryz.func15, Tryz.ntmps15
      go_wp2_with fail
      generalize w.alloc (.cells #[.int .i64 2, .int .i64 x, .int .i64 c] 39) = W at *
      refine CP.out.mono ?_
      rintro e w1 ⟨rfl, q1⟩
      have E := Lib.hid (dgPost_from (x := 0) (v := .int .i64 0) HB0.out (Nat.le_succ n) q1)
      clear q1
      go_wp2_with fail
      go_ret
      exact E.out
    · rw [(dgLdo_else h1 h2).1, (dgLdo_else h1 h2).2]
      have CP := Lib.hid (dgInsert_any x c _ D0.out hn A0 A1 B0 B1)
      have b1 : (op == 1) = false := beq_eq_false_iff_ne.2 h1
      have b2 : (op == 2) = false := beq_eq_false_iff_ne.2 h2
      clear h1 h2
      generalize dgIns l k L x c = M at *
      generalize dgE l L x c = t at *
      go_enter Tryz.func15, Tryz.ntmps15
      go_wp2_with fail
      generalize w.alloc (.cells #[.int .i64 op, .int .i64 x, .int .i64 c] 39) = W at *
      refine CP.out.mono ?_
      rintro e w1 ⟨rfl, q1⟩
      have E := Lib.hid (dgPost_from (x := t) (v := .int .i64 t) HB0.out (Nat.le_refl _) q1)
      clear q1
      go_wp2_with fail
      go_ret
      exact E.out
def alL : List Nd := [(8, 1), (9, 1), (10, 1), (11, 1), (12, 1), (13, 1), (14, 1), (15, 1)]
def alM : List Nd := [(8, 2), (9, 1), (10, 1), (11, 1), (12, 1), (13, 1), (14, 1), (15, 1)]
theorem al_is : kIs 1 = true ∧ isP 2 3 = true := by decide
theorem al_ins : ∀ j : Fin 8, dgE 3 (alL.take j.1) (j.1 : Int) 1 = 0 ∧ dgIns 3 1 (alL.take j.1) (j.1 : Int) 1 = alL.take (j.1 + 1) := by decide +kernel
theorem al_last : dgE 3 (alL.take 8) 0 1 = 0 ∧ dgIns 3 1 (alL.take 8) 0 1 = alM ∧ sumC alM = 9 ∧ pressW 3 1 alM = [(1, 9)] ∧ ((alL.take 8).length : Int) = 8 := by decide +kernel
set_option maxHeartbeats 3200000 in
theorem dgAlive_any (w : World) : Calls Tryz.prog 11 #[] w fun e w' => e = .returned (.bool true) ∧ Below w.heap.size w w' := by
  have AI := Lib.hid al_ins
  have AL := Lib.hid al_last
  go_enter Tryz.func11, Tryz.ntmps11
  go_wp2_with fail
  refine (dgNew_ok 2 3 1 _ al_is.1 al_is.2).mono ?_
  rintro e w1 ⟨hb1, q, p, g, h, rfl, hd1⟩
  have B1 := Lib.hid hb1
  have D1 := Lib.hid hd1
  clear hb1 hd1
  go_wp2_with fail
  go_loopw [15] (fun i wr => ∃ (j p g h : Nat), j ≤ 8 ∧ i = .int .i64 j ∧ DgA wr w.heap.size q p g h 2 3 1 j (alL.take j) ∧ Below w.heap.size w wr) (fun i _ => 8 - (intOf i).toNat)
  case atStart => exact ⟨0, p, g, h, by omega, rfl, D1.out, B1.out⟩
  case round =>
    rename_i wr
    obtain ⟨j, p, g, h, hj, rfl, hd, hb⟩ := hrel
    have PD := Lib.hid hd
    have BB := Lib.hid hb
    clear hd hb
    by_cases hlt : j < 8
    · have INS := Lib.hid (dgInsert_any (j : Int) 1 wr PD.out (by omega) (by omega) (by omega) (by omega) (by omega))
      rw [(AI.out ⟨j, hlt⟩).1, (AI.out ⟨j, hlt⟩).2] at INS
      go_wp2_with fail
      refine INS.out.mono ?_
      rintro e w2 ⟨rfl, p', g', h', hd2, hk2, _⟩
      have E := Lib.hid hd2
      have B2 : Hid (Below w.heap.size w w2) := BB.out.trans (hk2.below (fun i _ f => (PD.out.lt i f).1) BB.out.size)
      clear hd2 hk2 INS
      go_wp2_with fail
      go_roundw
      case rel => exact ⟨j + 1, p', g', h', by omega, by go_num, E.out, B2.out⟩
      case measure => simp [intOf]; omega
    · obtain rfl : j = 8 := by omega
      have LN := Lib.hid (dgLen_any wr PD.out.box PD.out.po (by omega))
      rw [AL.out.2.2.2.2] at LN
      clear hj hlt
      go_wp2_with fail
      refine LN.out.mono ?_
      rintro e w3 ⟨rfl, hb3⟩
      have D3 := Lib.hid (PD.out.below hb3)
      have B3 := Lib.hid (BB.out.trans (hb3.mono BB.out.size))
      clear hb3
      go_wp2_with fail
      refine (dgRoom_any w3 D3.out.box (by omega) (by omega)).mono ?_
      rintro e w4 ⟨rfl, hb4⟩
      have D4 := Lib.hid (D3.out.below hb4)
      have B4 := Lib.hid (B3.out.trans (hb4.mono B3.out.size))
      have INS := Lib.hid (dgInsert_any 0 1 w4 D4.out (by omega) (by omega) (by omega) (by omega) (by omega))
      rw [AL.out.1, AL.out.2.1] at INS
      clear hb4
      go_wp2_with fail
      refine INS.out.mono ?_
      rintro e w5 ⟨rfl, p', g', h', hd5, hk5, _⟩
      have D5 := Lib.hid hd5
      have B5 : Hid (Below w.heap.size w w5) := B4.out.trans (hk5.below (fun i _ f => (D4.out.lt i f).1) B4.out.size)
      have NN := Lib.hid (dgN_any w5 D5.out.box D5.out.po (by omega))
      rw [AL.out.2.2.1] at NN
      clear hd5 hk5 INS
      go_wp2_with fail
      refine NN.out.mono ?_
      rintro e w6 ⟨rfl, hb6⟩
      have D6 := Lib.hid (D5.out.below hb6)
      have B6 := Lib.hid (B5.out.trans (hb6.mono B5.out.size))
      have CP := Lib.hid (dgCompress_any w6 D6.out (by omega))
      rw [AL.out.2.2.2.1] at CP
      clear hb6 NN
      go_wp2_with fail
      refine CP.out.mono ?_
      rintro e w7 ⟨rfl, p'', g'', h'', hd7, hk7, _⟩
      have D7 := Lib.hid hd7
      have B7 : Hid (Below w.heap.size w w7) := B6.out.trans (hk7.below (fun i _ f => (D6.out.lt i f).1) B6.out.size)
      clear hd7 hk7 CP
      go_wp2_with fail
      refine (dgNodes_any w7 D7.out.box D7.out.po (by omega)).mono ?_
      rintro e w8 ⟨A8, m8, c8, rfl, ho8, hb8⟩
      have B8 := Lib.hid (B7.out.trans (hb8.mono B7.out.size))
      have hba : Below w8.heap.size w8 (w8.alloc (.cells #[.int .i64 1, .int .i64 9] 74)) := (Below.refl _ _).alloc (Nat.le_refl _) _
      have B9 := Lib.hid (B8.out.trans (hba.mono B8.out.size))
      have SM := Lib.hid (dgSame_below (rSame_any A8 (some ⟨w8.heap.size, 0, none⟩) m8 c8 1 1 [(1, 9)] [(1, 9)] _ ((ownNd_nodes ho8).below hba)
        (ownNd_nodes (World.ownsRow_lit (base := w8.heap.size) (e := 74) (size := 2) w8 #[.int .i64 1, .int .i64 9] 1 (Nat.le_refl _) (by unfold maxLen; omega) rfl)) (by have := (nodes_cells (ownNd_nodes ho8)).1; simp at this; omega) (by omega)))
      clear ho8 hb8 hba
      go_wp2_with (go_at_call 33; refine SM.out.mono ?_; rintro e w10 ⟨rfl, hb10⟩)
      go_ret
      exact ⟨rfl, B9.out.trans (hb10.mono B9.out.size)⟩

end Go.Proofs.YtfilmblpikcpnaaGreat
