/- The document's answers of package dewpondref20: Ends. -/
import Derived.Test.YtkoefclkpdpdpaaGreatBoK
import Derived.Test.YtkoefclkpdpdpaaGreatDgR
import Derived.Test.YtkoefclkpdpdpaaGreatDgN
import Derived.Test.YtkoefclkpdpdpaaGreatRoQ
namespace Go.Proofs.YtkoefclkpdpdpaaGreat
set_option linter.unusedVariables false
set_option maxRecDepth 100000
open Go.RowKit

/-- a cell of a box, stored anew if so -/
theorem row_if {TS : TypeId} {w : World} {B q s : Nat} {xs : List Value} (r : w.ownsRow B TS s (.slice (some ⟨q, 0, none⟩) 1 1) 1 xs) (i : Nat) (b : Bool) (a : Value) :
    (cond b (w.setCell ⟨q, i, none⟩ a) w).ownsRow B TS s (.slice (some ⟨q, 0, none⟩) 1 1) 1 (cond b (xs.set i a) xs) ∧ Below B w (cond b (w.setCell ⟨q, i, none⟩ a) w) := by
  cases b
  · exact ⟨r, Below.refl _ _⟩
  · exact ⟨(World.ownsRow.stored r i a).1, (Below.refl _ _).setCell (p := ⟨q, i, none⟩) (r.lt q rfl).1 a⟩
def bo4w (w : World) (q : Nat) (b0 b1 b2 b3 : Bool) (a b c d : Value) : World :=
  cond b3 ((cond b2 ((cond b1 ((cond b0 (w.setCell ⟨q, 0, none⟩ a) w).setCell ⟨q, 1, none⟩ b) (cond b0 (w.setCell ⟨q, 0, none⟩ a) w)).setCell ⟨q, 2, none⟩ c) (cond b1 ((cond b0 (w.setCell ⟨q, 0, none⟩ a) w).setCell ⟨q, 1, none⟩ b) (cond b0 (w.setCell ⟨q, 0, none⟩ a) w))).setCell ⟨q, 3, none⟩ d)
    (cond b2 ((cond b1 ((cond b0 (w.setCell ⟨q, 0, none⟩ a) w).setCell ⟨q, 1, none⟩ b) (cond b0 (w.setCell ⟨q, 0, none⟩ a) w)).setCell ⟨q, 2, none⟩ c) (cond b1 ((cond b0 (w.setCell ⟨q, 0, none⟩ a) w).setCell ⟨q, 1, none⟩ b) (cond b0 (w.setCell ⟨q, 0, none⟩ a) w)))
theorem quad_if {TS : TypeId} {w : World} {B q : Nat} {x y z u : Value} (r : w.ownsRow B TS 4 (.slice (some ⟨q, 0, none⟩) 1 1) 1 [x, y, z, u]) (b0 b1 b2 b3 : Bool) (a b c d : Value) :
    (bo4w w q b0 b1 b2 b3 a b c d).ownsRow B TS 4 (.slice (some ⟨q, 0, none⟩) 1 1) 1 [cond b0 a x, cond b1 b y, cond b2 c z, cond b3 d u] ∧ Below B w (bo4w w q b0 b1 b2 b3 a b c d) := by
  have s0 := row_if r 0 b0 a
  have s1 := row_if s0.1 1 b1 b
  have s2 := row_if s1.1 2 b2 c
  have s3 := row_if s2.1 3 b3 d
  refine ⟨?_, ((s0.2.trans s1.2).trans s2.2).trans s3.2⟩
  have e : cond b3 ((cond b2 ((cond b1 ((cond b0 ([x, y, z, u].set 0 a) [x, y, z, u]).set 1 b) (cond b0 ([x, y, z, u].set 0 a) [x, y, z, u])).set 2 c) (cond b1 ((cond b0 ([x, y, z, u].set 0 a) [x, y, z, u]).set 1 b) (cond b0 ([x, y, z, u].set 0 a) [x, y, z, u]))).set 3 d) (cond b2 ((cond b1 ((cond b0 ([x, y, z, u].set 0 a) [x, y, z, u]).set 1 b) (cond b0 ([x, y, z, u].set 0 a) [x, y, z, u])).set 2 c) (cond b1 ((cond b0 ([x, y, z, u].set 0 a) [x, y, z, u]).set 1 b) (cond b0 ([x, y, z, u].set 0 a) [x, y, z, u]))) = [cond b0 a x, cond b1 b y, cond b2 c z, cond b3 d u] := by
    cases b0 <;> cases b1 <;> cases b2 <;> cases b3 <;> rfl
  have t := s3.1
  rw [e] at t
  exact t
theorem bo4_all {TS : TypeId} {w : World} {B q : Nat} {x y z u : Value} (r : w.ownsRow B TS 4 (.slice (some ⟨q, 0, none⟩) 1 1) 1 [x, y, z, u]) (a b c d : Value) :
    ((((w.setCell ⟨q, 0, none⟩ a).setCell ⟨q, 1, none⟩ b).setCell ⟨q, 2, none⟩ c).setCell ⟨q, 3, none⟩ d).cell? ⟨q, 0, none⟩ = some a ∧ ((((w.setCell ⟨q, 0, none⟩ a).setCell ⟨q, 1, none⟩ b).setCell ⟨q, 2, none⟩ c).setCell ⟨q, 3, none⟩ d).cell? ⟨q, 1, none⟩ = some b ∧
    ((((w.setCell ⟨q, 0, none⟩ a).setCell ⟨q, 1, none⟩ b).setCell ⟨q, 2, none⟩ c).setCell ⟨q, 3, none⟩ d).cell? ⟨q, 2, none⟩ = some c ∧ ((((w.setCell ⟨q, 0, none⟩ a).setCell ⟨q, 1, none⟩ b).setCell ⟨q, 2, none⟩ c).setCell ⟨q, 3, none⟩ d).cell? ⟨q, 3, none⟩ = some d ∧
    Below B w ((((w.setCell ⟨q, 0, none⟩ a).setCell ⟨q, 1, none⟩ b).setCell ⟨q, 2, none⟩ c).setCell ⟨q, 3, none⟩ d) := by
  have t := quad_if r true true true true a b c d
  have q := quad_all t.1
  exact ⟨q.1, q.2.1, q.2.2.1, q.2.2.2.1, t.2⟩
/-- four ends so far -/
def bo4 (l : Int) (P : List Nd) : List Value := [.int .i64 (boMn (loN l) P), .int .i64 (boMn (hiN l) P), .int .i64 (boMx (loN l) P), .int .i64 (boMx (hiN l) P)]
set_option maxHeartbeats 6400000 in
theorem rBoEnds_any {l : Int} (k : Int) (A : Option Addr) (n c : Nat) (L : List Nd) (w : World) (h : NodesAt w (.slice A n c) L) (hr : RollC l L) (hn : n ≤ 1000) :
    Calls Tryz.prog 14 #[.agg #[.int .i64 k, .int .i64 l, .slice A n c]] w fun e w' => e = .returned (.agg #[.int .i64 (boMn (loN l) L), .int .i64 (boMn (hiN l) L), .int .i64 (boMx (loN l) L), .int .i64 (boMx (hiN l) L)]) ∧ Below w.heap.size w w' := by
  have HB0 : Hid (Below w.heap.size w (w.alloc (.cells #[.int .i64 k, .int .i64 l, .slice A n c] 31))) := (Below.refl _ _).alloc (Nat.le_refl _) _
  obtain ⟨x0, x1, x2, _, _, _, hz⟩ := tri_all (tri_new w 31 (.int .i64 k) (.int .i64 l) (.slice A n c))
  have HZ := Lib.hid hz
  have u : 1 ≤ l ∧ l ≤ 48 := of_decide_eq_true hr.1
  have HL := Lib.hid (nodes_cells h).1
  have HA := Lib.hid (nodes_cells h).2.2.2
  have NB := Lib.hid (nbds_roll hr)
  have T1 := Lib.hid (fun (k : Nat) hk => boMn_take (loN l) (P := L) (k := k) hk)
  have T2 := Lib.hid (fun (k : Nat) hk => boMn_take (hiN l) (P := L) (k := k) hk)
  have T3 := Lib.hid (fun (k : Nat) hk => boMx_take (loN l) (P := L) (k := k) hk)
  have T4 := Lib.hid (fun (k : Nat) hk => boMx_take (hiN l) (P := L) (k := k) hk)
  clear h hr hz
  go_enter Tryz.func14, Tryz.ntmps14
  go_wp2_with fail
  have hDE : (w.alloc (.cells #[.int .i64 k, .int .i64 l, .slice A n c] 31)).heap.size = w.heap.size + 1 := by simp
  generalize w.alloc (.cells #[.int .i64 k, .int .i64 l, .slice A n c] 31) = D at *
  have hzz : w.heap.size < (D.alloc (.cells #[.int .i64 0, .int .i64 0, .int .i64 0, .int .i64 0] 41)).heap.size := by have := HZ.out; simp; omega
  have HB1 : Hid (Below w.heap.size w (D.alloc (.cells #[.int .i64 0, .int .i64 0, .int .i64 0, .int .i64 0] 41))) := HB0.out.alloc HB0.out.size _
  have HB2 := Lib.hid ((Below.refl D.heap.size D).alloc (Nat.le_refl _) (.cells #[.int .i64 0, .int .i64 0, .int .i64 0, .int .i64 0] 41))
  have R0 := Lib.hid (quad_new D 41 (.int .i64 0) (.int .i64 0) (.int .i64 0) (.int .i64 0))
  have Dw := Lib.hid HB0.out.size
  replace x0 := (HB2.out.cell (p := ⟨w.heap.size, 0, none⟩) HZ.out).trans x0
  replace x1 := (HB2.out.cell (p := ⟨w.heap.size, 1, none⟩) HZ.out).trans x1
  replace x2 := (HB2.out.cell (p := ⟨w.heap.size, 2, none⟩) HZ.out).trans x2
  have DE : Hid (D.heap.size = w.heap.size + 1) := hDE
  have WE : Hid ((D.alloc (.cells #[.int .i64 0, .int .i64 0, .int .i64 0, .int .i64 0] 41)).heap.size = w.heap.size + 1 + 1) := by show _ = _; simp [hDE]
  generalize D.alloc (.cells #[.int .i64 0, .int .i64 0, .int .i64 0, .int .i64 0] 41) = W at *
  rw [DE.out] at R0
  replace HZ := Lib.hid hzz
  have Q0 := Lib.hid (quad_new W 41 (.int .i64 281474976710656) (.int .i64 281474976710656) (.int .i64 (-1)) (.int .i64 (-1)))
  rw [WE.out] at Q0
  have QB := Lib.hid ((Below.refl W.heap.size W).alloc (Nat.le_refl _) (.cells #[.int .i64 281474976710656, .int .i64 281474976710656, .int .i64 (-1), .int .i64 (-1)] 41))
  go_loopw [5] (fun i wr => ∃ m : Nat, m ≤ n ∧ i = .int .i64 m ∧ Hid (wr.ownsRow (w.heap.size + 1 + 1) 41 4 (.slice (some ⟨w.heap.size + 1 + 1, 0, none⟩) 1 1) 1 (bo4 l (L.take m))) ∧ Hid (Below W.heap.size W wr)) (fun i _ => n - (intOf i).toNat)
  case atStart => exact ⟨0, by omega, rfl, Q0, QB⟩
  case round =>
    obtain ⟨m, hm, rfl, QQ, BW⟩ := hrel
    obtain ⟨d0, d1, d2⟩ : wr.cell? ⟨w.heap.size, 0, none⟩ = some (.int .i64 k) ∧ wr.cell? ⟨w.heap.size, 1, none⟩ = some (.int .i64 l) ∧ wr.cell? ⟨w.heap.size, 2, none⟩ = some (.slice A n c) := ⟨(BW.out.cell (p := ⟨w.heap.size, 0, none⟩) HZ.out).trans x0, (BW.out.cell (p := ⟨w.heap.size, 1, none⟩) HZ.out).trans x1, (BW.out.cell (p := ⟨w.heap.size, 2, none⟩) HZ.out).trans x2⟩
    by_cases hlt : m < n
    · have hk2 : m < L.length := by have := HL.out; omega
      obtain ⟨b, o, rfl, hin⟩ := HA.out (by omega)
      have BB := HB1.out.trans (BW.out.mono HB1.out.size)
      obtain ⟨e0, e1⟩ := (hin.below BB hin.1).2 m hk2
      have HQ : Hid (b < wr.heap.size) := Nat.lt_of_lt_of_le hin.1 BB.size
      have hx := nbds_at NB.out hk2
      have S1 := Lib.hid (T1.out m hk2)
      have S2 := Lib.hid (T2.out m hk2)
      have S3 := Lib.hid (T3.out m hk2)
      have S4 := Lib.hid (T4.out m hk2)
      unfold mnS at S1 S2
      unfold mxS at S3 S4
      have E4 : Hid (bo4 l (L.take m) = [.int .i64 (boMn (loN l) (L.take m)), .int .i64 (boMn (hiN l) (L.take m)), .int .i64 (boMx (loN l) (L.take m)), .int .i64 (boMx (hiN l) (L.take m))]) := rfl
      have E5 : Hid (bo4 l (L.take (m + 1)) = [.int .i64 (boMn (loN l) (L.take (m + 1))), .int .i64 (boMn (hiN l) (L.take (m + 1))), .int .i64 (boMx (loN l) (L.take (m + 1))), .int .i64 (boMx (hiN l) (L.take (m + 1)))]) := rfl
      rw [E4.out] at QQ
      clear hin
      generalize hF : bo4 l (L.take (m + 1)) = F5 at *
      have HF := Lib.hid hF
      clear hF
      generalize (L.getD m nz).1 = id at *
      generalize (L.getD m nz).2 = x at *
      generalize boMn (loN l) (L.take m) = v0 at *
      generalize boMn (hiN l) (L.take m) = v1 at *
      generalize boMx (loN l) (L.take m) = v2 at *
      generalize boMx (hiN l) (L.take m) = v3 at *
      have EN := Lib.hid (fun w => rends_any l id w (by omega) (by omega) hx.1.1 hx.1.2)
      have k0 : (0 : Int) ≤ (m : Int) := Int.natCast_nonneg _
      have k1 : (m : Int) < (n : Int) := by omega
      generalize loN l id = z at *
      generalize hiN l id = y at *
      go_wp2_with fail
      go_quiet ((go_at_call 41; exact Calls.quiet_of_same ((EN.out _).mono fun _ _ ⟨a, b⟩ => ⟨a, b.symm⟩)))
      generalize hwq : World.drewN wr _ = wq
      have QQ2 := Lib.hid (own_below QQ.out (w1 := wq) (by rw [← hwq]; exact below_drewN (Below.refl _ _) _))
      have BW2 : Hid (Below W.heap.size W wq) := by rw [← hwq]; exact below_drewN BW.out _
      clear hwq QQ BW d0 d1 d2 e0 e1 EN BB HQ
      obtain ⟨q0, q1, q2, q3, f0, f1, f2, f3, qz⟩ := quad_all QQ2.out
      have RR : ∀ b0 b1 b2 b3 : Bool, b0 = decide (z < v0) → b1 = decide (y < v1) → b2 = decide (v2 < z) → b3 = decide (v3 < y) →
          Hid ((bo4w wq (w.heap.size + 1 + 1) b0 b1 b2 b3 (.int .i64 z) (.int .i64 y) (.int .i64 z) (.int .i64 y)).ownsRow (w.heap.size + 1 + 1) 41 4 (.slice (some ⟨w.heap.size + 1 + 1, 0, none⟩) 1 1) 1 F5) ∧ Hid (Below W.heap.size W (bo4w wq (w.heap.size + 1 + 1) b0 b1 b2 b3 (.int .i64 z) (.int .i64 y) (.int .i64 z) (.int .i64 y))) := by
        intro b0 b1 b2 b3 h0 h1 h2 h3
        have t := quad_if QQ2.out b0 b1 b2 b3 (.int .i64 z) (.int .i64 y) (.int .i64 z) (.int .i64 y)
        refine ⟨?_, BW2.out.trans (t.2.mono (Nat.le_of_eq WE.out))⟩
        have e : F5 = [cond b0 (.int .i64 z) (.int .i64 v0), cond b1 (.int .i64 y) (.int .i64 v1), cond b2 (.int .i64 z) (.int .i64 v2), cond b3 (.int .i64 y) (.int .i64 v3)] := by
          rw [E5.out, S1.out, S2.out, S3.out, S4.out, h0, h1, h2, h3]
          by_cases a0 : z < v0 <;> by_cases a1 : y < v1 <;> by_cases a2 : v2 < z <;> by_cases a3 : v3 < y <;> simp [a0, a1, a2, a3]
        show World.ownsRow _ _ _ _ _ _ _
        rw [e]
        exact t.1
      have RH := Lib.hid RR
      clear RR E4 E5 S1 S2 S3 S4 T1 T2 T3 T4 R0 HA NB hx
      by_cases a0 : z < v0 <;> by_cases a1 : y < v1 <;> by_cases a2 : v2 < z <;> by_cases a3 : v3 < y
      all_goals
        have RX := RH.out _ _ _ _ rfl rfl rfl rfl
        simp only [a0, a1, a2, a3, decide_true, decide_false] at RX
        obtain ⟨RQ, RB⟩ := RX
        clear RH
        go_wp2_with fail
        go_roundw
        case rel => exact ⟨m + 1, by omega, by go_num, (by rw [HF.out]; exact RQ), RB⟩
        case measure => simp [intOf]; omega
    · obtain rfl : m = n := by omega
      have e : L.take m = L := List.take_of_length_le (by have := HL.out; omega)
      rw [e] at QQ
      obtain ⟨q0, q1, q2, q3, f0, f1, f2, f3, qz⟩ := quad_all QQ.out
      have RW := Lib.hid (own_below R0.out BW.out)
      obtain ⟨r0, r1, r2, r3, g0, g1, g2, g3, rz⟩ := quad_all RW.out
      have RT := bo4_all RW.out (.int .i64 (boMn (loN l) L)) (.int .i64 (boMn (hiN l) L)) (.int .i64 (boMx (loN l) L)) (.int .i64 (boMx (hiN l) L))
      obtain ⟨t0, t1, t2, t3, tb⟩ := RT
      have TB := Lib.hid ((HB1.out.trans (BW.out.mono HB1.out.size)).trans (tb.mono (by omega)))
      go_wp2_with fail
      exact bodyPost_ret (v := .agg #[.int .i64 (boMn (loN l) L), .int .i64 (boMn (hiN l) L), .int .i64 (boMx (loN l) L), .int .i64 (boMx (hiN l) L)]) (by simp [results, Tryz.results14, go_sem, t0, t1, t2, t3]) rfl ⟨rfl, TB.out⟩

end Go.Proofs.YtkoefclkpdpdpaaGreat
