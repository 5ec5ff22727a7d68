/- The walk of the statement DigestAlike of layer digest: for every input it returns true, and nothing that was there before is changed. -/
import Derived.Test.YtfilmblpikcpnaaGreatDgLaw
import Derived.Test.YtfilmblpikcpnaaGreatDrQ
namespace Go.Proofs.YtfilmblpikcpnaaGreat
set_option linter.unusedVariables false
set_option maxRecDepth 100000
open Go.RowKit

/-- two digests apart from one another, of the same list -/
structure Two (w : World) (B qa pa ga ha qb pb gb hb : Nat) (ka kb l k : Int) (n : Nat) (L M : List Nd) : Prop where
  a : DgA w B qa pa ga ha ka l k n L
  b : DgA w B qb pb gb hb kb l k n M
  ab : ∀ i, dgF qa pa ga ha i → ¬ dgF qb pb gb hb i
section
variable {w w' w2 : World} {B qa pa ga ha qb pb gb hb : Nat} {ka kb l k : Int} {n m : Nat} {L M : List Nd}
theorem Two.below (t : Two w B qa pa ga ha qb pb gb hb ka kb l k n L M) (h : Below w.heap.size w w') : Two w' B qa pa ga ha qb pb gb hb ka kb l k n L M := ⟨t.a.below h, t.b.below h, t.ab⟩
/-- the first one has turned -/
theorem Two.one {pa' ga' ha' : Nat} {L' : List Nd} (t : Two w B qa pa ga ha qb pb gb hb ka kb l k n L M) (hm : n ≤ m) (d : DgA w' B qa pa' ga' ha' ka l k m L') (c : Kp (dgF qa pa ga ha) w w') (nw : ∀ i, dgF qa pa' ga' ha' i → dgF qa pa ga ha i ∨ w.heap.size ≤ i) : Two w' B qa pa' ga' ha' qb pb gb hb ka kb l k m L' M :=
  ⟨d, (t.b.kp c t.ab).more hm, fun i f => by
    rcases nw i f with z | z
    · exact t.ab i z
    · exact fun g => by have := (t.b.lt i g).2; omega⟩
/-- the second one has turned -/
theorem Two.two {pb' gb' hb' : Nat} {M' : List Nd} (t : Two w B qa pa ga ha qb pb gb hb ka kb l k n L M) (hm : n ≤ m) (d : DgA w' B qb pb' gb' hb' kb l k m M') (c : Kp (dgF qb pb gb hb) w w') (nw : ∀ i, dgF qb pb' gb' hb' i → dgF qb pb gb hb i ∨ w.heap.size ≤ i) : Two w' B qa pa ga ha qb pb' gb' hb' ka kb l k m L M' :=
  ⟨(t.a.kp c fun i f g => t.ab i g f).more hm, d, fun i f g => by
    rcases nw i g with z | z
    · exact t.ab i f z
    · have := (t.a.lt i f).2; omega⟩
end
theorem ops_nil {k : Nat} : ¬ k < ([] : List Pl).length := by simp
set_option maxHeartbeats 6400000 in
theorem walk_digestAlike (l k : Int) (A : Option Addr) (n c : Nat) (O : List Pl) (A2 : Option Addr) (n2 c2 : Nat) (O2 : List Pl) (L0 : -9223372036854775808 ≤ l) (L1 : l ≤ 9223372036854775807) (K0 : -9223372036854775808 ≤ k) (K1 : k ≤ 9223372036854775807)
    (OB : OBds O) (m1 : n ≤ 9223372036854775807) (OB2 : OBds O2) (m2 : n2 ≤ 9223372036854775807) (w : World) (H1 : PlacedAt w (.slice A n c) O) (H2 : PlacedAt w (.slice A2 n2 c2) O2) :
    Calls Tryz.prog 7 #[.int .i64 l, .int .i64 k, .agg #[.slice A n c, .slice A2 n2 c2]] w fun e w' => e = .returned (.bool true) ∧ Below w.heap.size w w' := by
  have HB0 : Hid (Below w.heap.size w (w.alloc (.cells #[.slice A n c, .slice A2 n2 c2] 65))) := (Below.refl _ _).alloc (Nat.le_refl _) _
  have X0 := Lib.hid (box2 w 65 (.slice A n c) (.slice A2 n2 c2))
  obtain ⟨x0, x1, _, _, hz⟩ := box_cells X0.out
  have Z0 : Hid ((w.alloc (.cells #[.slice A n c, .slice A2 n2 c2] 65)).heap.size = w.heap.size + 1) := by show _ = _; simp
  have HL := Lib.hid (placed_cells H1).1
  have HA := Lib.hid (placed_cells H1).2.2.2
  have HB := Lib.hid OB
  have HL2 := Lib.hid (placed_cells H2).1
  have HA2 := Lib.hid (placed_cells H2).2.2.2
  have HBB2 := Lib.hid OB2
  clear H1 OB H2 OB2
  by_cases hg : 100 < n ∨ 40 < n2 ∨ l < 1 ∨ 10 < l
  · rcases (show 100 < n ∨ (n ≤ 100 ∧ 40 < n2) ∨ (n ≤ 100 ∧ n2 ≤ 40 ∧ l < 1) ∨ (n ≤ 100 ∧ n2 ≤ 40 ∧ 1 ≤ l ∧ 10 < l) by omega) with h | ⟨h, h2⟩ | ⟨h, h2, h3⟩ | ⟨h, h2, h3, h4⟩
    all_goals
      clear hg
      go_enter Tryz.func7, Tryz.ntmps7
      go_wp2_with (go_at_call 11; refine (dgAlive_any _).mono ?_; rintro e v7 ⟨rfl, hbv7⟩)
      go_ret
      exact ⟨rfl, HB0.out.trans (hbv7.mono HB0.out.size)⟩
  · have g0 : decide (100 < (n : Int)) = false := decide_eq_false (by omega)
    have g1 : decide (40 < (n2 : Int)) = false := decide_eq_false (by omega)
    have g2 : decide (l < 1) = false := decide_eq_false (by omega)
    have g3 : decide (10 < l) = false := decide_eq_false (by omega)
    have hn : n ≤ 100 := by omega
    have hn2 : n2 ≤ 40 := by omega
    have P1 : isP 1 l = true := decide_eq_true (.inl ⟨rfl, by omega, by omega⟩)
    have P2 : isP 2 l = true := decide_eq_true (.inr ⟨rfl, by omega, by omega⟩)
    clear hg
    cases hk : kIs k
    · have N1 := Lib.hid (fun w => dgNew_no 1 l k w (fun q => by rw [hk] at q; exact absurd q.1 (by simp)) L0 L1)
      have N2 := Lib.hid (fun w => dgNew_no 2 l k w (fun q => by rw [hk] at q; exact absurd q.1 (by simp)) L0 L1)
      clear hk P1 P2 hn hn2
      go_enter Tryz.func7, Tryz.ntmps7
      go_wp2_with (first
        | (go_at_call 9; (with_reducible refine (N1.out _).mono ?_); rintro e w1 ⟨rfl, hb1⟩)
        | (go_at_call 9; (with_reducible refine (N2.out _).mono ?_); rintro e w2 ⟨rfl, hb2⟩)
        | (go_at_call 11; refine (dgAlive_any _).mono ?_; rintro e v7 ⟨rfl, hbv7⟩))
      go_ret
      have c1 := HB0.out.trans (hb1.mono HB0.out.size)
      have c2 := c1.trans (hb2.mono c1.size)
      exact ⟨rfl, c2.trans (hbv7.mono c2.size)⟩
    · have N1 := Lib.hid (fun w => dgNew_ok 1 l k w hk P1)
      have N2 := Lib.hid (fun w => dgNew_ok 2 l k w hk P2)
      clear hk P1 P2
      go_enter Tryz.func7, Tryz.ntmps7
      go_wp2_with fail
      generalize w.alloc (.cells #[.slice A n c, .slice A2 n2 c2] 65) = W at *
      refine (N1.out _).mono ?_
      rintro e w1 ⟨hb1, qa, pa, ga, ha, rfl, hda⟩
      have X1 := Lib.hid (own_below X0.out hb1)
      have DA1 : Hid (DgA w1 (w.heap.size + 1) qa pa ga ha 1 l k 0 []) := hda.low (by have := Z0.out; omega)
      have B1 := Lib.hid (HB0.out.trans (hb1.mono HB0.out.size))
      have S1 : Hid (w.heap.size + 1 ≤ w1.heap.size) := by have := Z0.out; have := hb1.size; show _ ≤ _; omega
      clear hb1 hda N1
      go_wp2_with fail
      refine (N2.out _).mono ?_
      rintro e w2 ⟨hb2, qb, pb, gb, hb, rfl, hdb⟩
      have X2 := Lib.hid (own_below X1.out hb2)
      have T2 : Hid (Two w2 (w.heap.size + 1) qa pa ga ha qb pb gb hb 1 2 l k 0 [] []) := ⟨DA1.out.below hb2, hdb.low S1.out, fun i f g => by
        have := (DA1.out.lt i f).2
        have := (hdb.lt i g).1
        omega⟩
      have B2 := Lib.hid (B1.out.trans (hb2.mono B1.out.size))
      obtain ⟨x0, x1, _, _, hz⟩ := box_cells X2.out
      clear hb2 hdb N2
      go_wp2_with fail
      go_loopw [70] (fun i wr => ∃ (j : Nat) (L : List Nd) (pa ga ha pb gb hb : Nat), j ≤ n ∧ i = .int .i64 j ∧ Two wr (w.heap.size + 1) qa pa ga ha qb pb gb hb 1 2 l k j L L ∧
        wr.ownsRow w.heap.size 65 2 (.slice (some ⟨w.heap.size, 0, none⟩) 1 1) 1 [.slice A n c, .slice A2 n2 c2] ∧ Below w.heap.size w wr) (fun i _ => n - (intOf i).toNat)
      case atStart => exact ⟨0, [], pa, ga, ha, pb, gb, hb, by omega, rfl, T2.out, X2.out, B2.out⟩
      case round =>
        rename_i wr
        obtain ⟨j, L, pa, ga, ha, pb, gb, hb, hj, rfl, ht, hx, hbw⟩ := hrel
        have TW := Lib.hid ht
        have XX := Lib.hid hx
        have BB := Lib.hid hbw
        have hzr := hbw.size
        clear ht hx
        by_cases hlt : j < n
        · have hk2 : j < O.length := by have := HL.out; omega
          obtain ⟨bq, o, rfl, hin⟩ := HA.out (by have := HL.out; omega)
          obtain ⟨e0, e1, e2⟩ := (hin.below hbw hin.1).2 j hk2
          have hbd := obds_at HB.out hk2
          obtain ⟨_, ⟨b2, b3⟩, b4, b5⟩ := hbd
          have hbl := hin.1
          clear hin hbw
          generalize O.getD j plz = r at *
          obtain ⟨⟨kq, id⟩, cc⟩ := r
          simp only at e0 e1 e2 b2 b3 b4 b5
          have hba : Below wr.heap.size wr (wr.alloc (.cells #[.int .i64 kq, .int .i64 id, .int .i64 cc] 39)) := (Below.refl _ _).alloc (Nat.le_refl _) _
          have TR := Lib.hid (tri_nw wr 39 (.int .i64 kq) (.int .i64 id) (.int .i64 cc))
          have T1 := Lib.hid (TW.out.below hba)
          have X1 := Lib.hid (own_below XX.out hba)
          have BB1 := Lib.hid (BB.out.trans (hba.mono hzr))
          have NA : Hid (∀ i, dgF qa pa ga ha i → i ≠ wr.heap.size) := fun i f => by have := (TW.out.a.lt i f).2; omega
          have NB : Hid (∀ i, dgF qb pb gb hb i → i ≠ wr.heap.size) := fun i f => by have := (TW.out.b.lt i f).2; omega
          clear hba
          go_wp2_with fail
          generalize wr.alloc (.cells #[.int .i64 kq, .int .i64 id, .int .i64 cc] 39) = W1 at *
          obtain ⟨t0, t1, t2, _, _, _, ht⟩ := tri_all TR.out
          have DOA := Lib.hid (dgLdo_any kq id cc W1.drew (T1.out.a.below (below_drew _)) (by omega) b2 b3 b4 b5)
          have C1 : Hid (∀ v, Kp (dgF qa pa ga ha) W1.drew v → v.ownsRow wr.heap.size 39 3 (.slice (some ⟨wr.heap.size, 0, none⟩) 1 1) 1 [.int .i64 kq, .int .i64 id, .int .i64 cc]) := fun v kv => own_kp (own_below TR.out (below_drew _)) kv fun i e f => by
            simp only [Value.ownBlock, Option.some.injEq] at e
            exact NA.out i f e.symm
          have C2 : Hid (∀ v v2, Kp (dgF qa pa ga ha) W1.drew v → Kp (dgF qb pb gb hb) v v2 → v2.ownsRow wr.heap.size 39 3 (.slice (some ⟨wr.heap.size, 0, none⟩) 1 1) 1 [.int .i64 kq, .int .i64 id, .int .i64 cc]) := fun v v2 kv kv2 => own_kp (C1.out v kv) kv2 fun i e f => by
            simp only [Value.ownBlock, Option.some.injEq] at e
            exact NB.out i f e.symm
          go_region_held3 (fun w' => w'.cell? ⟨wr.heap.size, 0, none⟩ = some (.int .i64 kq) ∧ w'.cell? ⟨wr.heap.size, 1, none⟩ = some (.int .i64 id) ∧ w'.cell? ⟨wr.heap.size, 2, none⟩ = some (.int .i64 cc))
            (first | assumption | (exact ⟨(C2.out _ _ hka hkb).cellAt 0 (by omega), (C2.out _ _ hka hkb).cellAt 1 (by omega), (C2.out _ _ hka hkb).cellAt 2 (by omega)⟩) | (exact ⟨(C1.out _ hka).cellAt 0 (by omega), (C1.out _ hka).cellAt 1 (by omega), (C1.out _ hka).cellAt 2 (by omega)⟩) | (exact ⟨t0, t1, t2⟩))
            (first
              | ((with_reducible refine DOA.out.mono ?_); rintro e v1 ⟨rfl, pa2, ga2, ha2, hda, hka, hna⟩)
              | (refine (dgLdo_any kq id cc _ ((T1.out.b.below (below_drew _)).kp hka T1.out.ab) (by omega) b2 b3 b4 b5).mono ?_; rintro e v2 ⟨rfl, pb2, gb2, hb2, hdb, hkb, hnb⟩))
          have T3 := Lib.hid ((T1.out.below (below_drew _)).one (Nat.le_succ j) hda hka hna)
          have T4 := Lib.hid (T3.out.two (Nat.le_refl _) hdb hkb hnb)
          have X4 := Lib.hid (own_kp (own_kp (own_below X1.out (below_drew _)) hka fun i e f => by
            simp only [Value.ownBlock, Option.some.injEq] at e
            have := (T1.out.a.lt i f).1
            omega) hkb fun i e f => by
            simp only [Value.ownBlock, Option.some.injEq] at e
            have := (T1.out.b.lt i f).1
            omega)
          have Ba : Below w.heap.size w v1 := (BB1.out.trans ((below_drew _).mono BB1.out.size)).trans (hka.below (fun i _ f => by have := (T1.out.a.lt i f).1; omega) (BB1.out.trans ((below_drew _).mono BB1.out.size)).size)
          have B4 : Hid (Below w.heap.size w v2) := Ba.trans (hkb.below (fun i _ f => by have := (T1.out.b.lt i f).1; omega) Ba.size)
          clear hda hka hna hdb hkb hnb Ba
          have hne : (dgTell l k L kq id cc != dgTell l k L kq id cc) = false := by simp
          go_wp2_with fail
          go_roundw
          case rel => exact ⟨j + 1, dgDo l k L kq id cc, pa2, ga2, ha2, pb2, gb2, hb2, by omega, by go_num, T4.out, X4.out, B4.out⟩
          case measure => simp [intOf]; omega
        · obtain rfl : j = n := by omega
          have SM := Lib.hid (dgSame_any wr TW.out.a TW.out.b (by omega) (by omega))
          have NDA := Lib.hid (fun v hb => (dgNodes_any v (TW.out.a.below hb).box (TW.out.a.below hb).po (by omega)).mono (R' := fun e w' => ∃ A3 m3 c3, e = .returned (.slice A3 m3 c3) ∧ NodesAt w' (.slice A3 m3 c3) L ∧ m3 ≤ 1000 ∧ Below v.heap.size v w') fun e w' ⟨A3, m3, c3, he, ho, hb⟩ => ⟨A3, m3, c3, he, ownNd_nodes ho, by have a1 := (nodes_cells (ownNd_nodes ho)).1; have a2 := TW.out.a.po.len; omega, hb⟩)
          have NDB := Lib.hid (fun v hb => (dgNodes_any v (TW.out.b.below hb).box (TW.out.b.below hb).po (by omega)).mono (R' := fun e w' => ∃ A3 m3 c3, e = .returned (.slice A3 m3 c3) ∧ NodesAt w' (.slice A3 m3 c3) L ∧ m3 ≤ 1000 ∧ Below v.heap.size v w') fun e w' ⟨A3, m3, c3, he, ho, hb⟩ => ⟨A3, m3, c3, he, ownNd_nodes ho, by have a1 := (nodes_cells (ownNd_nodes ho)).1; have a2 := TW.out.a.po.len; omega, hb⟩)
          rw [same_self] at SM
          clear hlt hbw
          go_wp2_with fail
          refine SM.out.mono ?_
          rintro e w3 ⟨rfl, hb3⟩
          have R3 := Lib.hid hb3
          clear hb3 SM
          go_wp2_with fail
          refine (NDA.out _ R3.out).mono ?_
          rintro e w4 ⟨A4, m4, c4, rfl, hv4, hm4, hb4⟩
          have V4 := Lib.hid hv4
          have M4 := Lib.hid hm4
          have R4 := Lib.hid (R3.out.trans (hb4.mono R3.out.size))
          clear hb4 hv4 hm4
          go_wp2_with fail
          refine (NDB.out _ R4.out).mono ?_
          rintro e w5 ⟨A5, m5, c5, rfl, hv5, hm5, hb5⟩
          have SM5 := Lib.hid (dgSame_below (rSame_any A4 A5 m4 c4 m5 c5 L L w5 (V4.out.below hb5) hv5 (by have := M4.out; omega) (by omega)))
          rw [same_self] at SM5
          have R5 := Lib.hid (R4.out.trans (hb5.mono R4.out.size))
          clear hb5 hv5 hm5 V4 M4
          go_wp2_with fail
          refine SM5.out.mono ?_
          rintro e w6 ⟨rfl, hb6⟩
          have R6 := Lib.hid (R5.out.trans (hb6.mono R5.out.size))
          clear hb6 SM5
          have CL := Lib.hid (dgClone_any w6 (TW.out.a.below R6.out) (by omega))
          go_wp2_with fail
          refine CL.out.mono ?_
          rintro e w7 ⟨qo, po, go, ho, rfl, hdo, hb7⟩
          have R7 := Lib.hid (R6.out.trans (hb7.mono R6.out.size))
          have DO7 := Lib.hid hdo
          have SZ6 : Hid (wr.heap.size ≤ w6.heap.size) := R6.out.size
          clear hb7 CL hdo
          go_wp2_with fail
          refine (dgNodes_any w7 (TW.out.a.below R7.out).box (TW.out.a.below R7.out).po (by omega)).mono ?_
          rintro e w8 ⟨A8, m8, c8, rfl, ho8, hb8⟩
          have R8 := Lib.hid (R7.out.trans (hb8.mono R7.out.size))
          have BB8 := Lib.hid (BB.out.trans (R8.out.mono BB.out.size))
          have X8 := Lib.hid (own_below XX.out R8.out)
          have DA8 := Lib.hid (TW.out.a.below R8.out)
          have T8 : Hid (Two w8 (w.heap.size + 1) qo po go ho qb pb gb hb 1 2 l k j L L) := ⟨(DO7.out.below hb8).low (by
            have a := (TW.out.a.lt qa (.inl rfl))
            have b := SZ6.out
            omega), TW.out.b.below R8.out, fun i f g => by
            have a := (DO7.out.lt i f).1
            have b := (TW.out.b.lt i g).2
            have c := SZ6.out
            omega⟩
          have AO8 : Hid (∀ i, dgF qa pa ga ha i → ¬ dgF qo po go ho i) := fun i f g => by
            have a := (DO7.out.lt i g).1
            have b := (TW.out.a.lt i f).2
            have c := SZ6.out
            omega
          have AB8 : Hid (∀ i, dgF qa pa ga ha i → ¬ dgF qb pb gb hb i) := TW.out.ab
          have OW8 : Hid (OwnNd 74 w8 0 (.slice A8 m8 c8) L) := own_low ho8 (Nat.zero_le _)
          have WO8 : Hid (∀ i, (Value.slice A8 m8 c8).ownBlock = some i → ¬ dgF qo po go ho i) := fun i e f => by
            have a := (World.ownsRow.lt ho8 i e).1
            have b := (DO7.out.lt i f).2
            omega
          have WB8 : Hid (∀ i, (Value.slice A8 m8 c8).ownBlock = some i → ¬ dgF qb pb gb hb i) := fun i e f => by
            have a := (World.ownsRow.lt ho8 i e).1
            have b := (TW.out.b.lt i f).2
            have c := SZ6.out
            have d := (DO7.out.lt qo (.inl rfl))
            omega
          have ML8 := Lib.hid (nodes_cells (ownNd_nodes ho8)).1
          have LL8 : Hid (L.length ≤ 100) := by have a2 := TW.out.a.po.len; show _ ≤ _; omega
          obtain ⟨x0, x1, _, _, hz⟩ := box_cells X8.out
          clear ho8 hb8 NDA NDB R3 R4 R5 R6 R7 R8 DO7 TW XX
          go_wp2_with fail
          go_loopw [101] (fun i wr => ∃ (j2 : Nat) (M : List Nd) (po go ho pb gb hb : Nat), j2 ≤ n2 ∧ i = .int .i64 j2 ∧ DgA wr (w.heap.size + 1) qa pa ga ha 1 l k j L ∧ Two wr (w.heap.size + 1) qo po go ho qb pb gb hb 1 2 l k (j + j2) M M ∧
            (∀ i, dgF qa pa ga ha i → ¬ dgF qo po go ho i) ∧ (∀ i, dgF qa pa ga ha i → ¬ dgF qb pb gb hb i) ∧ OwnNd 74 wr 0 (.slice A8 m8 c8) L ∧ (∀ i, (Value.slice A8 m8 c8).ownBlock = some i → ¬ dgF qo po go ho i) ∧ (∀ i, (Value.slice A8 m8 c8).ownBlock = some i → ¬ dgF qb pb gb hb i) ∧ Below w.heap.size w wr) (fun i _ => n2 - (intOf i).toNat)
          case atStart => exact ⟨0, L, po, go, ho, pb, gb, hb, by omega, rfl, DA8.out, T8.out, AO8.out, AB8.out, OW8.out, WO8.out, WB8.out, BB8.out⟩
          case round =>
            clear DA8 T8 AO8 AB8 OW8 WO8 WB8 x0 x1 hz
            rename_i wr
            obtain ⟨j2, M, po, go, ho, pb, gb, hb, hj2, rfl, hda, ht, hao, hab, how, hwo, hwb, hbw⟩ := hrel
            have DA := Lib.hid hda
            have TW := Lib.hid ht
            have AO := Lib.hid hao
            have AB := Lib.hid hab
            have OW := Lib.hid how
            have WO := Lib.hid hwo
            have WB := Lib.hid hwb
            have BB := Lib.hid hbw
            have hzr := hbw.size
            clear hda ht hao hab how hwo hwb
            by_cases hlt : j2 < n2
            · have hk2 : j2 < O2.length := by have := HL2.out; omega
              obtain ⟨bq, o, rfl, hin⟩ := HA2.out (by have := HL2.out; omega)
              obtain ⟨e0, e1, e2⟩ := (hin.below hbw hin.1).2 j2 hk2
              have hbd := obds_at HBB2.out hk2
              obtain ⟨_, ⟨b2, b3⟩, b4, b5⟩ := hbd
              have hbl := hin.1
              clear hin hbw
              generalize O2.getD j2 plz = r at *
              obtain ⟨⟨kq, id⟩, cc⟩ := r
              simp only at e0 e1 e2 b2 b3 b4 b5
              have hba : Below wr.heap.size wr (wr.alloc (.cells #[.int .i64 kq, .int .i64 id, .int .i64 cc] 39)) := (Below.refl _ _).alloc (Nat.le_refl _) _
              have TR := Lib.hid (tri_nw wr 39 (.int .i64 kq) (.int .i64 id) (.int .i64 cc))
              have T1 := Lib.hid (TW.out.below hba)
              have DA1 := Lib.hid (DA.out.below hba)
              have OW1 := Lib.hid (own_below OW.out hba)
              have BB1 := Lib.hid (BB.out.trans (hba.mono hzr))
              have NA : Hid (∀ i, dgF qo po go ho i → i ≠ wr.heap.size) := fun i f => by have := (TW.out.a.lt i f).2; omega
              clear hba
              go_wp2_with fail
              generalize wr.alloc (.cells #[.int .i64 kq, .int .i64 id, .int .i64 cc] 39) = W1 at *
              refine (dgLdo_any kq id cc W1 T1.out.a (by omega) b2 b3 b4 b5).mono ?_
              rintro e v1 ⟨rfl, po2, go2, ho2, hda, hka, hna⟩
              have T2 := Lib.hid (T1.out.one (Nat.le_succ _) hda hka hna)
              have TR2 := Lib.hid (own_kp TR.out hka fun i e f => by
                simp only [Value.ownBlock, Option.some.injEq] at e
                exact NA.out i f e.symm)
              have DA2 := Lib.hid (DA1.out.kp hka fun i f g => AO.out i g f)
              have OW2 := Lib.hid (own_kp OW1.out hka fun i e f => WO.out i e f)
              have AO2 : Hid (∀ i, dgF qa pa ga ha i → ¬ dgF qo po2 go2 ho2 i) := fun i f g => by
                rcases hna i g with z | z
                · exact AO.out i f z
                · have := (DA1.out.lt i f).2; omega
              have WO2 : Hid (∀ i, (Value.slice A8 m8 c8).ownBlock = some i → ¬ dgF qo po2 go2 ho2 i) := fun i e g => by
                rcases hna i g with z | z
                · exact WO.out i e z
                · have := (World.ownsRow.lt OW1.out i e).2; omega
              have BB2 : Hid (Below w.heap.size w v1) := BB1.out.trans (hka.below (fun i _ f => by have := (T1.out.a.lt i f).1; omega) BB1.out.size)
              obtain ⟨t0, t1, t2, _, _, _, ht⟩ := tri_all TR2.out
              have DB2 := Lib.hid (T1.out.b.kp hka T1.out.ab)
              clear hda hka hna e0 e1 e2
              generalize dgTell l k M kq id cc = tt at *
              go_wp2_with fail
              refine (dgLdo_any kq id cc v1 DB2.out (by omega) b2 b3 b4 b5).mono ?_
              rintro e v2 ⟨rfl, pb2, gb2, hb2, hdb, hkb, hnb⟩
              have T3 := Lib.hid (T2.out.two (Nat.le_refl _) hdb hkb hnb)
              have DA3 := Lib.hid (DA2.out.kp hkb fun i f g => AB.out i g f)
              have OW3 := Lib.hid (own_kp OW2.out hkb fun i e f => WB.out i e f)
              have AB3 : Hid (∀ i, dgF qa pa ga ha i → ¬ dgF qb pb2 gb2 hb2 i) := fun i f g => by
                rcases hnb i g with z | z
                · exact AB.out i f z
                · have := (DA2.out.lt i f).2; omega
              have WB3 : Hid (∀ i, (Value.slice A8 m8 c8).ownBlock = some i → ¬ dgF qb pb2 gb2 hb2 i) := fun i e g => by
                rcases hnb i g with z | z
                · exact WB.out i e z
                · have := (World.ownsRow.lt OW2.out i e).2; omega
              have BB3 : Hid (Below w.heap.size w v2) := BB2.out.trans (hkb.below (fun i _ f => by have := (T2.out.b.lt i f).1; omega) BB2.out.size)
              clear hdb hkb hnb t0 t1 t2 ht
              go_wp2_with fail
              go_roundw
              case rel => exact ⟨j2 + 1, dgDo l k M kq id cc, po2, go2, ho2, pb2, gb2, hb2, by omega, by go_num, DA3.out, ⟨T3.out.a.more (by omega), T3.out.b.more (by omega), T3.out.ab⟩, AO2.out, AB3.out, OW3.out, WO2.out, WB3.out, BB3.out⟩
              case measure => simp [intOf]; omega
            · obtain rfl : j2 = n2 := by omega
              have hjn : j ≤ 100 := hn
              have NDA := Lib.hid (dgNodes_any wr DA.out.box DA.out.po (by omega))
              clear hlt hbw
              go_wp2_with fail
              refine NDA.out.mono ?_
              rintro e w3 ⟨A3, m3, c3, rfl, ho3, hb3⟩
              have SM3 := Lib.hid (dgSame_below (rSame_any A3 A8 m3 c3 m8 c8 L L w3 (ownNd_nodes ho3) (ownNd_nodes (own_below OW.out hb3)) (by have a1 := (nodes_cells (ownNd_nodes ho3)).1; have a2 := LL8.out; omega) (by have a1 := ML8.out; have a2 := LL8.out; omega)))
              rw [same_self] at SM3
              have R3 := Lib.hid hb3
              clear ho3 hb3 NDA
              go_wp2_with fail
              refine SM3.out.mono ?_
              rintro e w4 ⟨rfl, hb4⟩
              have R4 := Lib.hid (R3.out.trans (hb4.mono R3.out.size))
              clear hb4 SM3
              have SM4 := Lib.hid (dgSame_any w4 (TW.out.a.below R4.out) (TW.out.b.below R4.out) (by omega) (by omega))
              rw [same_self] at SM4
              go_wp2_with fail
              refine SM4.out.mono ?_
              rintro e w5 ⟨rfl, hb5⟩
              have R5 := Lib.hid (R4.out.trans (hb5.mono R4.out.size))
              clear hb5 SM4
              have SM5 := Lib.hid (dgSame_any w5 (DA.out.below R5.out) (TW.out.a.below R5.out) (by omega) (by omega))
              have OM : Hid (M.length ≤ 140) := by have a2 := TW.out.a.po.len; show _ ≤ _; omega
              have SM7 := Lib.hid (fun (v : World) (A6 : Option Addr) (m6 c6 : Nat) (hb : Below wr.heap.size wr v) (ho : NodesAt v (.slice A6 m6 c6) M) => dgSame_below (rSame_any A8 A6 m8 c8 m6 c6 L M v (ownNd_nodes (own_below OW.out hb)) ho (by have a1 := ML8.out; have a2 := LL8.out; omega) (by have a1 := (nodes_cells ho).1; have a2 := OM.out; omega)))
              generalize sameB L M = bb at *
              go_wp2_with fail
              refine SM5.out.mono ?_
              rintro e w6 ⟨rfl, hb6⟩
              have R6 := Lib.hid (R5.out.trans (hb6.mono R5.out.size))
              clear hb6 SM5
              have NDO := Lib.hid (dgNodes_any w6 (TW.out.a.below R6.out).box (TW.out.a.below R6.out).po (by omega))
              go_wp2_with fail
              refine NDO.out.mono ?_
              rintro e w7 ⟨A6, m6, c6, rfl, ho6, hb7⟩
              have R7 := Lib.hid (R6.out.trans (hb7.mono R6.out.size))
              have SM8 := Lib.hid (SM7.out w7 A6 m6 c6 R7.out (ownNd_nodes ho6))
              have BB7 := Lib.hid (BB.out.trans (R7.out.mono BB.out.size))
              have hbe : (bb == bb) = true := by simp
              clear hb7 ho6 SM7 NDO
              go_wp2_with fail
              refine SM8.out.mono ?_
              rintro e w8 ⟨rfl, hb8⟩
              have BB8 := Lib.hid (BB7.out.trans (hb8.mono BB7.out.size))
              clear hb8 SM8
              go_wp2_with (go_at_call 11; refine (dgAlive_any _).mono ?_; rintro e w9 ⟨rfl, hb9⟩)
              go_ret
              exact ⟨rfl, BB8.out.trans (hb9.mono BB8.out.size)⟩

end Go.Proofs.YtfilmblpikcpnaaGreat
