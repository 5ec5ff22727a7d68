/- The document's answers of package dewpondref10: SameItems, Same, Wider, Kth. -/
import Derived.Test.YtfleaaokbjgljaaBgRef3
namespace Go.Proofs.Ytfleaaokbjgljaa
set_option linter.unusedVariables false
set_option maxRecDepth 100000
open Go.RowKit
attribute [local go_sem ↓] Go.wp_at_zero Go.wp_at_succ

set_option maxHeartbeats 1600000 in
theorem rgSameItems_any (A A2 : Option Addr) (n c n2 c2 : Nat) (L M : List Nd) (w : World) (h : NodesAt w (.slice A n c) L) (h2 : NodesAt w (.slice A2 n2 c2) M) (hn : n ≤ 1000000) (hn2 : n2 ≤ 1000000) :
    Calls Try.prog 34 #[.slice A n c, .slice A2 n2 c2] w (RSame L M w) := by
  obtain ⟨hlen, hlc, hcm, hat⟩ := nodes_cells h
  obtain ⟨hlen2, hlc2, hcm2, hat2⟩ := nodes_cells h2
  have HL := Lib.hid hlen
  have HA := Lib.hid hat
  have HL2 := Lib.hid hlen2
  have HA2 := Lib.hid hat2
  clear hlen hat h hlc hcm hlen2 hat2 h2 hlc2 hcm2
  by_cases hll : n = n2
  · subst hll
    go_enter Try.func34, Try.ntmps34
    go_wp2_with fail
    go_loopw [5] (fun i wr => ∃ (k q : Nat), k ≤ n ∧ i = .int .i64 k ∧ L.take k = M.take k ∧ wr = w.drewN q) (fun i _ => n - (intOf i).toNat)
    case atStart => exact ⟨0, 0, by omega, rfl, rfl, rfl⟩
    case round =>
      rename_i wr
      obtain ⟨k, q, hk, rfl, hinv, rfl⟩ := hrel
      have INV := Lib.hid hinv
      clear hinv
      by_cases hlt : k < n
      · have hk2 : k < L.length := by have := HL.out; omega
        have hk3 : k < M.length := by have := HL2.out; omega
        obtain ⟨b, o, rfl, hin⟩ := HA.out (by omega)
        obtain ⟨b2, o2, rfl, hin2⟩ := HA2.out (by omega)
        have e0 := (hin.2 k hk2).1
        have e1 := (hin.2 k hk2).2
        have e2 := (hin2.2 k hk3).1
        have e3 := (hin2.2 k hk3).2
        have hst := Lib.hid (fun q => same_step hk2 hk3 INV.out q)
        have hno := Lib.hid (fun q => same_at (L := L) (M := M) (k := k) q)
        have hi0 : (0 : Int) ≤ (k : Int) := Int.natCast_nonneg _
        have hi1 : (k : Int) < (n : Int) := by omega
        clear hin hin2
        generalize L.getD k nz = r at *
        generalize M.getD k nz = s at *
        obtain ⟨i1, x1⟩ := r
        obtain ⟨i2, x2⟩ := s
        simp only at e0 e1 e2 e3
        by_cases qq : i1 = i2 ∧ x1 = x2
        · obtain ⟨rfl, rfl⟩ := qq
          have ST := Lib.hid (hst.out rfl)
          have hne : ∀ w, (binOp .neq 31 (.agg #[.int .i64 i1, .int .i64 x1]) (.agg #[.int .i64 i1, .int .i64 x1])).run Try.prog w = .ok (.bool false) w := fun w => by rw [run_neq_reads]; simp
          clear hst hno
          go_wp2_with fail
          go_quiet (fail)
          go_wp2_with fail
          go_roundw
          case rel => exact ⟨k + 1, _, by omega, by go_num, ST.out, rfl⟩
          case measure => simp [intOf]; omega
        · have NO := Lib.hid (hno.out (fun e => qq (by injection e with e1 e2; exact ⟨e1, e2⟩)))
          have hne : ∀ w, (binOp .neq 31 (.agg #[.int .i64 i1, .int .i64 x1]) (.agg #[.int .i64 i2, .int .i64 x2])).run Try.prog w = .ok (.bool true) w := fun w => by rw [run_neq_reads]; simp; omega
          clear hst hno
          go_wp2_with fail
          go_quiet (fail)
          go_wp2_with fail
          go_ret
          exact rsame_post NO.out ⟨_, World.drewN_drewN ..⟩
      · go_wp2_with fail
        go_ret
        exact rsame_post (same_end (by rw [← HL.out, ← HL2.out]) (by have q := INV.out; rwa [show k = L.length by have := HL.out; omega] at q)) ⟨_, rfl⟩
  · have hno := Lib.hid (same_len (L := L) (M := M) (by rw [← HL.out, ← HL2.out]; exact hll))
    have hll' : ((n : Int) != (n2 : Int)) = true := by rw [bne_iff_ne]; omega
    go_enter Try.func34, Try.ntmps34
    go_wp2_with fail
    go_ret
    exact rsame_post hno.out ⟨0, rfl⟩
set_option maxHeartbeats 1600000 in
theorem rgSame_any (l m : Int) (A A2 : Option Addr) (n c n2 c2 : Nat) (L M : List Nd) (w : World) (h : NodesAt w (.slice A n c) L) (h2 : NodesAt w (.slice A2 n2 c2) M) (hn : n ≤ 1000000) (hn2 : n2 ≤ 1000000) :
    Calls Try.prog 23 #[.agg #[.int .i64 l, .slice A n c], .agg #[.int .i64 m, .slice A2 n2 c2]] w fun e w' => e = .returned (.bool (decide (l = m ∧ L = M))) ∧ Below w.heap.size w w' := by
  have hb0 := below_two w (.cells #[.int .i64 l, .slice A n c] 29) (.cells #[.int .i64 m, .slice A2 n2 c2] 29)
  have HB := Lib.hid hb0
  have EQ := Lib.hid (fun k => rgSameItems_any A A2 n c n2 c2 L M (((w.alloc (.cells #[.int .i64 l, .slice A n c] 29)).alloc (.cells #[.int .i64 m, .slice A2 n2 c2] 29)).drewN k) ((h.below hb0).below (drewN_below (Below.refl _ _) k)) ((h2.below hb0).below (drewN_below (Below.refl _ _) k)) hn hn2)
  clear h h2 hb0
  by_cases q : l = m
  · subst q
    have R : Hid (decide (l = l ∧ L = M) = sameB L M) := by show _ = _; simp [sameB]
    go_enter Try.func23, Try.ntmps23
    go_wp2_with (first | (go_at_call 34; refine (EQ.out 0).mono ?_; rintro e w1 ⟨rfl, k2, rfl⟩))
    go_ret
    exact ⟨ret_b R.out.symm, drewN_below HB.out _⟩
  · have R : Hid (decide (l = m ∧ L = M) = false) := decide_eq_false fun h => q h.1
    have q' : (l == m) = false := by simpa using q
    go_enter Try.func23, Try.ntmps23
    go_wp2_with (first | (go_at_call 34; refine (EQ.out 0).mono ?_; rintro e w1 ⟨rfl, k2, rfl⟩))
    go_ret
    exact ⟨ret_b R.out.symm, HB.out⟩
theorem rgWider_no (l m : Int) (A : Option Addr) (n c : Nat) (w : World) (h : m < l ∨ 48 < m) :
    Calls Try.prog 29 #[.agg #[.int .i64 l, .slice A n c], .int .i64 m] w fun e w' => e = .returned (.tuple #[.agg #[.int .i64 0, .slice none 0 0], .int .i64 2]) ∧ Below w.heap.size w w' := by
  by_cases q : m < l
  · go_enter Try.func29, Try.ntmps29
    go_wp2_with fail
    exact bodyPost_ret (v := .tuple #[.agg #[.int .i64 0, .slice none 0 0], .int .i64 2]) (by simp [results, Try.results29, go_sem]) rfl ⟨rfl, below_two ..⟩
  · have q2 : 48 < m := by omega
    clear h
    go_enter Try.func29, Try.ntmps29
    go_wp2_with fail
    exact bodyPost_ret (v := .tuple #[.agg #[.int .i64 0, .slice none 0 0], .int .i64 2]) (by simp [results, Try.results29, go_sem]) rfl ⟨rfl, below_two ..⟩
theorem rgWider_any (l m : Int) (A : Option Addr) (n c : Nat) (w : World) (h1 : ¬ m < l) (h2 : ¬ 48 < m) :
    Calls Try.prog 29 #[.agg #[.int .i64 l, .slice A n c], .int .i64 m] w fun e w' => e = .returned (.tuple #[.agg #[.int .i64 m, .slice A n c], .int .i64 0]) ∧ Below w.heap.size w w' := by
  go_enter Try.func29, Try.ntmps29
  go_wp2_with fail
  exact bodyPost_ret (v := .tuple #[.agg #[.int .i64 m, .slice A n c], .int .i64 0]) (by simp [results, Try.results29, go_sem]) rfl ⟨rfl, below_two ..⟩
set_option maxHeartbeats 3200000 in
theorem rgKth_any (l r : Int) (A : Option Addr) (n c : Nat) (L : List Nd) (w : World) (h : NodesAt w (.slice A n c) L) (hC : BagC l L) (hn : n ≤ 400000) (R0 : -9223372036854775808 ≤ r) (R1 : r ≤ 9223372036854775807) :
    Calls Try.prog 16 #[.agg #[.int .i64 l, .slice A n c], .int .i64 r] w fun e w' => e = .returned (.tuple #[.int .i64 (kthV L r), .int .i64 (kthE L r)]) ∧ Below w.heap.size w w' := by
  have hb0 : Below w.heap.size w (w.alloc (.cells #[.int .i64 l, .slice A n c] 29)) := (Below.refl _ _).alloc (Nat.le_refl _) _
  have HB := Lib.hid hb0
  obtain ⟨hlen, hlc, hcm, hat⟩ := nodes_cells h
  have HN := Lib.hid h
  have HL := Lib.hid hlen
  have HC := Lib.hid hC
  have s0 := hC.tot0
  have TOT := Lib.hid (fun w1 (hb : Below w.heap.size w w1) => rgTotal_any l A n c L w1 (h.below hb) (good_nonneg hC.good) hC.tot (by omega))
  have RK := Lib.hid (fun y w1 (hb : Below w.heap.size w w1) => rgRank_any l y A n c L w1 (h.below hb) (good_nonneg hC.good) hC.tot (by omega))
  rcases Nat.eq_zero_or_pos n with h0 | h0
  · have H := Lib.hid (kth_empty (L := L) (r := r) (List.eq_nil_of_length_eq_zero (by omega)))
    subst h0
    clear hlen hlc hcm hat h hC hb0
    go_enter Try.func16, Try.ntmps16
    go_wp2_with fail
    go_ret2
    exact ⟨ret2_n ⟨H.out.2.symm, H.out.1.symm⟩, HB.out⟩
  · have hL : ¬ L = [] := fun e => by rw [e] at hlen; simp at hlen; omega
    have hne : ((n : Int) == 0) = false := by simp; omega
    by_cases q1 : r < 1
    · have H := Lib.hid (kth_arg hL (.inl q1))
      clear hlen hlc hcm hat h hC hb0
      go_enter Try.func16, Try.ntmps16
      go_wp2_with (go_at_call 36; refine (TOT.out _ HB.out).mono ?_; rintro e w2 ⟨rfl, hb2⟩)
      go_ret2
      exact ⟨ret2_n ⟨H.out.2.symm, H.out.1.symm⟩, HB.out⟩
    · by_cases q2 : sumC L < r
      · have H := Lib.hid (kth_arg hL (.inr q2))
        clear hlen hlc hcm hat h hC hb0
        generalize sumC L = T at *
        go_enter Try.func16, Try.ntmps16
        go_wp2_with (go_at_call 36; refine (TOT.out _ HB.out).mono ?_; rintro e w2 ⟨rfl, hb2⟩)
        go_ret2
        exact ⟨ret2_n ⟨H.out.2.symm, H.out.1.symm⟩, HB.out.trans (hb2.mono HB.out.size)⟩
      · have H := Lib.hid (kth_ok hL (show ¬ (r < 1 ∨ sumC L < r) by omega))
        have NN := Lib.hid (good_nonneg hC.good)
        have x0 : (w.alloc (.cells #[.int .i64 l, .slice A n c] 29)).cell? ⟨w.heap.size, 0, none⟩ = some (.int .i64 l) := by simp
        have x1 : (w.alloc (.cells #[.int .i64 l, .slice A n c] 29)).cell? ⟨w.heap.size, 1, none⟩ = some (.slice A n c) := by simp
        have hzW : (w.alloc (.cells #[.int .i64 l, .slice A n c] 29)).heap.size = w.heap.size + 1 := by simp
        have R0' : Hid (sumC (L.take 0) < r) := by show _ < _; simp [sumC]; omega
        have TT := Lib.hid hC.tot
        have Q2 := Lib.hid q2
        clear hlen hlc hcm hat h hC hb0 hL
        generalize hT : sumC L = T at *
        have HT := Lib.hid hT
        clear hT
        go_enter Try.func16, Try.ntmps16
        go_wp2_with fail
        generalize w.alloc (.cells #[.int .i64 l, .slice A n c] 29) = W at *
        refine (TOT.out _ HB.out).mono ?_
        rintro e w2 ⟨rfl, hb2⟩
        have y0 := (hb2.cell (p := ⟨w.heap.size, 0, none⟩) (by show w.heap.size < _; omega)).trans x0
        have y1 := (hb2.cell (p := ⟨w.heap.size, 1, none⟩) (by show w.heap.size < _; omega)).trans x1
        have hz2 := hb2.size
        have HB2 : Hid (Below w.heap.size w w2) := HB.out.trans (hb2.mono HB.out.size)
        clear x0 x1 hb2 TOT
        go_wp2_with fail
        go_loopw [6] (fun i wr => ∃ k : Nat, k < n ∧ i = .int .i64 (k : Int) ∧ sumC (L.take k) < r ∧ Below w2.heap.size w2 wr) (fun i _ => n - (intOf i).toNat)
        case atStart => exact ⟨0, h0, rfl, R0'.out, Below.refl ..⟩
        case round =>
          obtain ⟨k, hk, rfl, hlo, hb⟩ := hrel
          have zs := hb.size
          have hk2 : k < L.length := by have := HL.out; omega
          obtain ⟨b, o, rfl, hin⟩ := (nodes_cells (HN.out.below (HB2.out.trans (hb.mono HB2.out.size)))).2.2.2 (by omega)
          have e0 := (hin.2 k hk2).1
          have z0 := (hb.cell (p := ⟨w.heap.size, 0, none⟩) (by show w.heap.size < _; omega)).trans y0
          have z1 := (hb.cell (p := ⟨w.heap.size, 1, none⟩) (by show w.heap.size < _; omega)).trans y1
          have hbb := Lib.hid hin.1
          have hbw : Hid (w.heap.size < wr.heap.size) := by show _ < _; omega
          have RAT := Lib.hid (rank_at HC.out.good (fun m hm => (HC.out.bds m hm).1.1) hk2)
          have hk0 : (0 : Int) ≤ (k : Int) := Int.natCast_nonneg _
          have hk1 : (k : Int) < (n : Int) := by omega
          have RKk := Lib.hid (fun w3 (hq : Below wr.heap.size wr w3) => RK.out (L.getD k nz).1 w3 ((HB2.out.trans (hb.mono HB2.out.size)).trans (hq.mono (by have := HB2.out.size; omega))))
          have LO := Lib.hid hlo
          have TB : sumC (L.take (k + 1)) ≤ T := by have := sum_take_le NN.out (k + 1); rw [HT.out] at this; exact this
          have KA := Lib.hid (fun q => kth_at L k r NN.out hk2 LO.out q)
          have NX : Hid (sumC (L.take (k + 1)) < r → k + 1 < n) := fun q => by
            rcases Nat.lt_or_ge (k + 1) n with g | g
            · exact g
            · exfalso
              have e : L.take (k + 1) = L := List.take_of_length_le (by have := HL.out; omega)
              rw [e, HT.out] at q
              have := Q2.out
              omega
          rw [RAT.out] at RKk
          clear hin hlo RAT
          generalize (L.getD k nz).1 = y at *
          generalize hS : sumC (L.take (k + 1)) = S at *
          have HS := Lib.hid hS
          clear hS
          go_wp2_with fail
          go_region_held3 (fun w' => w'.cell? ⟨w.heap.size, 0, none⟩ = some (.int .i64 l) ∧ w'.cell? ⟨w.heap.size, 1, none⟩ = some (.slice (some ⟨b, o, none⟩) n c) ∧ w'.cell? ⟨b, o + k * 2, none⟩ = some (.int .i64 y) ∧ Below wr.heap.size wr w')
            (first | assumption | (exact held3 (by assumption) (by assumption) hbw.out hbw.out hbb.out) | (exact held3N (by assumption) _) | (exact ⟨z0, z1, e0, below_drew _⟩))
            (first | (go_at_call 18; refine (RKk.out _ (held3B (p := ⟨w.heap.size, 0, none⟩) (q := ⟨w.heap.size, 1, none⟩) (r := ⟨b, o + k * 2, none⟩) (x := .int .i64 l) (y := .slice (some ⟨b, o, none⟩) n c) (z := .int .i64 y) (by assumption))).mono ?_; rintro e w4 ⟨rfl, hb4⟩))
          rename_i hH
          obtain ⟨v0, v1, v2, hbr⟩ := hH
          have hbr2 := hb.trans (hbr.mono zs)
          by_cases qs : S < r
          · have hk4 := NX.out qs
            go_wp2_with fail
            go_roundw
            case rel => exact ⟨k + 1, hk4, by go_num, by rw [HS.out]; exact qs, hbr2⟩
            case measure => simp [intOf]; omega
          · have K := Lib.hid (KA.out (by omega))
            go_wp2_with fail
            go_ret2
            exact ⟨ret2_n ⟨by rw [H.out.2, K.out], H.out.1.symm⟩, HB2.out.trans (hbr2.mono HB2.out.size)⟩

end Go.Proofs.Ytfleaaokbjgljaa
