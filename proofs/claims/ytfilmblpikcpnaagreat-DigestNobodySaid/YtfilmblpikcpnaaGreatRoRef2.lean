/- The document's answers of package dewpondref06: put, Sorted. -/
import Derived.Test.YtfilmblpikcpnaaGreatRoRef
import Derived.Test.YtfilmblpikcpnaaGreatMmy
import Derived.Test.YtfilmblpikcpnaaGreatRo4
import Derived.Laws.AppendOwnNone
namespace Go.Proofs.YtfilmblpikcpnaaGreat
set_option linter.unusedVariables false
open Go.RowKit

set_option maxHeartbeats 3200000 in
theorem put_any (A : Option Addr) (n c k : Nat) (L : List Nd) (x y : Int) (w : World) (h : NodesAt w (.slice A n c) L) (hk : k ≤ n) (hn : n ≤ 1000000) :
    Calls Tryz.prog 145 #[.slice A n c, .int .i64 (k : Int), .agg #[.int .i64 x, .int .i64 y]] w (RowPost (L.take k ++ (x, y) :: L.drop k) w) := by
  obtain ⟨i0, hi, hz0, hz1, hz2⟩ := info_parts node_info
  have HN := Lib.hid h
  have HL := Lib.hid (nodes_cells h).1
  have hlc : n ≤ c := by have := (nodes_cells h).2.1; have := (nodes_cells h).1; omega
  have hbx : Hid (Below w.heap.size w (w.alloc (.cells #[.int .i64 x, .int .i64 y] 74))) := (Below.refl _ _).alloc (Nat.le_refl _) _
  have own0 := ownNd_nil 74 (w.alloc (.cells #[.int .i64 x, .int .i64 y] 74)) w.heap.size
  clear h
  cases A with
  | none =>
    obtain ⟨rfl, rfl, rfl⟩ := nodes_none HN.out
    obtain rfl : k = 0 := by omega
    have hsa := sl_to (P := Tryz.prog) Tryz.underlying32 hi hz1 none 0 0 0 (Nat.le_refl _)
    have hsb := sl_from_none (P := Tryz.prog) Tryz.underlying32 hi hz1
    clear hk hn hlc
    go_enter Tryz.func145, Tryz.ntmps145
    go_wp2_with (first | (at_builtin; refine wpList_append_own_none rfl (.tmp 8) (.tmp 11) 32 rfl w.heap.size 74 i0 2 Tryz.underlying32 hi _ 0 [] rfl own0 rfl ?_) | (at_builtin; refine wpList_append_own _ rfl (.tmp 13) (.tmp 15) 32 rfl w.heap.size 74 i0 (.agg #[.int .i64 0, .int .i64 0]) 2 16 Tryz.underlying32 hi hz0 hz1 hz2 rfl (by decide) _ 0 [] rfl (World.ownsRow.alloc own0 _) ⟨w.heap.size + 1, 0, none⟩ 1 1 [.int .i64 x, .int .i64 y] rfl rfl (two_new _ _ _ _ _ (by simp)) (two_cell _ _) (by unfold maxLen; omega) (by omega) (by simp; omega) ?_))
    intro v1 w1 hown1 hgrow1 _
    obtain ⟨A3, m3, c3, rfl⟩ := ownNd_slice hown1
    have OWN1 : Hid (w1.ownsRow w.heap.size 74 2 (.slice A3 m3 c3) 1 [.int .i64 x, .int .i64 y]) := by have q := hown1; show World.ownsRow _ _ _ _ _ _ _; simpa using q
    have hb1 : Below w.heap.size w w1 := (hbx.out.alloc (by simp) _).grown hgrow1 (by simp; omega) (fun g hg => by simp [Value.ownBlock] at hg)
    go_wp2_with (at_builtin; refine wpList_append_own_none rfl (.tmp 17) (.tmp 20) 32 rfl w.heap.size 74 i0 2 Tryz.underlying32 hi (.slice A3 m3 c3) 1 [.int .i64 x, .int .i64 y] rfl OWN1.out rfl ?_)
    go_ret
    exact ⟨_, rfl, ownNd_nodes (e := 74) (B := w.heap.size) OWN1.out, hb1⟩
  | some a =>
    have hsa := sl_to (P := Tryz.prog) Tryz.underlying32 hi hz1 (some a) n c k (by omega)
    have hsb := sl_from (P := Tryz.prog) Tryz.underlying32 hi hz1 a n c k hk
    have hc := Lib.hid (nodes_cut HN.out hk)
    have AT1 := Lib.hid (nodes_cells hc.out.1).2.2.2
    have AT2 := Lib.hid (nodes_cells hc.out.2).2.2.2
    have N1 := Lib.hid (show (nods (L.take k)).length = k * 2 by rw [nods_len, ← (nodes_cells hc.out.1).1])
    have N2 := Lib.hid (show (nods (L.drop k)).length = (n - k) * 2 by rw [nods_len, ← (nodes_cells hc.out.2).1])
    go_enter Tryz.func145, Tryz.ntmps145
    go_wp2_with (at_builtin; refine wpList_append_own _ rfl (.tmp 8) (.tmp 11) 32 rfl w.heap.size 74 i0 (.agg #[.int .i64 0, .int .i64 0]) 2 16 Tryz.underlying32 hi hz0 hz1 hz2 rfl (by decide) _ 0 [] rfl own0 a k c (nods (L.take k)) rfl N1.out (AT1.out.news hbx.out) (nods_one _) (by unfold maxLen; omega) (by omega) (by simp) ?_)
    intro v1 w1 hown1 hgrow1 _
    have hb1 : Below w.heap.size w w1 := hbx.out.grown hgrow1 (by simp) (fun g hg => by simp [Value.ownBlock] at hg)
    have zs1 := hgrow1.size
    have x0 : w1.cell? ⟨w.heap.size, 0, none⟩ = some (.int .i64 x) := (grown_cell hgrow1 (by simp) (by simp [Value.ownBlock])).trans (by simp)
    have x1 : w1.cell? ⟨w.heap.size, 1, none⟩ = some (.int .i64 y) := (grown_cell hgrow1 (by simp) (by simp [Value.ownBlock])).trans (by simp)
    have OWN1 := Lib.hid hown1
    obtain ⟨A3, m3, c3, rfl⟩ := ownNd_slice hown1
    simp at zs1
    clear hown1 hgrow1 own0
    go_wp2_with (at_builtin; refine wpList_append_own _ rfl (.tmp 13) (.tmp 15) 32 rfl w.heap.size 74 i0 (.agg #[.int .i64 0, .int .i64 0]) 2 16 Tryz.underlying32 hi hz0 hz1 hz2 rfl (by decide) (.slice A3 m3 c3) k (nods (L.take k)) rfl (World.ownsRow.alloc OWN1.out _) ⟨w1.heap.size, 0, none⟩ 1 1 [.int .i64 x, .int .i64 y] rfl rfl (two_new _ _ _ _ _ (by simp)) (two_cell _ _) (by unfold maxLen; omega) (by omega) (by simp; omega) ?_)
    intro v2 w2 hown2 hgrow2 _
    have hb2 : Below w.heap.size w w2 := (hb1.alloc hb1.size _).grown hgrow2 (by simp; omega) (fun g hg => (World.ownsRow.lt OWN1.out g hg).1)
    have zs2 := hb2.size
    have OWN2 := Lib.hid hown2
    obtain ⟨A4, m4, c4, rfl⟩ := ownNd_slice hown2
    clear hown2 hgrow2 x0 x1
    go_wp2_with (at_builtin; refine wpList_append_own _ rfl (.tmp 17) (.tmp 20) 32 rfl w.heap.size 74 i0 (.agg #[.int .i64 0, .int .i64 0]) 2 16 Tryz.underlying32 hi hz0 hz1 hz2 rfl (by decide) (.slice A4 m4 c4) (k + 1) (nods (L.take k) ++ [.int .i64 x, .int .i64 y]) rfl OWN2.out (advA a c k 2) (n - k) (c - k) (nods (L.drop k)) rfl N2.out (AT2.out.news hb2) (nods_one _) (by unfold maxLen; omega) (by omega) zs2 ?_)
    intro v3 w3 hown3 hgrow3 _
    have hb3 : Below w.heap.size w w3 := hb2.grown hgrow3 zs2 (fun g hg => (World.ownsRow.lt OWN2.out g hg).1)
    go_wp2_with fail
    go_ret
    refine ⟨_, rfl, ownNd_nodes (e := 74) (B := w.heap.size) ?_, hb3⟩
    unfold OwnNd
    rw [ins_len HL.out.symm hk, nods_app]
    have e : k + 1 + (n - k) = n + 1 := by omega
    rw [e] at hown3
    simpa [nods] using hown3
set_option maxHeartbeats 3200000 in
set_option maxRecDepth 100000 in
theorem rSorted_any (A : Option Addr) (n c : Nat) (L : List Nd) (w : World) (h : NodesAt w (.slice A n c) L) (hn : n ≤ 1000000) :
    Calls Tryz.prog 128 #[.slice A n c] w (OrdPost L w) := by
  have HN := Lib.hid h
  have HL := Lib.hid (nodes_cells h).1
  have HA := Lib.hid (nodes_cells h).2.2.2
  clear h
  go_enter Tryz.func128, Tryz.ntmps128
  go_wp2_with fail
  go_loopw [3, 4, 5] (fun v i at' wr => ∃ (k : Nat) (S : List Nd) (A2 : Option Addr) (c2 : Nat), k ≤ n ∧ i = .int .i64 k ∧ v = .slice A2 k c2 ∧ NodesAt wr (.slice A2 k c2) S ∧ Srt idA (L.take k) S ∧ Below w.heap.size w wr) (fun _ i _ _ => n - (intOf i).toNat)
  case atStart => exact ⟨0, [], none, 0, by omega, rfl, rfl, nodes_nil w, Srt.small idA (by simp), Below.refl ..⟩
  case round =>
    rename_i wr
    obtain ⟨k, S, A2, c2, hk, rfl, rfl, hnS, hs, hb⟩ := hrel
    have NS := Lib.hid hnS
    have HS := Lib.hid hs
    have hSl : Hid (k = S.length) := (nodes_cells hnS).1
    have SA := Lib.hid (nodes_cells hnS).2.2.2
    obtain ⟨wo, hwo⟩ : ∃ wo : World, wo = wr := ⟨_, rfl⟩
    subst hwo
    have hzo := hb.size
    clear hnS hs
    by_cases hlt : k < n
    · have hk2 : k < L.length := by have := HL.out; omega
      obtain ⟨b, o, rfl, hin⟩ := HA.out (by omega)
      have hin2 := hin.below hb hin.1
      have e0 := (hin2.2 k hk2).1
      have e1 := (hin2.2 k hk2).2
      have NX := Lib.hid (fun (j : Nat) q0 q1 q2 => ins_next (j := j) idA_ahd hk2 q0 HS.out q1 q2)
      have hkI : (k : Int) < (n : Int) := by omega
      have hkI0 : (0 : Int) ≤ (k : Int) := Int.natCast_nonneg _
      clear hin hin2
      generalize L.getD k nz = r at *
      obtain ⟨x, y⟩ := r
      simp only at e0 e1
      go_wp2_with fail
      go_loopw [5] (fun a wq => ∃ (j q : Nat), j ≤ k ∧ a = .int .i64 j ∧ (∀ q ∈ S.drop j, idA (x, y) q = true) ∧ wq = wo.drewN q) (fun a _ => (intOf a).toNat)
      case atStart => exact ⟨k, 0, Nat.le_refl _, rfl, fun q hq => by rw [List.drop_of_length_le (by rw [← hSl.out]; omega)] at hq; simp at hq, rfl⟩
      case round =>
        obtain ⟨wq, hwq⟩ : ∃ wq : World, wq = wr := ⟨_, rfl⟩
        subst hwq
        obtain ⟨j, q, hj, rfl, hq, hw⟩ := hrel
        have HQ := Lib.hid hq
        have f0 : wq.cell? ⟨b, o + k * 2, none⟩ = some (.int .i64 x) := by rw [hw]; exact e0
        have f1 : wq.cell? ⟨b, o + k * 2 + 1, none⟩ = some (.int .i64 y) := by rw [hw]; exact e1
        have hbq : Below w.heap.size w wq := by rw [hw]; exact drewN_below hb _
        have NSQ : Hid (NodesAt wq (.slice A2 k c2) S) := by show NodesAt _ _ _; rw [hw]; exact NS.out
        have SAQ : Hid (NdAt wq A2 S) := by show NdAt _ _ _; rw [hw]; exact SA.out
        have HW := Lib.hid hw
        clear hq hw e0 e1
        rcases Nat.eq_zero_or_pos j with hj0 | hj0
        · have HZ := Lib.hid hj0
          have hjz : decide (0 < j) = false := by simp [hj0]
          have hjl : j ≤ 0 := by omega
          clear hj0
          go_wp2_with fail
          go_quiet (fail)
          clear hjz
          have SRT := Lib.hid (NX.out j (by rw [← hSl.out]; omega) HQ.out (fun i e => by have := HZ.out; omega))
          have IL := Lib.hid (ins_len (x := ((x, y) : Nd)) (j := j) hSl.out.symm (by omega))
          go_wp2_with (go_at_call 145; refine (put_any _ _ _ j S x y _ (by exact NSQ.out) (by omega) (by omega)).mono ?_; rintro e w1 ⟨v, rfl, hv, hb1⟩; have HV := Lib.hid hv; obtain ⟨A3, c3, rfl, _⟩ := hv; rw [IL.out] at HV ⊢)
          have hb3 : Below w.heap.size w w1 := (drewN_below hbq _).trans (hb1.mono hbq.size)
          clear hb1 f0 f1
          go_roundw
          case rel => exact ⟨k + 1, _, A3, c3, by omega, by go_num, rfl, HV.out, SRT.out, hb3⟩
          case measure => simp [intOf]; omega
        · obtain ⟨i, hi⟩ : ∃ i, j = i + 1 := ⟨j - 1, by omega⟩
          obtain ⟨b2, o2, rfl, hin2⟩ := SAQ.out (by rw [← hSl.out]; omega)
          have f2 := (hin2.2 i (by rw [← hSl.out]; omega)).1
          have hiS : i < S.length := by rw [← hSl.out]; omega
          have BK := Lib.hid (fun q0 q1 => ins_back (ah := idA) (x := (x, y)) hiS q0 q1)
          have hji : (j : Int) - 1 = (i : Int) := by omega
          have w1 : IntKind.i64.wrap ((j : Int) - 1) = (i : Int) := by rw [IntWalk.i64_in _ (by omega)]; exact hji
          have hik : (i : Int) < (k : Int) := by omega
          have hi0 : (0 : Int) ≤ (i : Int) := Int.natCast_nonneg _
          have hik2 : i ≤ k := by omega
          have HJ := Lib.hid hi
          have CM := Lib.hid (fun (q : idA (x, y) (S.getD i nz) = false) (i' : Nat) (e : j = i' + 1) => (show idA (x, y) (S.getD i' nz) = false from by
            have e2 : i' = i := by omega
            rw [e2]; exact q))
          clear hin2 hi
          generalize S.getD i nz = t at *
          obtain ⟨t1, t2⟩ := t
          simp only at f2
          by_cases hc : x < t1
          · have HQ2 := Lib.hid (BK.out (by have q := HQ.out; rw [HJ.out] at q; exact q) (idA_yes hc))
            have hc' : decide (x < t1) = true := by simpa using hc
            clear hc hji
            go_wp2_with fail
            go_quiet (fail)
            go_wp2_with fail
            go_roundw
            case rel => exact ⟨i, _, hik2, rfl, HQ2.out, by rw [HW.out, World.drewN_drewN]⟩
            case measure => simp [intOf]; have := HJ.out; omega
          · have CMP := Lib.hid (idA_no (a := (x, y)) (b := (t1, t2)) hc)
            have hc' : decide (x < t1) = false := by simpa using hc
            clear hc hji
            go_wp2_with fail
            go_quiet (fail)
            clear w1
            have SRT := Lib.hid (NX.out j (by rw [← hSl.out]; omega) HQ.out (CM.out CMP.out))
            have IL := Lib.hid (ins_len (x := ((x, y) : Nd)) (j := j) hSl.out.symm (by omega))
            go_wp2_with (go_at_call 145; refine (put_any _ _ _ j S x y _ (by exact NSQ.out) (by omega) (by omega)).mono ?_; rintro e w1 ⟨v, rfl, hv, hb1⟩; have HV := Lib.hid hv; obtain ⟨A3, c3, rfl, _⟩ := hv; rw [IL.out] at HV ⊢)
            have hb3 : Below w.heap.size w w1 := (drewN_below hbq _).trans (hb1.mono hbq.size)
            clear hb1 f0 f1
            go_roundw
            case rel => exact ⟨k + 1, _, A3, c3, by omega, by go_num, rfl, HV.out, SRT.out, hb3⟩
            case measure => simp [intOf]; omega
    · have hkn : k = n := by omega
      subst hkn
      have hd : Hid (L.take k = L) := List.take_of_length_le (by have := HL.out; omega)
      go_wp2_with fail
      go_ret
      refine ⟨S, A2, c2, by rw [← hSl.out]; rfl, by have q := HS.out; rwa [hd.out] at q, by rw [← hSl.out]; exact NS.out, fun h0 => ?_, hb⟩
      obtain ⟨b, o, e, _⟩ := SA.out h0
      exact ⟨_, e⟩

end Go.Proofs.YtfilmblpikcpnaaGreat
