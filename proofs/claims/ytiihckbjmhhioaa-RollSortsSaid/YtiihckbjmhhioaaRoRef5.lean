/- The document's answers of package dewpondref06: ahead, Post. -/
import Derived.Test.YtiihckbjmhhioaaRoRef2
import Derived.Test.YtiihckbjmhhioaaRo8
import Derived.Deep.RegionHeld3
import Derived.Deep.DrawnRows
namespace Go.Proofs.Ytiihckbjmhhioaa
set_option linter.unusedVariables false
open Go.RowKit
attribute [local go_sem ↓] Go.wp_at_zero Go.wp_at_succ

set_option maxHeartbeats 1600000 in
theorem rAhead_any (l a1 a2 b1 b2 : Int) (w : World) (L0 : -9223372036854775808 ≤ l) (L1 : l ≤ 9223372036854775807) (A0 : -9223372036854775808 ≤ a1) (A1 : a1 ≤ 9223372036854775807) (B0 : -9223372036854775808 ≤ b1) (B1 : b1 ≤ 9223372036854775807) :
    Calls Try.prog 37 #[.int .i64 l, .agg #[.int .i64 a1, .int .i64 a2], .agg #[.int .i64 b1, .int .i64 b2]] w fun e w' => e = .returned (.bool (keyA (hiN l) (a1, a2) (b1, b2))) ∧ Below w.heap.size w w' := by
  rcases (show hiN l a1 < hiN l b1 ∨ (hiN l b1 < hiN l a1) ∨ (hiN l a1 = hiN l b1 ∧ b1 < a1) ∨ (hiN l a1 = hiN l b1 ∧ ¬ b1 < a1) by omega) with h | h | ⟨h, h2⟩ | ⟨h, h2⟩
  · have H := Lib.hid (show keyA (hiN l) (a1, a2) (b1, b2) = true from decide_eq_true (.inl h))
    go_enter Try.func37, Try.ntmps37
    go_wp2_with (go_at_call 48; refine (rends_any _ _ _ L0 L1 (by omega) (by omega)).mono ?_; rintro e w1 ⟨rfl, rfl⟩)
    go_ret
    exact ⟨by rw [H.out]; rfl, ((Below.refl _ _).alloc (Nat.le_refl _) _).alloc (by simp) _⟩
  · have H := Lib.hid (show keyA (hiN l) (a1, a2) (b1, b2) = false from decide_eq_false (by dsimp only; omega))
    have h1 : (hiN l a1 == hiN l b1) = false := beq_eq_false_iff_ne.2 (by omega)
    have h4 : decide (hiN l a1 < hiN l b1) = false := decide_eq_false (by omega)
    go_enter Try.func37, Try.ntmps37
    go_wp2_with (go_at_call 48; refine (rends_any _ _ _ L0 L1 (by omega) (by omega)).mono ?_; rintro e w1 ⟨rfl, rfl⟩)
    go_ret
    exact ⟨by rw [H.out]; rfl, ((Below.refl _ _).alloc (Nat.le_refl _) _).alloc (by simp) _⟩
  · have H := Lib.hid (show keyA (hiN l) (a1, a2) (b1, b2) = true from decide_eq_true (.inr ⟨h, h2⟩))
    have h1 : (hiN l a1 == hiN l b1) = true := beq_iff_eq.2 h
    have h4 : decide (hiN l a1 < hiN l b1) = false := decide_eq_false (by omega)
    have h5 : decide (b1 < a1) = true := decide_eq_true h2
    clear h
    go_enter Try.func37, Try.ntmps37
    go_wp2_with (go_at_call 48; refine (rends_any _ _ _ L0 L1 (by omega) (by omega)).mono ?_; rintro e w1 ⟨rfl, rfl⟩)
    go_ret
    exact ⟨by rw [H.out]; rfl, ((Below.refl _ _).alloc (Nat.le_refl _) _).alloc (by simp) _⟩
  · have H := Lib.hid (show keyA (hiN l) (a1, a2) (b1, b2) = false from decide_eq_false (by dsimp only; omega))
    have h1 : (hiN l a1 == hiN l b1) = true := beq_iff_eq.2 h
    have h4 : decide (hiN l a1 < hiN l b1) = false := decide_eq_false (by omega)
    have h5 : decide (b1 < a1) = false := decide_eq_false h2
    clear h
    go_enter Try.func37, Try.ntmps37
    go_wp2_with (go_at_call 48; refine (rends_any _ _ _ L0 L1 (by omega) (by omega)).mono ?_; rintro e w1 ⟨rfl, rfl⟩)
    go_ret
    exact ⟨by rw [H.out]; rfl, ((Below.refl _ _).alloc (Nat.le_refl _) _).alloc (by simp) _⟩
set_option maxHeartbeats 3200000 in
set_option maxRecDepth 100000 in
theorem rPost_yes (l : Int) (A : Option Addr) (n c : Nat) (L : List Nd) (w : World) (h : NodesAt w (.slice A n c) L) (hB : NBds L) (hn : n ≤ 1000000) (L0 : -9223372036854775808 ≤ l) (L1 : l ≤ 9223372036854775807) (hr : rollB l L = true) :
    Calls Try.prog 24 #[.int .i64 l, .slice A n c] w (PostPost l L w) := by
  have HN := Lib.hid h
  have HB := Lib.hid hB
  have HR := Lib.hid hr
  have HL := Lib.hid (nodes_cells h).1
  have HA := Lib.hid (nodes_cells h).2.2.2
  clear h hB
  go_enter Try.func24, Try.ntmps24
  go_wp2_with (go_at_call 16; refine (rRight_any _ _ _ _ _ _ HN.out HB.out hn L0 L1).mono ?_; rintro e w1 ⟨rfl, hb1⟩)
  clear hr
  go_loopw [6, 7, 8] (fun v i at' wr => ∃ (k : Nat) (S : List Nd) (A2 : Option Addr) (c2 : Nat), k ≤ n ∧ i = .int .i64 k ∧ v = .slice A2 k c2 ∧ NodesAt wr (.slice A2 k c2) S ∧ Srt (keyA (hiN l)) (L.take k) S ∧ Below w1.heap.size w1 wr) (fun _ i _ _ => n - (intOf i).toNat)
  case atStart => exact ⟨0, [], none, 0, by omega, rfl, rfl, nodes_nil w1, Srt.small (keyA (hiN l)) (by simp), Below.refl ..⟩
  case round =>
    rename_i wr
    obtain ⟨k, S, A2, c2, hk, rfl, rfl, hnS, hs, hb⟩ := hrel
    have NS := Lib.hid hnS
    have HS := Lib.hid hs
    have hSl : Hid (k = S.length) := (nodes_cells hnS).1
    have SA := Lib.hid (nodes_cells hnS).2.2.2
    obtain ⟨wo, hwo⟩ : ∃ wo : World, wo = wr := ⟨_, rfl⟩
    subst hwo
    have hzo := hb.size
    clear hnS hs
    by_cases hlt : k < n
    · have hk2 : k < L.length := by have := HL.out; omega
      obtain ⟨b, o, rfl, hin⟩ := HA.out (by omega)
      have hbl := hin.1
      have hin2 := (hin.below hb1 hin.1).below hb (by have := hb1.size; omega)
      have hbd := nbds_at HB.out hk2
      obtain ⟨⟨b0, b1⟩, b2, b3⟩ := hbd
      have hbw : b < wo.heap.size := by have := hb1.size; omega
      have e0 := (hin2.2 k hk2).1
      have e1 := (hin2.2 k hk2).2
      have SBD := Lib.hid (fun (j : Nat) (q : j < S.length) => nbds_at (nbds_perm HS.out.perm (nbds_take HB.out)) q)
      have NX := Lib.hid (fun (j : Nat) q0 q1 q2 => ins_next (j := j) (keyA_ahd (hiN l)) hk2 q0 HS.out q1 q2)
      have hkI : (k : Int) < (n : Int) := by omega
      have hkI0 : (0 : Int) ≤ (k : Int) := Int.natCast_nonneg _
      clear hin hin2
      generalize L.getD k nz = r at *
      obtain ⟨x, y⟩ := r
      simp only at e0 e1 b0 b1 b2 b3
      go_wp2_with fail
      go_loopw [8] (fun a wq => ∃ (j : Nat), j ≤ k ∧ a = .int .i64 j ∧ (∀ q ∈ S.drop j, (keyA (hiN l)) (x, y) q = true) ∧ Below wo.heap.size wo wq) (fun a _ => (intOf a).toNat)
      case atStart => exact ⟨k, Nat.le_refl _, rfl, fun q hq => by rw [List.drop_of_length_le (by rw [← hSl.out]; omega)] at hq; simp at hq, Below.refl ..⟩
      case round =>
        obtain ⟨wq, hwq⟩ : ∃ wq : World, wq = wr := ⟨_, rfl⟩
        subst hwq
        obtain ⟨j, hj, rfl, hq, hw⟩ := hrel
        have HQ := Lib.hid hq
        have f0 : wq.cell? ⟨b, o + k * 2, none⟩ = some (.int .i64 x) := (hw.cell (p := ⟨b, o + k * 2, none⟩) hbw).trans e0
        have f1 : wq.cell? ⟨b, o + k * 2 + 1, none⟩ = some (.int .i64 y) := (hw.cell (p := ⟨b, o + k * 2 + 1, none⟩) hbw).trans e1
        have hbq : Below w1.heap.size w1 wq := hb.trans (hw.mono hzo)
        have hzq := hw.size
        have NSQ : Hid (NodesAt wq (.slice A2 k c2) S) := NS.out.below hw
        have SAQ : Hid (NdAt wq A2 S) := SA.out.below hw
        have HW := Lib.hid hw
        clear hq hw e0 e1
        rcases Nat.eq_zero_or_pos j with hj0 | hj0
        · have HZ := Lib.hid hj0
          have hjz : decide (0 < j) = false := by simp [hj0]
          have hjl : j ≤ 0 := by omega
          clear hj0
          go_wp2_with fail
          go_quiet (fail)
          clear hjz
          have SRT := Lib.hid (NX.out j (by rw [← hSl.out]; omega) HQ.out (fun i e => by have := HZ.out; omega))
          have IL := Lib.hid (ins_len (x := ((x, y) : Nd)) (j := j) hSl.out.symm (by omega))
          go_wp2_with (go_at_call 28; refine (put_any _ _ _ j S x y _ (by exact NSQ.out) (by omega) (by omega)).mono ?_; rintro e w4 ⟨v, rfl, hv, hb4⟩; have HV := Lib.hid hv; obtain ⟨A3, c3, rfl, _⟩ := hv; rw [IL.out] at HV ⊢)
          have hb5 : Below w1.heap.size w1 w4 := (drewN_below hbq _).trans (hb4.mono hbq.size)
          clear hb4 f0 f1
          go_roundw
          case rel => exact ⟨k + 1, _, A3, c3, by omega, by go_num, rfl, HV.out, SRT.out, hb5⟩
          case measure => simp [intOf]; omega
        · obtain ⟨i, hi⟩ : ∃ i, j = i + 1 := ⟨j - 1, by omega⟩
          obtain ⟨b2, o2, rfl, hin2⟩ := SAQ.out (by rw [← hSl.out]; omega)
          have hb2l := hin2.1
          have hiS : i < S.length := by rw [← hSl.out]; omega
          have f2 := (hin2.2 i hiS).1
          have f3 := (hin2.2 i hiS).2
          have hbt := SBD.out i hiS
          have BK := Lib.hid (fun q0 q1 => ins_back (ah := keyA (hiN l)) (x := (x, y)) hiS q0 q1)
          have hji : (j : Int) - 1 = (i : Int) := by omega
          have w1' : IntKind.i64.wrap ((j : Int) - 1) = (i : Int) := by rw [IntWalk.i64_in _ (by omega)]; exact hji
          have hik : (i : Int) < (k : Int) := by omega
          have hi0 : (0 : Int) ≤ (i : Int) := Int.natCast_nonneg _
          have hik2 : i ≤ k := by omega
          have hbq1 : b < wq.heap.size := by omega
          have hjz : decide (0 < j) = true := by simp [hj0]
          have HJ := Lib.hid hi
          have CM := Lib.hid (fun (q : keyA (hiN l) (x, y) (S.getD i nz) = false) (i' : Nat) (e : j = i' + 1) => (show keyA (hiN l) (x, y) (S.getD i' nz) = false from by
            have e2 : i' = i := by omega
            rw [e2]; exact q))
          clear hin2 hi hji
          generalize S.getD i nz = t at *
          obtain ⟨t1, t2⟩ := t
          simp only at f2 f3 hbt
          obtain ⟨⟨d0, d1⟩, _, _⟩ := hbt
          cases hc : keyA (hiN l) (x, y) (t1, t2)
          · have CMP := Lib.hid hc
            go_wp2_with fail
            go_region_held3 (fun w' => w'.cell? ⟨b, o + k * 2, none⟩ = some (.int .i64 x) ∧ w'.cell? ⟨b, o + k * 2 + 1, none⟩ = some (.int .i64 y) ∧ w'.cell? ⟨b2, o2 + i * 2, none⟩ = some (.int .i64 t1) ∧ w'.cell? ⟨b2, o2 + i * 2 + 1, none⟩ = some (.int .i64 t2) ∧ Below wq.heap.size wq w')
              (first | (exact keep4 (by assumption) (by assumption) (by dsimp only; omega) (by dsimp only; omega) (by dsimp only; omega) (by dsimp only; omega)) | (exact ⟨f0, f1, f2, f3, below_drew _⟩))
              (first | (go_at_call 37; refine (rAhead_any l x y t1 t2 _ L0 L1 b0 b1 d0 d1).mono ?_; rintro e w3 ⟨rfl, hbc⟩))
            rename_i hH
            obtain ⟨g0, g1, g2, g3, hbr⟩ := hH
            clear f0 f1 f2 f3 hbc w1' hc hjz
            have NSR := Lib.hid (NSQ.out.below hbr)
            have SRT := Lib.hid (NX.out j (by rw [← hSl.out]; omega) HQ.out (CM.out CMP.out))
            have IL := Lib.hid (ins_len (x := ((x, y) : Nd)) (j := j) hSl.out.symm (by omega))
            go_wp2_with (go_at_call 28; refine (put_any _ _ _ j S x y _ (by exact NSR.out) (by omega) (by omega)).mono ?_; rintro e w4 ⟨v, rfl, hv, hb4⟩; have HV := Lib.hid hv; obtain ⟨A3, c3, rfl, _⟩ := hv; rw [IL.out] at HV ⊢)
            have hb5 : Below w1.heap.size w1 w4 := (hbq.trans (hbr.mono hbq.size)).trans (hb4.mono ((hbq.trans (hbr.mono hbq.size)).size))
            clear hb4 g0 g1 g2 g3
            go_roundw
            case rel => exact ⟨k + 1, _, A3, c3, by omega, by go_num, rfl, HV.out, SRT.out, hb5⟩
            case measure => simp [intOf]; omega
          · have HQ2 := Lib.hid (BK.out (by have q := HQ.out; rw [HJ.out] at q; exact q) hc)
            go_wp2_with fail
            go_region_held3 (fun w' => w'.cell? ⟨b, o + k * 2, none⟩ = some (.int .i64 x) ∧ w'.cell? ⟨b, o + k * 2 + 1, none⟩ = some (.int .i64 y) ∧ w'.cell? ⟨b2, o2 + i * 2, none⟩ = some (.int .i64 t1) ∧ w'.cell? ⟨b2, o2 + i * 2 + 1, none⟩ = some (.int .i64 t2) ∧ Below wq.heap.size wq w')
              (first | (exact keep4 (by assumption) (by assumption) (by dsimp only; omega) (by dsimp only; omega) (by dsimp only; omega) (by dsimp only; omega)) | (exact ⟨f0, f1, f2, f3, below_drew _⟩))
              (first | (go_at_call 37; refine (rAhead_any l x y t1 t2 _ L0 L1 b0 b1 d0 d1).mono ?_; rintro e w3 ⟨rfl, hbc⟩))
            rename_i hH
            obtain ⟨g0, g1, g2, g3, hbr⟩ := hH
            have HBR := Lib.hid (HW.out.trans (hbr.mono hzq))
            clear f0 f1 f2 f3 hbc hc hjz
            go_wp2_with fail
            go_roundw
            case rel => exact ⟨i, hik2, rfl, HQ2.out, HBR.out⟩
            case measure => simp [intOf]; have := HJ.out; omega
    · have hkn : k = n := by omega
      subst hkn
      have hd : Hid (L.take k = L) := List.take_of_length_le (by have := HL.out; omega)
      go_wp2_with fail
      go_ret2
      exact .inr ⟨HR.out, S, A2, c2, by rw [← hSl.out]; rfl, by have q := HS.out; rwa [hd.out] at q, by rw [← hSl.out]; exact NS.out, hb1.trans (hb.mono hb1.size)⟩
theorem rPost_any (l : Int) (A : Option Addr) (n c : Nat) (L : List Nd) (w : World) (h : NodesAt w (.slice A n c) L) (hB : NBds L) (hn : n ≤ 1000000) (L0 : -9223372036854775808 ≤ l) (L1 : l ≤ 9223372036854775807) :
    Calls Try.prog 24 #[.int .i64 l, .slice A n c] w (PostPost l L w) := by
  cases hr : rollB l L
  · have HN := Lib.hid h
    have HB := Lib.hid hB
    have HR := Lib.hid hr
    clear h hB
    go_enter Try.func24, Try.ntmps24
    go_wp2_with (go_at_call 16; refine (rRight_any _ _ _ _ _ _ HN.out HB.out hn L0 L1).mono ?_; rintro e w1 ⟨rfl, hb1⟩)
    go_ret2
    exact .inl ⟨HR.out, rfl, hb1⟩
  · exact rPost_yes l A n c L w h hB hn L0 L1 hr

end Go.Proofs.Ytiihckbjmhhioaa
