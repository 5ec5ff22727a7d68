/- The document's answers of package dewpondref20: Sum. -/
import Derived.Test.YtkoefclkpdpdpaaGreatBoRef
import Derived.Test.YtkoefclkpdpdpaaGreatBoRk
import Derived.Test.YtkoefclkpdpdpaaGreatMmy
import Derived.BigQuiet
import Derived.Deep.RegionHeld3
namespace Go.Proofs.YtkoefclkpdpdpaaGreat
set_option linter.unusedVariables false
set_option maxRecDepth 100000
open Go.RowKit

/-- which end of a node's values -/
def endN (b : Bool) (l : Int) : Int → Int := cond b (hiN l) (loN l)
set_option maxHeartbeats 6400000 in
theorem rBoSum_any {l : Int} (k : Int) (A : Option Addr) (n c : Nat) (L : List Nd) (bb : Bool) (w : World) (h : NodesAt w (.slice A n c) L) (hr : RollC l L) (hn : n ≤ 1000) :
    Calls Tryz.prog 18 #[.agg #[.int .i64 k, .int .i64 l, .slice A n c], .bool bb] w fun e w' => NewDigs w w' e (suF (endN bb l) L) 2000 := by
  have HB0 : Hid (Below w.heap.size w (w.alloc (.cells #[.int .i64 k, .int .i64 l, .slice A n c] 31))) := (Below.refl _ _).alloc (Nat.le_refl _) _
  obtain ⟨x0, x1, x2, _, _, _, hz⟩ := tri_all (tri_new w 31 (.int .i64 k) (.int .i64 l) (.slice A n c))
  have HZ := Lib.hid hz
  have u : 1 ≤ l ∧ l ≤ 48 := of_decide_eq_true hr.1
  have HL := Lib.hid (nodes_cells h).1
  have HA := Lib.hid (nodes_cells h).2.2.2
  have NB := Lib.hid (nbds_roll hr)
  have TK := Lib.hid (fun (k : Nat) hk => suF_take (endN bb l) (L := L) (k := k) hk)
  have MEM := fun (m : Nat) (hm : m < L.length) => show L.getD m nz ∈ L by rw [show L.getD m nz = L[m] by simp [List.getD_eq_getElem?_getD, hm]]; exact List.getElem_mem hm
  have EB := Lib.hid (fun (m : Nat) (hm : m < L.length) => (⟨node_ends hr (MEM m hm), good_nonneg (roll_good hr) _ (MEM m hm)⟩ : (0 ≤ loN l (L.getD m nz).1 ∧ loN l (L.getD m nz).1 ≤ hiN l (L.getD m nz).1 ∧ hiN l (L.getD m nz).1 < 2 ^ l.toNat) ∧ 0 ≤ (L.getD m nz).2))
  clear h hr hz MEM
  go_enter Tryz.func18, Tryz.ntmps18
  go_wp2_with fail
  generalize w.alloc (.cells #[.int .i64 k, .int .i64 l, .slice A n c] 31) = W at *
  go_loopw [5, 6] (fun v i wr => ∃ (q : List Int) (m : Nat), m ≤ n ∧ i = .int .i64 m ∧ Hid (Seg wr v q) ∧ Hid (Dig q) ∧ q.length ≤ 21 + m ∧ Hid (dv q = suF (endN bb l) (L.take m)) ∧ Hid (Below W.heap.size W wr)) (fun _ i _ => n - (intOf i).toNat)
  case atStart => exact ⟨[], 0, by omega, rfl, Lib.hid (seg_nil _), Lib.hid dig_nil, by simp, rfl, Lib.hid (Below.refl _ _)⟩
  case round =>
    obtain ⟨q, m, hm, rfl, SO, DO, LO, VO, BW⟩ := hrel
    obtain ⟨d0, d1, d2⟩ : wr.cell? ⟨w.heap.size, 0, none⟩ = some (.int .i64 k) ∧ wr.cell? ⟨w.heap.size, 1, none⟩ = some (.int .i64 l) ∧ wr.cell? ⟨w.heap.size, 2, none⟩ = some (.slice A n c) := ⟨(BW.out.cell (p := ⟨w.heap.size, 0, none⟩) HZ.out).trans x0, (BW.out.cell (p := ⟨w.heap.size, 1, none⟩) HZ.out).trans x1, (BW.out.cell (p := ⟨w.heap.size, 2, none⟩) HZ.out).trans x2⟩
    have HP : Hid (w.heap.size < wr.heap.size) := Nat.lt_of_lt_of_le HZ.out BW.out.size
    by_cases hlt : m < n
    · have hk2 : m < L.length := by have := HL.out; omega
      obtain ⟨b, o, rfl, hin⟩ := HA.out (by omega)
      have BX := HB0.out.trans (BW.out.mono HB0.out.size)
      obtain ⟨e0, e1⟩ := (hin.below BX hin.1).2 m hk2
      have HQ : Hid (b < wr.heap.size) := Nat.lt_of_lt_of_le hin.1 BX.size
      have hx := nbds_at NB.out hk2
      have ST := Lib.hid (TK.out m hk2)
      have ee := EB.out m hk2
      have p48 : (2 : Int) ^ l.toNat ≤ 281474976710656 := two_le l.toNat 48 (by omega)
      clear hin TK EB NB HA BX
      generalize (L.getD m nz).1 = id at *
      generalize (L.getD m nz).2 = ct at *
      generalize suF (endN bb l) (L.take m) = s1 at *
      generalize hs2 : suF (endN bb l) (L.take (m + 1)) = s2 at *
      have HS := Lib.hid hs2
      clear hs2
      have EN := Lib.hid (fun w => rends_any l id w (by omega) (by omega) hx.1.1 hx.1.2)
      have k0 : (0 : Int) ≤ (m : Int) := Int.natCast_nonneg _
      have k1 : (m : Int) < (n : Int) := by omega
      obtain ⟨x, hxe⟩ : ∃ x, x = endN bb l id := ⟨_, rfl⟩
      have xe := hxe
      unfold endN at xe
      rw [← hxe] at ST
      have xb : 0 ≤ x ∧ x ≤ 9223372036854775807 := by cases bb <;> (simp only [cond_true, cond_false] at xe; have a : x = _ := xe; omega)
      have cb : 0 ≤ ct ∧ ct ≤ 9223372036854775807 := ⟨ee.2, hx.2.2⟩
      clear hxe ee hx p48
      go_wp2_with fail
      go_quiet ((go_at_call 41; exact Calls.quiet_of_same ((EN.out _).mono fun _ _ ⟨a, b⟩ => ⟨a, b.symm⟩)))
      generalize hwq : World.drewN wr _ = wq
      have BQ : Hid (Below wr.heap.size wr wq) := by rw [← hwq]; exact below_drewN (Below.refl _ _) _
      have SQ := Lib.hid (seg_below SO.out BQ.out)
      have BW2 := Lib.hid (BW.out.trans (BQ.out.mono BW.out.size))
      have HP2 : Hid (w.heap.size < wq.heap.size) := Nat.lt_of_lt_of_le HP.out BQ.out.size
      have HQ2 : Hid (b < wq.heap.size) := Nat.lt_of_lt_of_le HQ.out BQ.out.size
      replace d2 := (BQ.out.cell (p := ⟨w.heap.size, 2, none⟩) HP.out).trans d2
      replace e1 := (BQ.out.cell (p := ⟨b, o + m * 2 + 1, none⟩) HQ.out).trans e1
      clear EN hwq BQ BW HP HQ SO d0 d1 e0
      have DG1 := Lib.hid (fun v => digits_any x v xb.1 xb.2)
      have DG2 := Lib.hid (fun v => digits_any ct v cb.1 cb.2)
      have FIN : Hid (s2 = s1 + x * ct) := ST.out
      clear ST
      cases bb
      · obtain rfl : x = loN l id := xe
        generalize loN l id = x1 at *
        generalize hiN l id = x2 at *
        go_wp2_with fail
        go_region_held3 (fun w' => w'.cell? ⟨w.heap.size, 2, none⟩ = some (.slice (some ⟨b, o, none⟩) n c) ∧ w'.cell? ⟨b, o + m * 2 + 1, none⟩ = some (.int .i64 ct) ∧ Below wq.heap.size wq w')
          (first | assumption | (exact held2 (by assumption) G4 HP2.out HQ2.out) | (exact held2 (by assumption) G3 HP2.out HQ2.out) | (exact held2 (by assumption) G2 HP2.out HQ2.out) | (exact held2 (by assumption) G1 HP2.out HQ2.out) | (exact ⟨d2, e1, below_drew _⟩))
          (first
            | ((with_reducible refine (DG1.out _).mono ?_); rintro e v1 ⟨t1, l1, rfl, S1, D1, V1, L1, G1⟩)
            | ((with_reducible refine (DG2.out _).mono ?_); rintro e v2 ⟨t2, l2, rfl, S2, D2, V2, L2, G2⟩)
            | ((with_reducible refine (times_any _ _ l1 l2 7 _ (seg_below S1 G2) S2 D1 D2 L1 L2 (by omega)).mono ?_); rintro e v3 ⟨t3, l3, rfl, S3, D3, V3, L3, G3⟩)
            | ((with_reducible refine (sum_any _ _ q l3 (21 + m) _ (seg_below SQ.out (held2B (by assumption))) S3 DO.out D3 LO (by omega) (by omega)).mono ?_); rintro e v4 ⟨t4, l4, rfl, S4, D4, V4, L4, G4⟩))
        rename_i hH
        have BF := Lib.hid (BW2.out.trans (hH.2.2.mono BW2.out.size))
        have VF : Hid (dv l4 = s2) := by
          show _ = _
          rw [V4, V3, V1, V2, VO.out]
          exact FIN.out.symm
        clear V1 V2 V3 V4 hH
        go_wp2_with fail
        go_roundw
        case rel => exact ⟨l4, m + 1, by omega, by go_num, Lib.hid S4, Lib.hid D4, by omega, (by rw [HS.out]; exact VF), BF⟩
        case measure => simp [intOf]; omega
      · obtain rfl : x = hiN l id := xe
        generalize loN l id = x1 at *
        generalize hiN l id = x2 at *
        go_wp2_with fail
        go_region_held3 (fun w' => w'.cell? ⟨w.heap.size, 2, none⟩ = some (.slice (some ⟨b, o, none⟩) n c) ∧ w'.cell? ⟨b, o + m * 2 + 1, none⟩ = some (.int .i64 ct) ∧ Below wq.heap.size wq w')
          (first | assumption | (exact held2 (by assumption) G4 HP2.out HQ2.out) | (exact held2 (by assumption) G3 HP2.out HQ2.out) | (exact held2 (by assumption) G2 HP2.out HQ2.out) | (exact held2 (by assumption) G1 HP2.out HQ2.out) | (exact ⟨d2, e1, below_drew _⟩))
          (first
            | ((with_reducible refine (DG1.out _).mono ?_); rintro e v1 ⟨t1, l1, rfl, S1, D1, V1, L1, G1⟩)
            | ((with_reducible refine (DG2.out _).mono ?_); rintro e v2 ⟨t2, l2, rfl, S2, D2, V2, L2, G2⟩)
            | ((with_reducible refine (times_any _ _ l1 l2 7 _ (seg_below S1 G2) S2 D1 D2 L1 L2 (by omega)).mono ?_); rintro e v3 ⟨t3, l3, rfl, S3, D3, V3, L3, G3⟩)
            | ((with_reducible refine (sum_any _ _ q l3 (21 + m) _ (seg_below SQ.out (held2B (by assumption))) S3 DO.out D3 LO (by omega) (by omega)).mono ?_); rintro e v4 ⟨t4, l4, rfl, S4, D4, V4, L4, G4⟩))
        rename_i hH
        have BF := Lib.hid (BW2.out.trans (hH.2.2.mono BW2.out.size))
        have VF : Hid (dv l4 = s2) := by
          show _ = _
          rw [V4, V3, V1, V2, VO.out]
          exact FIN.out.symm
        clear V1 V2 V3 V4 hH
        go_wp2_with fail
        go_roundw
        case rel => exact ⟨l4, m + 1, by omega, by go_num, Lib.hid S4, Lib.hid D4, by omega, (by rw [HS.out]; exact VF), BF⟩
        case measure => simp [intOf]; omega
    · obtain rfl : m = n := by omega
      have e : L.take m = L := List.take_of_length_le (by have := HL.out; omega)
      rw [e] at VO
      go_wp2_with fail
      go_ret
      exact ⟨_, q, rfl, SO.out, DO.out, VO.out, by omega, HB0.out.trans (BW.out.mono HB0.out.size)⟩

end Go.Proofs.YtkoefclkpdpdpaaGreat
