/- The document's answers of package dewpondref08: Get, Walk, way, Slots2, Nodes. -/
import Derived.Test.YtomhikjohgiloaaPbRef
import Derived.Test.YtomhikjohgiloaaPb3
namespace Go.Proofs.Ytomhikjohgiloaa
set_option linter.unusedVariables false
set_option maxRecDepth 100000
open Go.RowKit

/-- the slots that are read -/
def SlAt (w : World) (g N : Nat) (S : List Nd) : Prop := g < w.heap.size ∧ ∀ k, k < N → w.cell? ⟨g, k * 2, none⟩ = some (.int .i64 (tAt S k).1) ∧ w.cell? ⟨g, k * 2 + 1, none⟩ = some (.int .i64 (tAt S k).2)
theorem SlAt.below {w w' : World} {g N : Nat} {S : List Nd} (h : SlAt w g N S) (hb : Below w.heap.size w w') : SlAt w' g N S :=
  ⟨Nat.lt_of_lt_of_le h.1 hb.size, fun k hk => ⟨(hb.cell (p := ⟨g, k * 2, none⟩) h.1).trans (h.2 k hk).1, (hb.cell (p := ⟨g, k * 2 + 1, none⟩) h.1).trans (h.2 k hk).2⟩⟩
theorem rfind_has {b : Nat} {S : List Nd} (t : Tab b S) (hb : b ≤ 40) {id : Int} (h1 : 1 ≤ id) (A1 : id ≤ 9223372036854775807) (e : Ends S id (2 ^ b) (homeN b id) (kOf b S id)) : ∃ p k : Nat, Hid (posOf b S id = p) ∧ Hid (kOf b S id = k) ∧ p < 2 ^ b ∧
    ∀ (w : World) (l : Int) (g c : Nat), SlAt w g (2 ^ b) S → Calls Try.prog 61 #[.agg #[.int .i64 l, .int .i64 (b : Int), .slice (some ⟨g, 0, none⟩) (2 ^ b) c], .int .i64 id] w fun e w' => e = .returned (.tuple #[.int .i64 (p : Int), .int .i64 ((k : Int) + 1)]) ∧ Below w.heap.size w w' := by
  have h3 := t.b3
  have HV : Hid (homeV (b : Int) id = (homeN b id : Nat)) := by
    show _ = _
    rw [homeV_yes (by omega) (by omega) h1, Int.toNat_natCast]
  exact ⟨posOf b S id, kOf b S id, rfl, rfl, pos_lt (by omega) e, fun w l g c d => rFind_core w l g c b (2 ^ b) S id _ _ _ rfl d.1 d.2 t.slot (by omega) hb h1 A1 HV (home_lt (by omega) id) e rfl⟩
set_option maxHeartbeats 800000 in
theorem rtGet_any {b g c : Nat} {l : Int} {S L : List Nd} (a : Int) (w : World) (d : SlAt w g (2 ^ b) S) (T : Tb l b S L) (hb : b ≤ 40) (A0 : -9223372036854775808 ≤ a) (A1 : a ≤ 9223372036854775807) :
    Calls Try.prog 57 #[.agg #[.int .i64 l, .int .i64 (b : Int), .slice (some ⟨g, 0, none⟩) (2 ^ b) c], .int .i64 a] w fun e w' => e = .returned (.int .i64 (sumAt a L)) ∧ Below w.heap.size w w' := by
  have hu : 1 ≤ l ∧ l ≤ 48 := of_decide_eq_true T.roll.1
  have HB0 := Lib.hid (below_one w (.cells #[.int .i64 l, .int .i64 (b : Int), .slice (some ⟨g, 0, none⟩) (2 ^ b) c] 33))
  cases hq : rightB l a
  · have H := Lib.hid (rem_wrong T.roll hq).2.2
    clear d T
    go_enter Try.func57, Try.ntmps57
    go_wp2_with (go_at_call 60; refine (rright_any _ _ _ (by omega) (by omega) A0 A1).mono ?_; rintro e w1 ⟨rfl, rfl⟩)
    go_ret
    exact ⟨ret_i (by rw [H.out]), HB0.out⟩
  · obtain ⟨p0, p1⟩ := right_mx hq
    have HG := T.get (show a ≠ 0 by omega)
    obtain ⟨p, k, hp, hk, hps, lk⟩ := rfind_has T.tab hb p0 p1 (T.ends a)
    have d1 := d.below HB0.out
    have LK := Lib.hid (lk _ l g c d1)
    have hc := (d1.2 p hps).2
    have BE := Lib.hid (fun w1 (hb1 : Below (w.alloc (.cells #[.int .i64 l, .int .i64 (b : Int), .slice (some ⟨g, 0, none⟩) (2 ^ b) c] 33)).heap.size (w.alloc (.cells #[.int .i64 l, .int .i64 (b : Int), .slice (some ⟨g, 0, none⟩) (2 ^ b) c] 33)) w1) =>
      (⟨((d1.below hb1).2 p hps).2, (hb1.cell (p := ⟨w.heap.size, 2, none⟩) (by simp)).trans (by simp)⟩ : w1.cell? ⟨g, p * 2 + 1, none⟩ = some (.int .i64 (tAt S p).2) ∧ w1.cell? ⟨w.heap.size, 2, none⟩ = some (.slice (some ⟨g, 0, none⟩) (2 ^ b) c)))
    rw [hp.out] at HG
    rw [HG] at BE
    clear d T lk hp hk HG d1 hc
    obtain ⟨N, hN⟩ : ∃ N, N = 2 ^ b := ⟨_, rfl⟩
    rw [← hN] at hps BE LK HB0 ⊢
    clear hN
    go_enter Try.func57, Try.ntmps57
    go_wp2_with (first | (go_at_call 60; refine (rright_any _ _ _ (by omega) (by omega) A0 A1).mono ?_; rintro e w1 ⟨rfl, rfl⟩) | (go_at_call 61; refine LK.out.mono ?_; rintro e w1 ⟨rfl, hb1⟩; obtain ⟨b1, b2⟩ := BE.out w1 hb1))
    go_ret
    exact ⟨rfl, HB0.out.trans (hb1.mono (by simp))⟩
set_option maxHeartbeats 800000 in
theorem rtWalk_any {b g c : Nat} {l : Int} {S L : List Nd} (a : Int) (w : World) (d : SlAt w g (2 ^ b) S) (T : Tb l b S L) (hb : b ≤ 40) (A0 : -9223372036854775808 ≤ a) (A1 : a ≤ 9223372036854775807) :
    Calls Try.prog 24 #[.agg #[.int .i64 l, .int .i64 (b : Int), .slice (some ⟨g, 0, none⟩) (2 ^ b) c], .int .i64 a] w fun e w' => e = .returned (.int .i64 (walkN l b S a)) ∧ Below w.heap.size w w' := by
  have hu : 1 ≤ l ∧ l ≤ 48 := of_decide_eq_true T.roll.1
  have HB0 := Lib.hid (below_one w (.cells #[.int .i64 l, .int .i64 (b : Int), .slice (some ⟨g, 0, none⟩) (2 ^ b) c] 33))
  cases hq : rightB l a
  · have H : Hid (walkN l b S a = 0) := if_neg (by rw [hq]; simp)
    clear d T
    go_enter Try.func24, Try.ntmps24
    go_wp2_with (go_at_call 60; refine (rright_any _ _ _ (by omega) (by omega) A0 A1).mono ?_; rintro e w1 ⟨rfl, rfl⟩)
    go_ret
    exact ⟨ret_i (by rw [H.out]), HB0.out⟩
  · obtain ⟨p0, p1⟩ := right_mx hq
    obtain ⟨p, k, hp, hk, hps, lk⟩ := rfind_has T.tab hb p0 p1 (T.ends a)
    have LK := Lib.hid (lk _ l g c (d.below HB0.out))
    have H : Hid (walkN l b S a = (k : Int) + 1) := by
      show _ = _
      rw [← hk.out]; exact if_pos hq
    clear d T lk hp hk hps
    obtain ⟨N, hN⟩ : ∃ N, N = 2 ^ b := ⟨_, rfl⟩
    rw [← hN] at LK HB0 ⊢
    clear hN
    go_enter Try.func24, Try.ntmps24
    go_wp2_with (first | (go_at_call 60; refine (rright_any _ _ _ (by omega) (by omega) A0 A1).mono ?_; rintro e w1 ⟨rfl, rfl⟩) | (go_at_call 61; refine LK.out.mono ?_; rintro e w1 ⟨rfl, hb1⟩))
    go_ret
    exact ⟨ret_i (by rw [H.out]), HB0.out.trans (hb1.mono (by simp))⟩
set_option maxHeartbeats 800000 in
theorem rtWay_any {g c N : Nat} {l bi : Int} (a d : Nat) (w : World) (ha : a < N) (hd : d < N) (hN40 : N ≤ 1099511627776) :
    Calls Try.prog 89 #[.agg #[.int .i64 l, .int .i64 bi, .slice (some ⟨g, 0, none⟩) N c], .int .i64 (a : Int), .int .i64 (d : Int)] w fun e w' => e = .returned (.int .i64 (tDs N a d : Nat)) ∧ Below w.heap.size w w' := by
  have nx := ds_is ha hd
  have E : Hid (((d : Int) - (a : Int) + (N : Int)) % (N : Int) = (tDs N a d : Nat)) := by
    show _ = _
    rcases nx.2 with q | q
    · rw [show (d : Int) - (a : Int) + (N : Int) = (tDs N a d : Int) + N by omega, Int.add_emod_right, Int.emod_eq_of_lt (by omega) (by omega)]
    · rw [show (d : Int) - (a : Int) + (N : Int) = (tDs N a d : Int) by omega, Int.emod_eq_of_lt (by omega) (by omega)]
  have hN : (N : Int) ≠ 0 := by omega
  go_enter Try.func89, Try.ntmps89
  go_wp2_with fail
  go_ret
  exact ⟨ret_i (by rw [← E.out]), below_one _ _⟩
set_option maxHeartbeats 3200000 in
theorem rtSlots2_any {b g c : Nat} {l : Int} {S L : List Nd} (w : World) (d : SlAt w g (2 ^ b) S) (T : Tb l b S L) (hb : b ≤ 40) :
    Calls Try.prog 87 #[.agg #[.int .i64 l, .int .i64 (b : Int), .slice (some ⟨g, 0, none⟩) (2 ^ b) c]] w fun e w' => ∃ v, e = .returned v ∧ OwnNd 42 w' w.heap.size v (ndsT S) ∧ Below w.heap.size w w' := by
  obtain ⟨i0, hi, hz0, hz1, hz2⟩ := info_parts node_info
  have hpN := pow_40 hb
  have hlen := T.tab.len
  have SP := Lib.hid T.tab.slot
  obtain ⟨N, hN⟩ : ∃ N, N = 2 ^ b := ⟨_, rfl⟩
  rw [← hN] at d hlen hpN ⊢
  have HB0 := Lib.hid (below_one w (.cells #[.int .i64 l, .int .i64 (b : Int), .slice (some ⟨g, 0, none⟩) N c] 33))
  have SD := Lib.hid d
  clear d T hN
  go_enter Try.func87, Try.ntmps87
  go_wp2_with fail
  go_loopw [3, 4] (fun v i wr => ∃ k : Nat, k ≤ N ∧ i = .int .i64 (k : Int) ∧ OwnNd 42 wr (w.heap.size + 1) v (ndsT (S.take k)) ∧ Below (w.heap.size + 1) (w.alloc (.cells #[.int .i64 l, .int .i64 (b : Int), .slice (some ⟨g, 0, none⟩) N c] 33)) wr) (fun _ i _ => N - (intOf i).toNat)
  case atStart => exact ⟨0, by omega, rfl, by simpa [ndsT] using ownNd_nil 42 _ _, Below.refl _ _⟩
  case round =>
    rename_i wr
    obtain ⟨k, hk, rfl, hown, hbl⟩ := hrel
    have HO := Lib.hid hown
    have BL := Lib.hid hbl
    have hsz := hbl.size
    simp at hsz
    have k2 : wr.cell? ⟨w.heap.size, 2, none⟩ = some (.slice (some ⟨g, 0, none⟩) N c) := (hbl.cell (p := ⟨w.heap.size, 2, none⟩) (by simp)).trans (by simp)
    clear hown
    by_cases hlt2 : k < N
    · have hkl : k < S.length := by omega
      obtain ⟨s0, s1⟩ := (SD.out.below HB0.out).2 k hlt2
      have hgz := SD.out.1
      have e0 := (hbl.cell (p := ⟨g, k * 2, none⟩) (by show g < w.heap.size + 1; omega)).trans s0
      have e1 := (hbl.cell (p := ⟨g, k * 2 + 1, none⟩) (by show g < w.heap.size + 1; omega)).trans s1
      have NS := nds_step hkl
      have sp := SP.out k
      have hle := nds_le (S.take k)
      have hle2 : (ndsT (S.take k)).length ≤ N := by rw [List.length_take] at hle; omega
      obtain ⟨⟨x1, x2⟩, hx⟩ : ∃ x, x = tAt S k := ⟨_, rfl⟩
      rw [← hx] at e0 e1 NS sp
      simp only [nz, Prod.mk.injEq] at e0 e1 NS sp
      clear s0 s1 hx hle hbl
      by_cases h0 : x1 = 0
      · rw [if_pos h0] at NS
        have NS2 := Lib.hid NS
        have hx2 : x2 = 0 := by omega
        subst hx2
        clear NS sp
        go_wp2_with fail
        go_roundw
        case rel => exact ⟨k + 1, by omega, by go_num, by rw [NS2.out]; exact HO.out, BL.out⟩
        case measure => simp [intOf]; omega
      · rw [if_neg h0] at NS
        have NS2 := Lib.hid NS
        have hx2 : 0 < x2 := by omega
        clear NS h0 sp
        go_wp2_with (at_builtin; refine wpList_append_own _ rfl _ _ 31 rfl (w.heap.size + 1) 42 i0 (.agg #[.int .i64 0, .int .i64 0]) 2 16 Try.underlying31 hi hz0 hz1 hz2 rfl (by decide) _ (ndsT (S.take k)).length (nods (ndsT (S.take k))) rfl (World.ownsRow.alloc HO.out _) ⟨wr.heap.size, 0, none⟩ 1 1 [.int .i64 x1, .int .i64 x2] rfl rfl (two_new _ _ _ _ _ (by simp)) (two_cell _ _) (by unfold maxLen; omega) (by omega) (by simp; omega) ?_)
        intro v' w3 hown2 hgrow _
        have hb3 : Below (w.heap.size + 1) (w.alloc (.cells #[.int .i64 l, .int .i64 (b : Int), .slice (some ⟨g, 0, none⟩) N c] 33)) w3 := (BL.out.alloc (by omega) _).grown hgrow (by simp; omega) (fun g hg => (World.ownsRow.lt HO.out g hg).1)
        have HO2 := Lib.hid (ownNd_snoc hown2)
        clear hown2 hgrow
        go_wp2_with fail
        go_roundw
        case rel => exact ⟨k + 1, by omega, by go_num, by rw [NS2.out]; exact HO2.out, hb3⟩
        case measure => simp [intOf]; omega
    · have hkn : k = N := by omega
      subst hkn
      clear hbl
      go_wp2_with fail
      go_ret
      refine ⟨_, rfl, ?_, HB0.out.trans (BL.out.mono (by simp))⟩
      have q := HO.out
      rw [List.take_of_length_le (by omega)] at q
      exact own_low q (by omega)

end Go.Proofs.Ytomhikjohgiloaa
