/- The document's answers of package dewpondref08: New, Do. -/
import Derived.Test.YtomhikjohgiloaaPbRef5
namespace Go.Proofs.Ytomhikjohgiloaa
set_option linter.unusedVariables false
set_option maxRecDepth 100000
open Go.RowKit

theorem rtNew_any (l : Int) (w : World) : Calls Try.prog 18 #[.int .i64 l] w fun e w' =>
    ∃ g, e = .returned (.agg #[.int .i64 l, .int .i64 3, .slice (some ⟨g, 0, none⟩) 8 8]) ∧ OwnNd 42 w' w.heap.size (.slice (some ⟨g, 0, none⟩) 8 8) (List.replicate 8 nz) ∧ Below w.heap.size w w' := by
  obtain ⟨i0, hi, hz0, hz1, hz2⟩ := info_parts node_info
  have hmk := make_all (P := Try.prog) Try.underlying31 hi hz0 hz1 hz2 8 16 rfl 8 rfl (by omega) (by omega)
  clear hi
  go_enter Try.func18, Try.ntmps18
  go_wp2_with fail
  have o := World.ownsRow_lit (base := w.heap.size) (e := 42) (size := 2) (w.alloc (.cells #[.int .i64 l, .int .i64 3, .slice (some ⟨w.heap.size + 1, 0, none⟩) 8 8] 33)) (blank (.agg #[.int .i64 0, .int .i64 0]) (8 * 2)) 8 (by simp) (by unfold maxLen; omega) (by rw [blank_size])
  have e2 : (w.alloc (.cells #[.int .i64 l, .int .i64 3, .slice (some ⟨w.heap.size + 1, 0, none⟩) 8 8] 33)).heap.size = w.heap.size + 1 := by simp
  rw [e2, blank_nodes] at o
  exact bodyPost_ret (v := .agg #[.int .i64 l, .int .i64 3, .slice (some ⟨w.heap.size + 1, 0, none⟩) 8 8]) (by simp [results, Try.results18, go_sem]) rfl ⟨_, rfl, o, ((Below.refl _ _).alloc (Nat.le_refl _) _).alloc (by simp) _⟩

theorem tdo_blocks (w : World) (TT TO : TypeId) (x y z a b c : Value) :
    Below w.heap.size w (((w.alloc (.cells #[x, y, z] TT)).alloc (.cells #[a, b, c] TO)).alloc (.cells #[.int .i64 0, .int .i64 0, .slice none 0 0] TT)) ∧
    TBx (((w.alloc (.cells #[x, y, z] TT)).alloc (.cells #[a, b, c] TO)).alloc (.cells #[.int .i64 0, .int .i64 0, .slice none 0 0] TT)) w.heap.size x y z ∧
    TBx (((w.alloc (.cells #[x, y, z] TT)).alloc (.cells #[a, b, c] TO)).alloc (.cells #[.int .i64 0, .int .i64 0, .slice none 0 0] TT)) (w.heap.size + 1) a b c ∧
    TBx (((w.alloc (.cells #[x, y, z] TT)).alloc (.cells #[a, b, c] TO)).alloc (.cells #[.int .i64 0, .int .i64 0, .slice none 0 0] TT)) (w.heap.size + 1 + 1) (.int .i64 0) (.int .i64 0) (.slice none 0 0) := by
  have e1 : (w.alloc (.cells #[x, y, z] TT)).heap.size = w.heap.size + 1 := by simp
  have e2 : ((w.alloc (.cells #[x, y, z] TT)).alloc (.cells #[a, b, c] TO)).heap.size = w.heap.size + 1 + 1 := by simp
  have p := ((tbx_new w TT x y z).alloc (.cells #[a, b, c] TO)).alloc (.cells #[.int .i64 0, .int .i64 0, .slice none 0 0] TT)
  have q := (tbx_new (w.alloc (.cells #[x, y, z] TT)) TO a b c).alloc (.cells #[.int .i64 0, .int .i64 0, .slice none 0 0] TT)
  have r := tbx_new ((w.alloc (.cells #[x, y, z] TT)).alloc (.cells #[a, b, c] TO)) TT (.int .i64 0) (.int .i64 0) (.slice none 0 0)
  rw [e1] at q
  rw [e2] at r
  exact ⟨(((Below.refl _ _).alloc (Nat.le_refl _) _).alloc (by simp) _).alloc (by simp; omega) _, p, q, r⟩
set_option maxHeartbeats 3200000 in
theorem rtDo_any {b g c : Nat} {l : Int} {S L : List Nd} (k id cc : Int) (w : World) (d : OwnNd 42 w 0 (.slice (some ⟨g, 0, none⟩) (2 ^ b) c) S) (T : Tb l b S L) (hb : b ≤ 39) (hl : L.length ≤ 400000) (A0 : -9223372036854775808 ≤ id) (A1 : id ≤ 9223372036854775807) (B0 : -9223372036854775808 ≤ cc) (B1 : cc ≤ 9223372036854775807) :
    Calls Try.prog 19 #[.agg #[.int .i64 l, .int .i64 (b : Int), .slice (some ⟨g, 0, none⟩) (2 ^ b) c], .agg #[.int .i64 k, .int .i64 id, .int .i64 cc]] w
      (RdPost l (doB l b S L k id cc) (doS l b S L k id cc) (doN l L k id cc) (.slice (some ⟨g, 0, none⟩) (2 ^ b) c) w) := by
  have DB := tdo_blocks w 33 36 (.int .i64 l) (.int .i64 (b : Int)) (.slice (some ⟨g, 0, none⟩) (2 ^ b) c) (.int .i64 k) (.int .i64 id) (.int .i64 cc)
  have OD := Lib.hid (own_below d DB.1)
  have GW : Hid (g < w.heap.size) := (d.lt g rfl).2
  have FS := Lib.hid (find_sum (roll_good T.roll) id)
  have AD := Lib.hid (fun w1 (d1 : OwnNd 42 w1 0 (.slice (some ⟨g, 0, none⟩) (2 ^ b) c) S) => rtAdd_any id cc w1 d1 T hb hl A0 A1 B0 B1)
  have TD := Lib.hid (fun w1 (d1 : OwnNd 42 w1 0 (.slice (some ⟨g, 0, none⟩) (2 ^ b) c) S) => rtTake_any id w1 d1 T hb A0 A1)
  have GD := Lib.hid (fun w1 (d1 : SlAt w1 g (2 ^ b) S) => rtGet_any (c := c) id w1 d1 T (by omega) A0 A1)
  obtain ⟨b2, hb2⟩ : ∃ x, x = doB l b S L k id cc := ⟨_, rfl⟩
  obtain ⟨S2, hS2⟩ : ∃ x, x = doS l b S L k id cc := ⟨_, rfl⟩
  have HB2 := Lib.hid hb2
  have HS2 := Lib.hid hS2
  rw [← hb2, ← hS2]
  clear d T hb2 hS2
  by_cases h0 : k = 0
  · have HD := Lib.hid (do_zero (l := l) (L := L) (id := id) (c := cc) h0)
    have RB : Hid ((if addE l L id cc = 0 ∧ cc ≠ 0 then addB b S id else b) = b2) := by
      show _ = _
      rw [HB2.out]; unfold doB
      by_cases q : addE l L id cc = 0 ∧ cc ≠ 0
      · rw [if_pos q, if_pos ⟨h0, q⟩]
      · rw [if_neg q, if_neg (fun r => q r.2)]
    have RS : Hid ((if addE l L id cc = 0 ∧ cc ≠ 0 then addT b S id cc else S) = S2) := by
      show _ = _
      rw [HS2.out]; unfold doS
      rw [if_pos h0]
    rw [RB.out, RS.out] at AD
    have h0' : (k == 0) = true := by simpa using h0
    clear h0
    go_enter Try.func19, Try.ntmps19
    go_wp2_with fail
    generalize ((w.alloc (.cells #[.int .i64 l, .int .i64 (b : Int), .slice (some ⟨g, 0, none⟩) (2 ^ b) c] 33)).alloc (.cells #[.int .i64 k, .int .i64 id, .int .i64 cc] 36)).alloc (.cells #[.int .i64 0, .int .i64 0, .slice none 0 0] 33) = W at *
    obtain ⟨BW, _, _, T3⟩ := DB
    refine (AD.out _ OD.out).mono ?_
    rintro e w1 ⟨g1, c1, rfl, ho1, hb1, hn1⟩
    have T31 := T3.to hb1 T3.lt
    have hz := BW.size
    have hz3 := T3.lt
    have hgz := GW.out
    have NB : Hid (Value.slice (some ⟨g1, 0, none⟩) (2 ^ b2) c1 = .slice (some ⟨g, 0, none⟩) (2 ^ b) c ∨ w.heap.size ≤ g1) := hn1.imp (fun q => q) (fun q => by omega)
    have hgb : Hid ((Value.slice (some ⟨g1, 0, none⟩) (2 ^ b2) c1).ownBlock ≠ some (w.heap.size + 1 + 1)) := by
      show _ ≠ _
      rcases hn1 with q | q
      · injection q with q _ _
        injection q with q
        injection q with q
        simp [Value.ownBlock]; omega
      · simp [Value.ownBlock]; omega
    have OW := Lib.hid ho1
    have BB := Lib.hid (BW.trans (hb1.mono BW.size))
    obtain ⟨q0, q1, q2⟩ := T31.steps
    obtain ⟨u0, u1, u2, f0, f1, f2, _⟩ := T31
    clear ho1 hb1 hn1 T3 hz3
    go_wp2_with fail
    exact bodyPost_ret (v := .tuple #[.agg #[.int .i64 l, .int .i64 (b2 : Int), .slice (some ⟨g1, 0, none⟩) (2 ^ b2) c1], .int .i64 (addE l L id cc)]) (by simp [results, Try.results19, go_sem, q0, q1, q2]) rfl ⟨g1, c1, by rw [HD.out.2], own_set3 OW.out hgb.out _ _ _, below_set3 BB.out (by omega) _ _ _, NB.out⟩
  · have RB : Hid (b2 = b) := by
      show _ = _
      rw [HB2.out]; unfold doB
      rw [if_neg (fun q => h0 q.1)]
    by_cases h1 : k = 1
    · have HD := Lib.hid (do_one (l := l) (L := L) (id := id) (c := cc) h0 h1)
      have RS : Hid (takeS l b S id = S2) := by
        show _ = _
        rw [HS2.out]; unfold doS takeS
        rw [if_neg h0]
        cases q : rightB l id
        · rw [if_neg (by simp), if_neg (by simp)]
        · rw [if_pos rfl, if_pos ⟨h1, rfl⟩]
      rw [RS.out] at TD
      have h0' : (k == 0) = false := by simpa using h0
      have h1' : (k == 1) = true := by simpa using h1
      clear h0 h1
      go_enter Try.func19, Try.ntmps19
      go_wp2_with fail
      generalize ((w.alloc (.cells #[.int .i64 l, .int .i64 (b : Int), .slice (some ⟨g, 0, none⟩) (2 ^ b) c] 33)).alloc (.cells #[.int .i64 k, .int .i64 id, .int .i64 cc] 36)).alloc (.cells #[.int .i64 0, .int .i64 0, .slice none 0 0] 33) = W at *
      obtain ⟨BW, _, _, T3⟩ := DB
      refine (TD.out _ OD.out).mono ?_
      rintro e w1 ⟨g1, c1, rfl, ho1, hb1, hn1⟩
      have T31 := T3.to hb1 T3.lt
      have hz := BW.size
      have hz3 := T3.lt
      have hgz := GW.out
      have NB : Hid (Value.slice (some ⟨g1, 0, none⟩) (2 ^ b) c1 = .slice (some ⟨g, 0, none⟩) (2 ^ b) c ∨ w.heap.size ≤ g1) := hn1.imp (fun q => q) (fun q => by omega)
      have hgb : Hid ((Value.slice (some ⟨g1, 0, none⟩) (2 ^ b) c1).ownBlock ≠ some (w.heap.size + 1 + 1)) := by
        show _ ≠ _
        rcases hn1 with q | q
        · injection q with q _ _
          injection q with q
          injection q with q
          simp [Value.ownBlock]; omega
        · simp [Value.ownBlock]; omega
      have OW := Lib.hid ho1
      have BB := Lib.hid (BW.trans (hb1.mono BW.size))
      obtain ⟨q0, q1, q2⟩ := T31.steps
      obtain ⟨u0, u1, u2, f0, f1, f2, _⟩ := T31
      clear ho1 hb1 hn1 T3 hz3
      go_wp2_with fail
      exact bodyPost_ret (v := .tuple #[.agg #[.int .i64 l, .int .i64 (b : Int), .slice (some ⟨g1, 0, none⟩) (2 ^ b) c1], .int .i64 (sumAt id L)]) (by simp [results, Try.results19, go_sem, q0, q1, q2]) rfl ⟨g1, c1, by rw [HD.out.2, FS.out, RB.out], by rw [RB.out]; exact own_set3 OW.out hgb.out _ _ _, below_set3 BB.out (by omega) _ _ _, by rw [RB.out]; exact NB.out⟩

    · have HD := Lib.hid (do_else (l := l) (L := L) (id := id) (c := cc) h0 h1)
      have RS : Hid (S2 = S) := by
        show _ = _
        rw [HS2.out]; unfold doS
        rw [if_neg h0, if_neg (fun q => h1 q.1)]
      have h0' : (k == 0) = false := by simpa using h0
      have h1' : (k == 1) = false := by simpa using h1
      clear h0 h1
      go_enter Try.func19, Try.ntmps19
      go_wp2_with fail
      generalize ((w.alloc (.cells #[.int .i64 l, .int .i64 (b : Int), .slice (some ⟨g, 0, none⟩) (2 ^ b) c] 33)).alloc (.cells #[.int .i64 k, .int .i64 id, .int .i64 cc] 36)).alloc (.cells #[.int .i64 0, .int .i64 0, .slice none 0 0] 33) = W at *
      obtain ⟨BW, T1, T2, T3⟩ := DB
      have TA := Lib.hid T1
      have TB := Lib.hid T2
      have TC := Lib.hid T3
      have BB := Lib.hid BW
      have SD : Hid (SlAt W g (2 ^ b) S) := sl_own OD.out
      obtain ⟨x0, x1, x2, _, _, _, hlt1⟩ := T1
      have y1 := T2.c1
      have KW : Hid (∀ w', Below W.heap.size W w' → w'.cell? ⟨w.heap.size, 0, none⟩ = some (.int .i64 l) ∧ w'.cell? ⟨w.heap.size, 1, none⟩ = some (.int .i64 (b : Int)) ∧ w'.cell? ⟨w.heap.size, 2, none⟩ = some (.slice (some ⟨g, 0, none⟩) (2 ^ b) c) ∧ w'.cell? ⟨w.heap.size + 1, 1, none⟩ = some (.int .i64 id)) := fun w' h => ⟨(h.cell (p := ⟨w.heap.size, 0, none⟩) hlt1).trans x0, (h.cell (p := ⟨w.heap.size, 1, none⟩) hlt1).trans x1, (h.cell (p := ⟨w.heap.size, 2, none⟩) hlt1).trans x2, (h.cell (p := ⟨w.heap.size + 1, 1, none⟩) T2.lt).trans y1⟩
      have KS : Hid (∀ w1, Below W.heap.size W w1 → ∀ a1 a2 a3, (((w1.setCell ⟨w.heap.size + 1 + 1, 0, none⟩ a1).setCell ⟨w.heap.size + 1 + 1, 1, none⟩ a2).setCell ⟨w.heap.size + 1 + 1, 2, none⟩ a3).cell? ⟨w.heap.size, 0, none⟩ = some (.int .i64 l) ∧ (((w1.setCell ⟨w.heap.size + 1 + 1, 0, none⟩ a1).setCell ⟨w.heap.size + 1 + 1, 1, none⟩ a2).setCell ⟨w.heap.size + 1 + 1, 2, none⟩ a3).cell? ⟨w.heap.size, 1, none⟩ = some (.int .i64 (b : Int)) ∧ (((w1.setCell ⟨w.heap.size + 1 + 1, 0, none⟩ a1).setCell ⟨w.heap.size + 1 + 1, 1, none⟩ a2).setCell ⟨w.heap.size + 1 + 1, 2, none⟩ a3).cell? ⟨w.heap.size, 2, none⟩ = some (.slice (some ⟨g, 0, none⟩) (2 ^ b) c) ∧ (((w1.setCell ⟨w.heap.size + 1 + 1, 0, none⟩ a1).setCell ⟨w.heap.size + 1 + 1, 1, none⟩ a2).setCell ⟨w.heap.size + 1 + 1, 2, none⟩ a3).cell? ⟨w.heap.size + 1, 1, none⟩ = some (.int .i64 id)) := fun w1 hb a1 a2 a3 => by
        have q1 := (((TA.out.to hb TA.out.lt).far (r := w.heap.size + 1 + 1) (k := 0) (by omega) a1).far (r := w.heap.size + 1 + 1) (k := 1) (by omega) a2).far (r := w.heap.size + 1 + 1) (k := 2) (by omega) a3
        have q2 := (((TB.out.to hb TB.out.lt).far (r := w.heap.size + 1 + 1) (k := 0) (by omega) a1).far (r := w.heap.size + 1 + 1) (k := 1) (by omega) a2).far (r := w.heap.size + 1 + 1) (k := 2) (by omega) a3
        exact ⟨q1.c0, q1.c1, q1.c2, q2.c1⟩
      have GW1 := Lib.hid (fun w1 (hb : Below W.heap.size W w1) => GD.out w1 (SD.out.below hb))
      clear T2 T3 BW hlt1 x0 x1 x2 y1
      go_region_held3 (fun w' => w'.cell? ⟨w.heap.size, 0, none⟩ = some (.int .i64 l) ∧ w'.cell? ⟨w.heap.size, 1, none⟩ = some (.int .i64 (b : Int)) ∧ w'.cell? ⟨w.heap.size, 2, none⟩ = some (.slice (some ⟨g, 0, none⟩) (2 ^ b) c) ∧ w'.cell? ⟨w.heap.size + 1, 1, none⟩ = some (.int .i64 id))
        (first | assumption | (exact KW.out _ (below_drew _)) | (exact KW.out _ hb1) | (exact KS.out _ hb1 _ _ _))
        (first | (go_at_call 57; refine (GW1.out _ (below_drew _)).mono ?_; rintro e w1 ⟨rfl, hb1'⟩; have hb1 : Below W.heap.size W w1 := ((below_drew W).trans hb1'); have T31 := TC.out.to hb1 TC.out.lt; obtain ⟨q0, q1, q2⟩ := T31.steps; obtain ⟨u0, u1, u2, f0, f1, f2, _⟩ := T31))
      have hgz := GW.out
      have hgb : Hid ((Value.slice (some ⟨g, 0, none⟩) (2 ^ b) c).ownBlock ≠ some (w.heap.size + 1 + 1)) := by show _ ≠ _; simp [Value.ownBlock]; omega
      have FIN := fun a1 a2 a3 => own_set3 (own_below OD.out hb1) hgb.out a1 a2 a3
      have FB := fun a1 a2 a3 => below_set3 (BB.out.trans (hb1.mono BB.out.size)) (show w.heap.size ≤ w.heap.size + 1 + 1 by omega) a1 a2 a3
      go_wp2_with fail
      exact bodyPost_ret (v := .tuple #[.agg #[.int .i64 l, .int .i64 (b : Int), .slice (some ⟨g, 0, none⟩) (2 ^ b) c], .int .i64 (sumAt id L)]) (by simp [results, Try.results19, go_sem, q0, q1, q2]) rfl ⟨g, c, by rw [HD.out.2, FS.out, RB.out], by rw [RB.out, RS.out]; exact FIN _ _ _, FB _ _ _, .inl (by rw [RB.out])⟩

end Go.Proofs.Ytomhikjohgiloaa
