/- What the statements of layer probe call: a call of the store (do) and the chapter's example (alive). -/
import Derived.Test.YtomhikjohgiloaaPbQ
import Derived.Test.YtomhikjohgiloaaDsLaw
namespace Go.Proofs.Ytomhikjohgiloaa
set_option linter.unusedVariables false
set_option maxRecDepth 100000
open Go.RowKit

theorem dobs_zero {l : Int} {b : Nat} {S L : List Nd} {k id c : Int} (h : k = 0) : doB l b S L k id c = adB l b S L id c ∧ doS l b S L k id c = adS l b S L id c := by
  subst h
  refine ⟨?_, if_pos rfl⟩
  unfold doB adB
  by_cases q : addE l L id c = 0 ∧ c ≠ 0
  · rw [if_pos q, if_pos ⟨rfl, q⟩]
  · rw [if_neg q, if_neg (fun r => q r.2)]
theorem dobs_one {l : Int} {b : Nat} {S L : List Nd} {k id c : Int} (h : k ≠ 0) (h1 : k = 1) : doB l b S L k id c = b ∧ doS l b S L k id c = takeS l b S id := by
  refine ⟨if_neg (fun q => h q.1), ?_⟩
  unfold doS takeS
  rw [if_neg h]
  cases q : rightB l id
  · rw [if_neg (by simp), if_neg (by simp)]
  · rw [if_pos rfl, if_pos ⟨h1, rfl⟩]
theorem dobs_else {l : Int} {b : Nat} {S L : List Nd} {k id c : Int} (h : k ≠ 0) (h1 : k ≠ 1) : doB l b S L k id c = b ∧ doS l b S L k id c = S := by
  refine ⟨if_neg (fun q => h q.1), ?_⟩
  unfold doS
  rw [if_neg h, if_neg (fun q => h1 q.1)]
set_option maxHeartbeats 1600000 in
theorem pdo_any {B g h b : Nat} {l : Int} {S L : List Nd} (k id cc : Int) (w : World) (d : PbA w B g h l (L.length : Int) (sumC L) b S) (T : Tb l b S L) (hb : b ≤ 39) (A0 : -9223372036854775808 ≤ id) (A1 : id ≤ 9223372036854775807) (B0 : -9223372036854775808 ≤ cc) (B1 : cc ≤ 9223372036854775807) :
    Calls Try.prog 20 #[.pointer (some ⟨g, 0, none⟩), .agg #[.int .i64 k, .int .i64 id, .int .i64 cc]] w (AdPost B g h l (doB l b S L k id cc) (doS l b S L k id cc) (doW l L k id cc) (doN l L k id cc) w) := by
  have HB := Lib.hid (call_box w 36 (.int .i64 k) (.int .i64 id) (.int .i64 cc))
  have D : Hid (PbA (w.alloc (.cells #[.int .i64 k, .int .i64 id, .int .i64 cc] 36)) B g h l (L.length : Int) (sumC L) b S) := Ps.below d HB.out
  have TT := Lib.hid T
  have FS := Lib.hid (find_sum (roll_good T.roll) id)
  clear d T
  by_cases h0 : k = 0
  · have H := Lib.hid (do_zero (l := l) (L := L) (id := id) (c := cc) h0)
    have X := Lib.hid (dobs_zero (l := l) (b := b) (S := S) (L := L) (id := id) (c := cc) h0)
    have h0' : (k == 0) = true := by simpa using h0
    clear h0
    go_enter Try.func20, Try.ntmps20
    go_wp2_with (go_at_call 31; refine (pbAdd_any _ _ _ D.out TT.out hb A0 A1 B0 B1).mono ?_; rintro e w1 ⟨rfl, h2, hd, hc, hh⟩)
    go_ret
    refine ⟨ret_i (by rw [H.out.2]), h2, by rw [H.out.1, X.out.1, X.out.2]; exact hd, (Chg.of HB.out).trans hc, ?_⟩
    have := HB.out.size
    rcases hh with q | q
    · exact .inl q
    · exact .inr (by omega)
  · by_cases h1 : k = 1
    · have H := Lib.hid (do_one (l := l) (L := L) (id := id) (c := cc) h0 h1)
      have X := Lib.hid (dobs_one (l := l) (b := b) (S := S) (L := L) (id := id) (c := cc) h0 h1)
      have h0' : (k == 0) = false := by simpa using h0
      have h1' : (k == 1) = true := by simpa using h1
      clear h0 h1
      go_enter Try.func20, Try.ntmps20
      go_wp2_with (go_at_call 32; refine (pbTake_any _ _ D.out TT.out (by omega) A0 A1).mono ?_; rintro e w1 ⟨rfl, hd, hc⟩)
      go_ret
      exact ⟨ret_i (by rw [H.out.2, FS.out]), h, by rw [H.out.1, X.out.1, X.out.2]; exact hd, (Chg.of HB.out).trans hc, .inl rfl⟩
    · have H := Lib.hid (do_else (l := l) (L := L) (id := id) (c := cc) h0 h1)
      have X := Lib.hid (dobs_else (l := l) (b := b) (S := S) (L := L) (id := id) (c := cc) h0 h1)
      have h0' : (k == 0) = false := by simpa using h0
      have h1' : (k == 1) = false := by simpa using h1
      clear h0 h1
      go_enter Try.func20, Try.ntmps20
      go_wp2_with (go_at_call 28; refine (pbGet_any _ _ D.out TT.out (by omega) A0 A1).mono ?_; rintro e w1 ⟨rfl, rfl⟩)
      go_ret
      exact ⟨ret_i (by rw [H.out.2, FS.out]), h, by rw [H.out.1, X.out.1, X.out.2]; exact D.out, Chg.of HB.out, .inl rfl⟩
theorem pex_t0 : Tb 3 3 (List.replicate 8 nz) [] := tb_new (by decide)
theorem pex_a : addS 3 [] 9 2 = [(9, 2)] ∧ addE 3 [] 9 2 = 0 := by decide
theorem pex_home : homeV 3 1 = 4 ∧ homeV 3 2 = 1 ∧ homeV 3 5 = 0 := by decide
set_option maxHeartbeats 3200000 in
set_option maxRecDepth 100000 in
theorem pbAlive_any (w : World) : Calls Try.prog 16 #[] w fun e w' => e = .returned (.bool true) ∧ Below w.heap.size w w' := by
  have hh := pex_home
  obtain ⟨hh1, hh2, hh3⟩ := hh
  go_enter Try.func16, Try.ntmps16
  go_wp2_with fail
  refine (pbNew_any 3 _ (by omega) (by omega)).mono ?_
  rintro e w1 ⟨g, h, rfl, d1, b1⟩
  have hlt := d1.lt
  have D1 : Hid (PbA w1 w.heap.size g h 3 (([] : List Nd).length : Int) (sumC []) 3 (List.replicate 8 nz)) := d1
  have B1 := Lib.hid b1
  clear d1 b1
  have HB2 := Lib.hid (ad_bd (l := 3) (b := 3) (S := List.replicate 8 nz) (L := []) 9 2)
  have TT := Lib.hid (tb_ad pex_t0 (by omega) 9 2)
  have AD := Lib.hid (fun w1 (d : PbA w1 w.heap.size g h 3 (([] : List Nd).length : Int) (sumC []) 3 (List.replicate 8 nz)) => pbAdd_any 9 2 w1 d pex_t0 (by omega) (by omega) (by omega) (by omega) (by omega))
  rw [pex_a.1] at TT
  rw [pex_a.1, pex_a.2] at AD
  obtain ⟨b2, hb2⟩ : ∃ x, x = adB 3 3 (List.replicate 8 nz) [] 9 2 := ⟨_, rfl⟩
  obtain ⟨S2, hS2⟩ : ∃ x, x = adS 3 3 (List.replicate 8 nz) [] 9 2 := ⟨_, rfl⟩
  rw [← hb2] at HB2
  rw [← hb2, ← hS2] at TT AD
  clear hb2 hS2
  go_wp2_with (first
    | (go_at_call 14; refine (pbHome_any _ _ _ (by omega) (by omega) (by omega) (by omega)).mono ?_; (first | rw [hh1] | rw [hh2] | rw [hh3]); rintro e w9 ⟨rfl, rfl⟩))
  refine (AD.out _ D1.out).mono ?_
  rintro e w2 ⟨rfl, h2, d2, c2, hn2⟩
  have D2 : Hid (PbA w2 w.heap.size g h2 3 (([(9, 2)] : List Nd).length : Int) (sumC [(9, 2)]) b2 S2) := d2
  have C2 := Lib.hid c2
  have e9 : sumAt 9 [(9, 2)] = 2 := rfl
  clear d2 c2 hn2
  go_wp2_with (go_at_call 28; refine (pbGet_any 9 _ D2.out TT.out (by have := HB2.out; omega) (by omega) (by omega)).mono ?_; rw [e9]; rintro e w9 ⟨rfl, rfl⟩)
  go_ret
  have z1 := B1.out.size
  obtain ⟨t1, t2, t3, t4⟩ := hlt
  exact ⟨rfl, B1.out.trans (C2.out.below t1 t3 z1)⟩
end Go.Proofs.Ytomhikjohgiloaa
