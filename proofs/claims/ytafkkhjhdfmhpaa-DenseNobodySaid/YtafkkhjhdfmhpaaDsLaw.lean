/- What the statements of layer dense call: a call of the store and of its list (do), whether the store is its list (like), and the chapter's example (alive). -/
import Derived.Test.YtafkkhjhdfmhpaaDs3
import Derived.Test.YtafkkhjhdfmhpaaDsRef2
namespace Go.Proofs.Ytafkkhjhdfmhpaa
set_option linter.unusedVariables false
open Go.RowKit

theorem call_box (w : World) (TO : TypeId) (a b c : Value) : Below w.heap.size w (w.alloc (.cells #[a, b, c] TO)) := (Below.refl _ _).alloc (Nat.le_refl _) _
set_option maxHeartbeats 1600000 in
theorem do_any {B g h : Nat} {l : Int} {L : List Nd} (k id cc : Int) (w : World) (d : DsA w B g h l L) (hr : RollC l L) (L1 : l ≤ 16) (A0 : -9223372036854775808 ≤ id) (A1 : id ≤ 9223372036854775807) (B0 : -9223372036854775808 ≤ cc) (B1 : cc ≤ 9223372036854775807) :
    Calls Try.prog 9 #[.pointer (some ⟨g, 0, none⟩), .agg #[.int .i64 k, .int .i64 id, .int .i64 cc]] w (DsPost B g h l (doW l L k id cc) (doN l L k id cc) w) := by
  have HB := Lib.hid (call_box w 32 (.int .i64 k) (.int .i64 id) (.int .i64 cc))
  have D : Hid (DsA (w.alloc (.cells #[.int .i64 k, .int .i64 id, .int .i64 cc] 32)) B g h l L) := d.below HB.out
  have R := Lib.hid hr
  have FS := Lib.hid (find_sum (roll_good hr) id)
  clear d hr
  by_cases h0 : k = 0
  · have H := Lib.hid (do_zero (l := l) (L := L) (id := id) (c := cc) h0)
    have h0' : (k == 0) = true := by simpa using h0
    clear h0
    go_enter Try.func9, Try.ntmps9
    go_wp2_with (go_at_call 16; refine (dsAdd_any _ _ _ D.out R.out L1 A0 A1 B0 B1).mono ?_; rintro e w1 ⟨rfl, hd, hc⟩)
    go_ret
    exact ⟨ret_i (by rw [H.out.2]), by rw [H.out.1]; exact hd, (Chg.of HB.out).trans hc⟩
  · by_cases h1 : k = 1
    · have H := Lib.hid (do_one (l := l) (L := L) (id := id) (c := cc) h0 h1)
      have h0' : (k == 0) = false := by simpa using h0
      have h1' : (k == 1) = true := by simpa using h1
      clear h0 h1
      go_enter Try.func9, Try.ntmps9
      go_wp2_with (go_at_call 17; refine (dsTake_any _ _ D.out R.out L1 A0 A1).mono ?_; rintro e w1 ⟨rfl, hd, hc⟩)
      go_ret
      exact ⟨ret_i (by rw [H.out.2, FS.out]), by rw [H.out.1]; exact hd, (Chg.of HB.out).trans hc⟩
    · have H := Lib.hid (do_else (l := l) (L := L) (id := id) (c := cc) h0 h1)
      have h0' : (k == 0) = false := by simpa using h0
      have h1' : (k == 1) = false := by simpa using h1
      clear h0 h1
      go_enter Try.func9, Try.ntmps9
      go_wp2_with (go_at_call 15; refine (dsGet_any _ _ D.out R.out L1 A0 A1).mono ?_; rintro e w1 ⟨rfl, rfl⟩)
      go_ret
      exact ⟨ret_i (by rw [H.out.2, FS.out]), by rw [H.out.1]; exact D.out, Chg.of HB.out⟩
theorem keep_two {W a b : World} {p q : Addr} {x y : Value} (h : a.cell? p = some x ∧ a.cell? q = some y ∧ Below W.heap.size W a) (hb : Below a.heap.size a b) (hp : p.block < W.heap.size) (hq : q.block < W.heap.size) : b.cell? p = some x ∧ b.cell? q = some y ∧ Below W.heap.size W b := by
  obtain ⟨h1, h2, h3⟩ := h
  have hz := h3.size
  exact ⟨(hb.cell (by omega)).trans h1, (hb.cell (by omega)).trans h2, h3.trans (hb.mono hz)⟩
theorem keep_twoN {W a : World} {p q : Addr} {x y : Value} (h : a.cell? p = some x ∧ a.cell? q = some y ∧ Below W.heap.size W a) (n : Nat) : (a.drewN n).cell? p = some x ∧ (a.drewN n).cell? q = some y ∧ Below W.heap.size W (a.drewN n) :=
  ⟨h.1, h.2.1, drewN_below h.2.2 n⟩
theorem below_of {W a : World} {p q : Addr} {x y : Value} (h : a.cell? p = some x ∧ a.cell? q = some y ∧ Below W.heap.size W a) : Below W.heap.size W a := h.2.2
set_option maxHeartbeats 3200000 in
theorem like_any {B g h : Nat} {l : Int} {L : List Nd} (A : Option Addr) (n c : Nat) (w : World) (d : DsA w B g h l L) (hv : NodesAt w (.slice A n c) L) (hr : RollC l L) (L1 : l ≤ 16) :
    Calls Try.prog 10 #[.pointer (some ⟨g, 0, none⟩), .agg #[.int .i64 l, .slice A n c]] w fun e w' => e = .returned (.bool true) ∧ Below w.heap.size w w' := by
  have hb0 : Below w.heap.size w (w.alloc (.cells #[.int .i64 l, .slice A n c] 30)) := (Below.refl _ _).alloc (Nat.le_refl _) _
  have HB := Lib.hid hb0
  have hn2 : n ≤ 1000000 := by have := (nodes_cells hv).1; have := roll_len hr; have := plc_bd L1; omega
  have hlen : ((L.length : Int) == (n : Int)) = true := by rw [(nodes_cells hv).1]; simp
  have hz : w.heap.size < (w.alloc (.cells #[.int .i64 l, .slice A n c] 30)).heap.size := by simp
  have x0 : (w.alloc (.cells #[.int .i64 l, .slice A n c] 30)).cell? ⟨w.heap.size, 0, none⟩ = some (.int .i64 l) := by simp
  have x1 : (w.alloc (.cells #[.int .i64 l, .slice A n c] 30)).cell? ⟨w.heap.size, 1, none⟩ = some (.slice A n c) := by simp
  have D : Hid (DsA (w.alloc (.cells #[.int .i64 l, .slice A n c] 30)) B g h l L) := d.below hb0
  have NV := Lib.hid (hv.below hb0)
  have R := Lib.hid hr
  have hss := same_self L
  have HZ := Lib.hid hz
  clear d hv hr hb0 hz
  go_enter Try.func10, Try.ntmps10
  go_wp2_with fail
  generalize w.alloc (.cells #[.int .i64 l, .slice A n c] 30) = W at *
  go_region_held3 (fun w' => w'.cell? ⟨w.heap.size, 0, none⟩ = some (.int .i64 l) ∧ w'.cell? ⟨w.heap.size, 1, none⟩ = some (.slice A n c) ∧ Below W.heap.size W w')
    (first | assumption | (exact keep_two (by assumption) (by assumption) HZ.out HZ.out) | (exact keep_twoN (by assumption) _) | (exact ⟨x0, x1, below_drew _⟩))
    (first
      | (go_at_call 12; refine (dsL_any _ (D.out.below (below_of (p := ⟨w.heap.size, 0, none⟩) (q := ⟨w.heap.size, 1, none⟩) (x := .int .i64 l) (y := .slice A n c) (by assumption)))).mono ?_; rintro e w1 ⟨rfl, rfl⟩)
      | (go_at_call 13; refine (dsLen_any _ (D.out.below (below_of (p := ⟨w.heap.size, 0, none⟩) (q := ⟨w.heap.size, 1, none⟩) (x := .int .i64 l) (y := .slice A n c) (by assumption)))).mono ?_; rintro e w1 ⟨rfl, rfl⟩)
      | (go_at_call 14; refine (dsTotal_any _ (D.out.below (below_of (p := ⟨w.heap.size, 0, none⟩) (q := ⟨w.heap.size, 1, none⟩) (x := .int .i64 l) (y := .slice A n c) (by assumption)))).mono ?_; rintro e w1 ⟨rfl, rfl⟩)
      | (go_at_call 23; refine (rsTotal_any _ _ _ _ L _ (NV.out.below (below_of (p := ⟨w.heap.size, 0, none⟩) (q := ⟨w.heap.size, 1, none⟩) (x := .int .i64 l) (y := .slice A n c) (by assumption))) R.out hn2).mono ?_; rintro e w2 ⟨rfl, hb2⟩)
      | (go_at_call 18; refine (dsSnap_any _ (D.out.below (below_of (p := ⟨w.heap.size, 0, none⟩) (q := ⟨w.heap.size, 1, none⟩) (x := .int .i64 l) (y := .slice A n c) (by assumption))) R.out L1).mono ?_; rintro e w3 ⟨A3, m3, c3, rfl, hn3, hb3⟩)
      | (go_at_call 19; refine (rSame_any _ _ _ _ _ _ L L _ (by exact hn3) (NV.out.below (below_of (p := ⟨w.heap.size, 0, none⟩) (q := ⟨w.heap.size, 1, none⟩) (x := .int .i64 l) (y := .slice A n c) (by assumption))) (by have := (nodes_cells hn3).1; have := (nodes_cells NV.out).1; omega) hn2).mono ?_; rintro e w4 ⟨rfl, q4, rfl⟩))
  rename_i hH
  have hbb := hH.2.2
  go_wp2_with fail
  go_ret
  exact ⟨rfl, HB.out.trans (hbb.mono HB.out.size)⟩
theorem lit2b (w : World) (t : TypeId) (a b c d : Int) : NodesAt (w.alloc (.cells #[.int .i64 a, .int .i64 b, .int .i64 c, .int .i64 d] t)) (.slice (some ⟨w.heap.size, 0, none⟩) 2 2) [(a, b), (c, d)] :=
  ⟨_, 2, rfl, by simp, by unfold maxLen; omega, fun e => by simp at e, fun _ => ⟨w.heap.size, 0, rfl, by simp, fun k hk => by
    match k, hk with
    | 0, _ => simp
    | 1, _ => simp⟩⟩
theorem ex_a : addS 3 [] 9 2 = [(9, 2)] ∧ addE 3 [] 9 2 = 0 := by decide
theorem ex_b : addS 3 [(9, 2)] 1 5 = [(1, 5), (9, 2)] ∧ addE 3 [(9, 2)] 1 5 = 0 := by decide
theorem ex_c : addS 3 [(1, 5), (9, 2)] 9 1 = [(1, 5), (9, 3)] ∧ addE 3 [(1, 5), (9, 2)] 9 1 = 0 := by decide
theorem ex_d : remW [(1, 5), (9, 3)] 9 = [(1, 5)] ∧ sumAt 9 [(1, 5), (9, 3)] = 3 := by decide
theorem ex_r0 : RollC 3 [] := roll_nil (by decide)
theorem ex_r1 : RollC 3 [(9, 2)] := by have := roll_addS (id := 9) (c := 2) ex_r0; rwa [ex_a.1] at this
theorem ex_r2 : RollC 3 [(1, 5), (9, 2)] := by have := roll_addS (id := 1) (c := 5) ex_r1; rwa [ex_b.1] at this
theorem ex_r3 : RollC 3 [(1, 5), (9, 3)] := by have := roll_addS (id := 9) (c := 1) ex_r2; rwa [ex_c.1] at this
set_option maxHeartbeats 3200000 in
set_option maxRecDepth 100000 in
theorem dsAlive_any (w : World) : Calls Try.prog 6 #[] w fun e w' => e = .returned (.bool true) ∧ Below w.heap.size w w' := by
  go_enter Try.func6, Try.ntmps6
  go_wp2_with fail
  refine (dsNew_any 3 _ (by omega) (by omega)).mono ?_
  rintro e w1 ⟨g, h, rfl, d1, b1⟩
  have hlt := d1.lt
  have D1 : Hid (DsA w1 w.heap.size g h 3 []) := d1
  have B1 := Lib.hid b1
  clear d1 b1
  go_wp2_with fail
  refine ((dsAdd_any 9 2 _ D1.out ex_r0 (by omega) (by omega) (by omega) (by omega) (by omega))).mono ?_
  rw [ex_a.1, ex_a.2]
  rintro e w2 ⟨rfl, d2, c2⟩
  have D2 : Hid (DsA w2 w.heap.size g h 3 [(9, 2)]) := d2
  have C2 := Lib.hid c2
  clear d2 c2
  go_wp2_with fail
  refine ((dsAdd_any 1 5 _ D2.out ex_r1 (by omega) (by omega) (by omega) (by omega) (by omega))).mono ?_
  rw [ex_b.1, ex_b.2]
  rintro e w3 ⟨rfl, d3, c3⟩
  have D3 : Hid (DsA w3 w.heap.size g h 3 [(1, 5), (9, 2)]) := d3
  have C3 := Lib.hid c3
  clear d3 c3
  go_wp2_with fail
  refine ((dsAdd_any 9 1 _ D3.out ex_r2 (by omega) (by omega) (by omega) (by omega) (by omega))).mono ?_
  rw [ex_c.1, ex_c.2]
  rintro e w4 ⟨rfl, d4, c4⟩
  have D4 : Hid (DsA w4 w.heap.size g h 3 [(1, 5), (9, 3)]) := d4
  have C4 := Lib.hid c4
  clear d4 c4
  go_wp2_with fail
  refine (dsSnap_any _ D4.out ex_r3 (by omega)).mono ?_
  rintro e w5 ⟨A5, m5, k5, rfl, n5, b5⟩
  have N5 := Lib.hid n5
  have hm5 : m5 = 2 := (nodes_cells n5).1
  subst hm5
  have B5 := Lib.hid b5
  clear n5 b5
  have hsm : sameB [(1, 5), (9, 3)] [(1, 5), (9, 3)] = true := same_self _
  go_wp2_with fail
  refine (rSame_any A5 _ 2 k5 2 2 [(1, 5), (9, 3)] [(1, 5), (9, 3)] _ (N5.out.below ((Below.refl _ _).alloc (Nat.le_refl _) _)) (lit2b w5 47 1 5 9 3) (by omega) (by omega)).mono ?_
  rintro e w6 ⟨rfl, q6, rfl⟩
  have b6 : Below w5.heap.size w5 ((w5.alloc (.cells #[.int .i64 1, .int .i64 5, .int .i64 9, .int .i64 3] 47)).drewN q6) := drewN_below ((Below.refl _ _).alloc (Nat.le_refl _) _) _
  have D6 : Hid (DsA ((w5.alloc (.cells #[.int .i64 1, .int .i64 5, .int .i64 9, .int .i64 3] 47)).drewN q6) w.heap.size g h 3 [(1, 5), (9, 3)]) := (D4.out.below B5.out).below b6
  have B6 := Lib.hid b6
  clear b6
  go_wp2_with fail
  refine ((dsTake_any 9 _ D6.out ex_r3 (by omega) (by omega) (by omega))).mono ?_
  rw [ex_d.1, ex_d.2]
  rintro e w7 ⟨rfl, d7, c7⟩
  have D7 : Hid (DsA w7 w.heap.size g h 3 [(1, 5)]) := d7
  have C7 := Lib.hid c7
  clear d7 c7
  go_wp2_with (go_at_call 13; refine (dsLen_any _ D7.out).mono ?_; rintro e w8 ⟨rfl, rfl⟩)
  go_ret
  have z1 := B1.out.size
  have z2 := C2.out.size
  have z3 := C3.out.size
  have z4 := C4.out.size
  have z5 := B5.out.size
  have z6 := B6.out.size
  obtain ⟨t1, t2, t3, t4⟩ := hlt
  have k2 := C2.out.below t1 t3 z1
  have k3 := C3.out.below t1 t3 (by omega)
  have k4 := C4.out.below t1 t3 (by omega)
  have k7 := C7.out.below t1 t3 (by omega)
  exact ⟨rfl, ((((((B1.out.trans k2).trans k3).trans k4).trans (B5.out.mono (by omega))).trans (B6.out.mono (by omega))).trans k7)⟩

end Go.Proofs.Ytafkkhjhdfmhpaa
