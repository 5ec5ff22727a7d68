/- What the statements of layer pool call: a call of the pool (do), whether it is its list (like), and the chapter's example (alive). -/
import Derived.Test.YtomhikjohgiloaaPo2
import Derived.Test.YtomhikjohgiloaaDsLaw
namespace Go.Proofs.Ytomhikjohgiloaa
set_option linter.unusedVariables false
set_option maxRecDepth 100000
open Go.RowKit

theorem read_below {P : Program} {f : FuncId} {args : Array Value} {w : World} {v : Value} (h : Calls P f args w fun e w' => e = .returned v ∧ ∃ q, w' = w.drewN q) : Calls P f args w fun e w' => e = .returned v ∧ Below w.heap.size w w' :=
  h.mono fun _ _ ⟨a, q, b⟩ => ⟨a, by rw [b]; exact drewN_below (Below.refl _ _) q⟩
set_option maxHeartbeats 1600000 in
theorem podo_any {B p g h : Nat} {kd l : Int} {n : Nat} {L : List Nd} (k id cc : Int) (w : World) (d : PoA w B p g h kd l n L) (hn : n ≤ 1000) (A0 : -9223372036854775808 ≤ id) (A1 : id ≤ 9223372036854775807) (B0 : -9223372036854775808 ≤ cc) (B1 : cc ≤ 9223372036854775807) :
    Calls Try.prog 38 #[.pointer (some ⟨p, 0, none⟩), .agg #[.int .i64 k, .int .i64 id, .int .i64 cc]] w (PoPost B p g h kd l (n + 1) (doW l L k id cc) (doN l L k id cc) w) := by
  have HB := Lib.hid (call_box w 36 (.int .i64 k) (.int .i64 id) (.int .i64 cc))
  have D := Lib.hid (d.below HB.out)
  have FS := Lib.hid (find_sum (roll_good d.roll) id)
  clear d
  by_cases h0 : k = 0
  · have H := Lib.hid (do_zero (l := l) (L := L) (id := id) (c := cc) h0)
    have h0' : (k == 0) = true := by simpa using h0
    clear h0
    go_enter Try.func38, Try.ntmps38
    go_wp2_with (go_at_call 53; refine (poAdd_any _ _ _ D.out hn A0 A1 B0 B1).mono ?_; rintro e w1 ⟨rfl, h2, hd, hc, hh⟩)
    go_ret
    refine ⟨ret_i (by rw [H.out.2]), h2, by rw [H.out.1]; exact hd, (Chg.of HB.out).trans hc, ?_⟩
    have := HB.out.size
    rcases hh with q | q
    · exact .inl q
    · exact .inr (by omega)
  · by_cases h1 : k = 1
    · have H := Lib.hid (do_one (l := l) (L := L) (id := id) (c := cc) h0 h1)
      have h0' : (k == 0) = false := by simpa using h0
      have h1' : (k == 1) = true := by simpa using h1
      clear h0 h1
      go_enter Try.func38, Try.ntmps38
      go_wp2_with (go_at_call 54; refine (poTake_any _ _ D.out hn A0 A1).mono ?_; rintro e w1 ⟨rfl, h2, hd, hc, hh⟩)
      go_ret
      refine ⟨ret_i (by rw [H.out.2, FS.out]), h2, by rw [H.out.1]; exact hd, (Chg.of HB.out).trans hc, ?_⟩
      have := HB.out.size
      rcases hh with q | q
      · exact .inl q
      · exact .inr (by omega)
    · have H := Lib.hid (do_else (l := l) (L := L) (id := id) (c := cc) h0 h1)
      have h0' : (k == 0) = false := by simpa using h0
      have h1' : (k == 1) = false := by simpa using h1
      clear h0 h1
      go_enter Try.func38, Try.ntmps38
      go_wp2_with (go_at_call 52; refine (poGet_any _ _ D.out hn A0 A1).mono ?_; rintro e w1 ⟨rfl, q, rfl⟩)
      go_ret
      exact ⟨ret_i (by rw [H.out.2, FS.out]), h, by rw [H.out.1]; exact (D.out.below (drewN_below (Below.refl _ _) q)).more (Nat.le_succ n), Chg.of (drewN_below HB.out q), .inl rfl⟩
set_option maxHeartbeats 3200000 in
theorem polike_any {B p g h : Nat} {kd l : Int} {k : Nat} {L : List Nd} (A : Option Addr) (n c : Nat) (w : World) (d : PoA w B p g h kd l k L) (hk : k ≤ 1000) (hv : NodesAt w (.slice A n c) L) :
    Calls Try.prog 39 #[.pointer (some ⟨p, 0, none⟩), .int .i64 kd, .agg #[.int .i64 l, .slice A n c]] w fun e w' => e = .returned (.bool true) ∧ Below w.heap.size w w' := by
  have hb0 : Below w.heap.size w (w.alloc (.cells #[.int .i64 l, .slice A n c] 48)) := (Below.refl _ _).alloc (Nat.le_refl _) _
  have HB := Lib.hid hb0
  have hn2 : n ≤ 1000000 := by have := (nodes_cells hv).1; have := d.len; omega
  have hlen : ((L.length : Int) == (n : Int)) = true := by rw [(nodes_cells hv).1]; simp
  have hz : w.heap.size < (w.alloc (.cells #[.int .i64 l, .slice A n c] 48)).heap.size := by simp
  have x0 : (w.alloc (.cells #[.int .i64 l, .slice A n c] 48)).cell? ⟨w.heap.size, 0, none⟩ = some (.int .i64 l) := by simp
  have x1 : (w.alloc (.cells #[.int .i64 l, .slice A n c] 48)).cell? ⟨w.heap.size, 1, none⟩ = some (.slice A n c) := by simp
  have D := Lib.hid (d.below hb0)
  have NV := Lib.hid (hv.below hb0)
  have R := Lib.hid d.roll
  have hss := same_self L
  have HZ := Lib.hid hz
  clear d hv hb0 hz
  go_enter Try.func39, Try.ntmps39
  go_wp2_with fail
  generalize w.alloc (.cells #[.int .i64 l, .slice A n c] 48) = W at *
  go_region_held3 (fun w' => w'.cell? ⟨w.heap.size, 0, none⟩ = some (.int .i64 l) ∧ w'.cell? ⟨w.heap.size, 1, none⟩ = some (.slice A n c) ∧ Below W.heap.size W w')
    (first | assumption | (exact keep_two (by assumption) (by assumption) HZ.out HZ.out) | (exact keep_twoN (by assumption) _) | (exact ⟨x0, x1, below_drew _⟩))
    (first
      | (go_at_call 49; refine (read_below (poKind_any _ (D.out.below (below_of (p := ⟨w.heap.size, 0, none⟩) (q := ⟨w.heap.size, 1, none⟩) (x := .int .i64 l) (y := .slice A n c) (by assumption))) hk)).mono ?_; rintro e w1 ⟨rfl, hb1⟩)
      | (go_at_call 50; refine (read_below (poL_any _ (D.out.below (below_of (p := ⟨w.heap.size, 0, none⟩) (q := ⟨w.heap.size, 1, none⟩) (x := .int .i64 l) (y := .slice A n c) (by assumption))) hk)).mono ?_; rintro e w1 ⟨rfl, hb1⟩)
      | (go_at_call 51; refine (read_below (poLen_any _ (D.out.below (below_of (p := ⟨w.heap.size, 0, none⟩) (q := ⟨w.heap.size, 1, none⟩) (x := .int .i64 l) (y := .slice A n c) (by assumption))) hk)).mono ?_; rintro e w1 ⟨rfl, hb1⟩)
      | (go_at_call 43; refine (read_below (poTotal_any _ (D.out.below (below_of (p := ⟨w.heap.size, 0, none⟩) (q := ⟨w.heap.size, 1, none⟩) (x := .int .i64 l) (y := .slice A n c) (by assumption))) hk)).mono ?_; rintro e w1 ⟨rfl, hb1⟩)
      | (go_at_call 65; refine (rsTotal_any _ _ _ _ L _ (NV.out.below (below_of (p := ⟨w.heap.size, 0, none⟩) (q := ⟨w.heap.size, 1, none⟩) (x := .int .i64 l) (y := .slice A n c) (by assumption))) R.out hn2).mono ?_; rintro e w2 ⟨rfl, hb2⟩)
      | (go_at_call 42; refine ((poSnap_any _ (D.out.below (below_of (p := ⟨w.heap.size, 0, none⟩) (q := ⟨w.heap.size, 1, none⟩) (x := .int .i64 l) (y := .slice A n c) (by assumption))) hk).mono fun _ _ q => list_forget q).mono ?_; rintro e w3 ⟨A3, m3, c3, rfl, hn3, hb3⟩)
      | (go_at_call 41; refine (rSame_any _ _ _ _ _ _ L L _ (by exact hn3) (NV.out.below (below_of (p := ⟨w.heap.size, 0, none⟩) (q := ⟨w.heap.size, 1, none⟩) (x := .int .i64 l) (y := .slice A n c) (by assumption))) (by have := (nodes_cells hn3).1; have := (nodes_cells NV.out).1; omega) hn2).mono ?_; rintro e w4 ⟨rfl, q4, rfl⟩))
  rename_i hH
  have hbb := hH.2.2
  go_wp2_with fail
  go_ret
  exact ⟨rfl, HB.out.trans (hbb.mono HB.out.size)⟩
theorem poex_is : isP 2 20 = true ∧ isP 1 20 = false := by decide
theorem poex_a : addS 20 [] 7 3 = [(7, 3)] ∧ addE 20 [] 7 3 = 0 := by decide
set_option maxHeartbeats 3200000 in
theorem poAlive_any (w : World) : Calls Try.prog 35 #[] w fun e w' => e = .returned (.bool true) ∧ Below w.heap.size w w' := by
  have e9 : sumAt 7 [(7, 3)] = 3 := rfl
  go_enter Try.func35, Try.ntmps35
  go_wp2_with fail
  refine (poNew_any 2 20 _ poex_is.1).mono ?_
  rintro e w1 ⟨p, g, h, rfl, hd, hb1⟩
  have HD := Lib.hid hd
  have B1 := Lib.hid hb1
  clear hd hb1
  go_wp2_with fail
  refine (poNew_no 1 20 _ poex_is.2).mono ?_
  rintro e w2 ⟨rfl, hb2⟩
  have HD2 := Lib.hid (HD.out.below hb2)
  have B2 := Lib.hid (B1.out.trans (hb2.mono B1.out.size))
  clear hb2
  go_wp2_with fail
  refine (poAdd_any 7 3 _ HD2.out (by omega) (by omega) (by omega) (by omega) (by omega)).mono ?_
  rw [poex_a.1, poex_a.2]
  rintro e w3 ⟨rfl, h3, hd3, hc3, _⟩
  have HD3 := Lib.hid hd3
  have B3 := Lib.hid (B2.out.trans (hc3.below HD2.out.lt.2.1 HD2.out.lt.2.2.2.1 B2.out.size))
  clear hd3 hc3
  go_wp2_with (go_at_call 52; refine (poGet_any 7 _ HD3.out (by omega) (by omega) (by omega)).mono ?_; rw [e9]; rintro e w9 ⟨rfl, q, rfl⟩)
  go_ret
  exact ⟨rfl, drewN_below B3.out q⟩

end Go.Proofs.Ytomhikjohgiloaa
