/- Layer reckon, wide numbers: the project's Plus: it answers what the plain numbers say, and nothing that was there before is changed. -/
import Derived.Test.YtjhkflkffbdafaaPlus
namespace Go.Proofs.Ytjhkflkffbdafaa
set_option linter.unusedVariables false
open Go.RowKit

theorem add64_any (x y c : Int) (hx : 0 ≤ x) (hy : 0 ≤ y) (c0 : 0 ≤ c) (c1 : c ≤ 1) (w : World) :
    (callFunc 48 #[.int .u64 x, .int .u64 y, .int .u64 c]).run Try.prog w =
      .ok (.value (.tuple #[.int .u64 ((x + y + c) % 18446744073709551616), .int .u64 ((x + y + c) / 18446744073709551616)])) w := by
  obtain ⟨x, rfl⟩ := Int.eq_ofNat_of_zero_le hx
  obtain ⟨y, rfl⟩ := Int.eq_ofNat_of_zero_le hy
  obtain ⟨c, rfl⟩ := Int.eq_ofNat_of_zero_le c0
  refine (Any7.bits_Add64 Try.lays25 x y c (by omega) w).trans ?_
  rw [Int.natCast_emod, Int.natCast_ediv, Int.natCast_add, Int.natCast_add]
  rfl
theorem add64_none (x y : Int) (hx : 0 ≤ x) (hy : 0 ≤ y) (w : World) :
    (callFunc 48 #[.int .u64 x, .int .u64 y, .int .u64 0]).run Try.prog w =
      .ok (.value (.tuple #[.int .u64 ((x + y) % 18446744073709551616), .int .u64 ((x + y) / 18446744073709551616)])) w := by
  have h := add64_any x y 0 hx hy (by decide) (by decide) w
  rw [Int.add_zero] at h
  exact h

theorem seg_two_at (w : World) (a b : Int) (t : TypeId) (g : Nat) (hg : g = w.heap.size) : Seg (w.alloc (.cells #[.int .i64 a, .int .i64 b] t)) (.slice (some ⟨g, 0, none⟩) 2 2) [a, b] := by
  subst hg; exact seg_two w a b t

theorem frozen_none (w : World) (a : Addr) (h : w.heap.size ≤ a.block) : w.frozen? a = false := by
  simp [World.frozen?, Array.getElem?_eq_none h]

theorem two_set (w1 : World) (g : Nat) (x y u v : Value) (o : Obj) (h0 : w1.cell? ⟨g, 0, none⟩ = some x) (h1 : w1.cell? ⟨g, 1, none⟩ = some y) (hg : g < w1.heap.size) :
    (((w1.setCell ⟨g, 0, none⟩ u).setCell ⟨g, 1, none⟩ v).alloc o).cell? ⟨g, 0, none⟩ = some u ∧ (((w1.setCell ⟨g, 0, none⟩ u).setCell ⟨g, 1, none⟩ v).alloc o).cell? ⟨g, 1, none⟩ = some v := by
  constructor
  · rw [World.cell?_alloc_past _ _ _ (by simpa [World.setCell] using hg)]
    rw [World.cell?_setCell_other _ _ _ _ (by simp)]
    exact World.cell?_setCell_same _ _ _ h0
  · rw [World.cell?_alloc_past _ _ _ (by simpa [World.setCell] using hg)]
    refine World.cell?_setCell_same _ _ _ (u := y) ?_
    rw [World.cell?_setCell_other _ _ _ _ (by simp)]
    exact h1

/-- what the project's Plus answers -/
def PPlus (x a b : Int) (w w' : World) (e : Ending) : Prop :=
  ∃ lo hi, e = .returned (.tuple #[.agg #[.int .u64 lo, .int .u64 hi], .bool (plusB x a b)]) ∧ Below w.heap.size w w' ∧ (0 ≤ lo ∧ lo ≤ 18446744073709551615) ∧ (0 ≤ hi ∧ hi ≤ 18446744073709551615) ∧
    (plusB x a b = true → hi * 18446744073709551616 + lo = x + a * b) ∧ (plusB x a b = false → lo = 0 ∧ hi = 0)

set_option maxHeartbeats 1600000 in
theorem plus_any (lo hi a b : Int) (w : World) (l0 : 0 ≤ lo) (l1 : lo ≤ 18446744073709551615) (h0 : 0 ≤ hi) (h1 : hi ≤ 18446744073709551615)
    (A0 : -9223372036854775808 ≤ a) (A1 : a ≤ 9223372036854775807) (B0 : -9223372036854775808 ≤ b) (B1 : b ≤ 9223372036854775807) :
    Calls Try.prog 32 #[.agg #[.int .u64 lo, .int .u64 hi], .int .i64 a, .int .i64 b] w fun e w' => PPlus (hi * 18446744073709551616 + lo) a b w w' e := by
  by_cases h : 0 ≤ a ∧ 0 ≤ b
  · have hc : cntB [a, b] = true := by rw [cnt_two]; exact decide_eq_true h
    obtain ⟨h1', h2'⟩ := h
    have p := mul_words h1' h2' A1 B1
    go_enter Try.func32, Try.ntmps32
    go_wp2_with fail
    refine (counts_any _ [a, b] _ (seg_two_at _ _ _ _ _ (by simp)) (by simp)).mono ?_
    rintro e w' ⟨rfl, rfl⟩
    go_wp2_with fail
    refine (product_any _ _ _ (by omega) (by omega) (by omega) (by omega)).mono ?_
    rintro e w1 ⟨rfl, G1⟩
    have zz : (((w.alloc (.cells #[.int .u64 lo, .int .u64 hi] 34)).alloc (.cells #[.int .u64 0, .int .u64 0] 34)).alloc (.cells #[.int .i64 a, .int .i64 b] 3)).heap.size = w.heap.size + 3 := by simp
    have c0 : w1.cell? ⟨w.heap.size, 0, none⟩ = some (.int .u64 lo) := (G1.cell (p := ⟨w.heap.size, 0, none⟩) (by rw [zz]; show w.heap.size < _; omega)).trans (by rw [World.cell?_alloc_past _ _ _ (by simp; omega), World.cell?_alloc_past _ _ _ (by simp), World.cell?_alloc_at _ _ _ _ rfl]; rfl)
    have c1 : w1.cell? ⟨w.heap.size, 1, none⟩ = some (.int .u64 hi) := (G1.cell (p := ⟨w.heap.size, 1, none⟩) (by rw [zz]; show w.heap.size < _; omega)).trans (by rw [World.cell?_alloc_past _ _ _ (by simp; omega), World.cell?_alloc_past _ _ _ (by simp), World.cell?_alloc_at _ _ _ _ rfl]; rfl)
    have r0 : w1.cell? ⟨w.heap.size + 1, 0, none⟩ = some (.int .u64 0) := (G1.cell (p := ⟨w.heap.size + 1, 0, none⟩) (by rw [zz]; show w.heap.size + 1 < _; omega)).trans (by rw [World.cell?_alloc_past _ _ _ (by simp), World.cell?_alloc_at _ _ _ _ (by simp)]; rfl)
    have r1 : w1.cell? ⟨w.heap.size + 1, 1, none⟩ = some (.int .u64 0) := (G1.cell (p := ⟨w.heap.size + 1, 1, none⟩) (by rw [zz]; show w.heap.size + 1 < _; omega)).trans (by rw [World.cell?_alloc_past _ _ _ (by simp), World.cell?_alloc_at _ _ _ _ (by simp)]; rfl)
    have f0 : w1.frozen? ⟨w.heap.size + 1, 0, none⟩ = false := (G1.frozen (p := ⟨w.heap.size + 1, 0, none⟩) (by rw [zz]; show w.heap.size + 1 < _; omega)).trans (by rw [frozen?_alloc_cells, frozen?_alloc_cells, frozen?_alloc_cells]; exact frozen_none _ _ (by simp))
    have f1 : w1.frozen? ⟨w.heap.size + 1, 1, none⟩ = false := (G1.frozen (p := ⟨w.heap.size + 1, 1, none⟩) (by rw [zz]; show w.heap.size + 1 < _; omega)).trans (by rw [frozen?_alloc_cells, frozen?_alloc_cells, frozen?_alloc_cells]; exact frozen_none _ _ (by simp))
    have z1 := G1.size
    rw [zz] at z1
    have y0 : w.heap.size < w1.heap.size := by omega
    have y1 : w.heap.size + 1 < w1.heap.size := by omega
    have Bw1 : Below w.heap.size w w1 := (((below_one _ _).alloc (by simp) _).alloc (by simp; omega) _).trans (G1.mono (by rw [zz]; omega))
    clear G1 zz hc
    have HP : Hid (a * b / 18446744073709551616 * 18446744073709551616 + a * b % 18446744073709551616 = a * b) := wide_whole (a * b)
    have pl0 : 0 ≤ a * b % 18446744073709551616 := by omega
    have pl1 : a * b % 18446744073709551616 ≤ 18446744073709551615 := by omega
    have ph0 : 0 ≤ a * b / 18446744073709551616 := by omega
    have ph1 : a * b / 18446744073709551616 ≤ 4611686018427387904 := by omega
    clear p
    generalize a * b % 18446744073709551616 = pl at *
    generalize a * b / 18446744073709551616 = ph at *
    have k0 : 0 ≤ (lo + pl) / 18446744073709551616 := by omega
    have k1 : (lo + pl) / 18446744073709551616 ≤ 1 := by omega
    by_cases hv : (hi + ph + (lo + pl) / 18446744073709551616) / 18446744073709551616 = 0
    · have hv' : ((hi + ph + (lo + pl) / 18446744073709551616) / 18446744073709551616 != 0) = false := by simp [hv]
      have H := Lib.hid (plus_yes (x := hi * 18446744073709551616 + lo) (a := a) (b := b) ⟨h1', h2', by have := HP.out; omega⟩)
      have HX : Hid ((hi + ph + (lo + pl) / 18446744073709551616) % 18446744073709551616 * 18446744073709551616 + (lo + pl) % 18446744073709551616 = hi * 18446744073709551616 + lo + a * b) := by
        have := HP.out; show _ = _; omega
      clear hv
      go_wp2_with (first | simp only [add64_none lo pl l0 pl0] | simp only [add64_any hi ph _ h0 ph0 k0 k1])
      have T := two_set w1 (w.heap.size + 1) _ _ (.int .u64 ((lo + pl) % 18446744073709551616)) (.int .u64 ((hi + ph + (lo + pl) / 18446744073709551616) % 18446744073709551616)) (.cells #[.int .u64 pl, .int .u64 ph] 34) r0 r1 y1
      refine bodyPost_ret (v := .tuple #[.agg #[.int .u64 ((lo + pl) % 18446744073709551616), .int .u64 ((hi + ph + (lo + pl) / 18446744073709551616) % 18446744073709551616)], .bool true]) (by simp [results, Try.results32, go_sem, T.1, T.2]) rfl ?_
      refine ⟨_, _, by rw [H.out], ?_, by omega, by omega, fun _ => HX.out, fun g => by rw [H.out] at g; cases g⟩
      exact ((Bw1.setCell (p := ⟨w.heap.size + 1, 0, none⟩) (by simp) _).setCell (p := ⟨w.heap.size + 1, 1, none⟩) (by simp) _).alloc (by simp [World.setCell]; omega) _
    · have hv' : ((hi + ph + (lo + pl) / 18446744073709551616) / 18446744073709551616 != 0) = true := by simp [hv]
      have H := Lib.hid (plus_no (x := hi * 18446744073709551616 + lo) (a := a) (b := b) (by have := HP.out; omega))
      clear hv
      go_wp2_with (first | simp only [add64_none lo pl l0 pl0] | simp only [add64_any hi ph _ h0 ph0 k0 k1])
      have T := two_set w1 (w.heap.size + 1) _ _ (.int .u64 0) (.int .u64 0) (.cells #[.int .u64 pl, .int .u64 ph] 34) r0 r1 y1
      refine bodyPost_ret (v := .tuple #[.agg #[.int .u64 0, .int .u64 0], .bool false]) (by simp [results, Try.results32, go_sem, T.1, T.2]) rfl ?_
      refine ⟨0, 0, by rw [H.out], ?_, by omega, by omega, fun g => (by rw [H.out] at g; cases g), fun _ => ⟨rfl, rfl⟩⟩
      exact ((Bw1.setCell (p := ⟨w.heap.size + 1, 0, none⟩) (by simp) _).setCell (p := ⟨w.heap.size + 1, 1, none⟩) (by simp) _).alloc (by simp [World.setCell]; omega) _
  · have hc : cntB [a, b] = false := by rw [cnt_two]; exact decide_eq_false h
    have H := Lib.hid (plus_no (x := hi * 18446744073709551616 + lo) (a := a) (b := b) (fun g => h ⟨g.1, g.2.1⟩))
    clear h
    go_enter Try.func32, Try.ntmps32
    go_wp2_with fail
    refine (counts_any _ [a, b] _ (seg_two_at _ _ _ _ _ (by simp)) (by simp)).mono ?_
    rintro e w' ⟨rfl, rfl⟩
    go_wp2_with fail
    refine bodyPost_ret (v := .tuple #[.agg #[.int .u64 0, .int .u64 0], .bool false]) (by simp [results, Try.results32, go_sem]) rfl ?_
    refine ⟨0, 0, by rw [H.out], ?_, by omega, by omega, fun g => (by rw [H.out] at g; cases g), fun _ => ⟨rfl, rfl⟩⟩
    exact ((below_one _ _).alloc (by simp) _).alloc (by simp; omega) _

end Go.Proofs.Ytjhkflkffbdafaa
