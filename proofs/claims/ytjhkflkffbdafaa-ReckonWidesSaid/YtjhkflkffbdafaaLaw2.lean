/- The walk of the statement ReckonWides: for every input it returns true, and nothing that was there before is changed. -/
import Derived.Test.YtjhkflkffbdafaaPlus2
import Derived.Test.YtjhkflkffbdafaaLaw1
namespace Go.Proofs.Ytjhkflkffbdafaa
set_option linter.unusedVariables false
open Go.RowKit

theorem u64_bd {a : Int} (h : (Lit.int .u64 a).wf = true) : 0 ≤ a ∧ a ≤ 18446744073709551615 := by
  have := bounds_u64 h; omega

set_option maxHeartbeats 1600000 in
theorem walk_reckonWides (lo hi a b : Int) (l0 : 0 ≤ lo) (l1 : lo ≤ 18446744073709551615) (h0 : 0 ≤ hi) (h1 : hi ≤ 18446744073709551615)
    (A0 : -9223372036854775808 ≤ a) (A1 : a ≤ 9223372036854775807) (B0 : -9223372036854775808 ≤ b) (B1 : b ≤ 9223372036854775807) (w : World) :
    Calls Try.prog 9 #[.agg #[.int .u64 lo, .int .u64 hi], .int .i64 a, .int .i64 b] w fun e w' => e = .returned (.bool true) ∧ Below w.heap.size w w' := by
  go_enter Try.func9, Try.ntmps9
  go_wp2_with fail
  refine (plus_any lo hi a b _ l0 l1 h0 h1 A0 A1 B0 B1).mono ?_
  rintro e w1 ⟨ml, mh, rfl, G1, ⟨ml0, ml1⟩, ⟨mh0, mh1⟩, HY, HN⟩
  have zz : (w.alloc (.cells #[.int .u64 lo, .int .u64 hi] 33)).heap.size = w.heap.size + 1 := by simp
  have c0 : w1.cell? ⟨w.heap.size, 0, none⟩ = some (.int .u64 lo) := (G1.cell (p := ⟨w.heap.size, 0, none⟩) (by rw [zz]; show w.heap.size < _; omega)).trans (by rw [World.cell?_alloc_at _ _ _ _ rfl]; rfl)
  have c1 : w1.cell? ⟨w.heap.size, 1, none⟩ = some (.int .u64 hi) := (G1.cell (p := ⟨w.heap.size, 1, none⟩) (by rw [zz]; show w.heap.size < _; omega)).trans (by rw [World.cell?_alloc_at _ _ _ _ rfl]; rfl)
  have z1 := G1.size
  rw [zz] at z1
  have y0 : w.heap.size < w1.heap.size := by omega
  have Bw1 : Below w.heap.size w w1 := (below_one _ _).trans (G1.mono (by rw [zz]; omega))
  have YY := Lib.hid HY
  have NN := Lib.hid HN
  clear HY HN G1 zz z1
  go_wp2_with fail
  refine (rplus_any lo hi a b _ l0 l1 h0 h1 A0 A1 B0 B1).mono ?_
  rintro e w2 ⟨v2, rfl, G2, HR⟩
  have RR := Lib.hid HR
  clear HR
  have zz : (w1.alloc (.cells #[.int .u64 ml, .int .u64 mh] 34)).heap.size = w1.heap.size + 1 := by simp
  have m0 : w2.cell? ⟨w1.heap.size, 0, none⟩ = some (.int .u64 ml) := (G2.cell (p := ⟨w1.heap.size, 0, none⟩) (by rw [zz]; show w1.heap.size < _; omega)).trans (by rw [World.cell?_alloc_at _ _ _ _ rfl]; rfl)
  have m1 : w2.cell? ⟨w1.heap.size, 1, none⟩ = some (.int .u64 mh) := (G2.cell (p := ⟨w1.heap.size, 1, none⟩) (by rw [zz]; show w1.heap.size < _; omega)).trans (by rw [World.cell?_alloc_at _ _ _ _ rfl]; rfl)
  have c0' : w2.cell? ⟨w.heap.size, 0, none⟩ = some (.int .u64 lo) := (G2.cell (p := ⟨w.heap.size, 0, none⟩) (by rw [zz]; show w.heap.size < _; omega)).trans ((World.cell?_alloc_past _ _ _ y0).trans c0)
  have c1' : w2.cell? ⟨w.heap.size, 1, none⟩ = some (.int .u64 hi) := (G2.cell (p := ⟨w.heap.size, 1, none⟩) (by rw [zz]; show w.heap.size < _; omega)).trans ((World.cell?_alloc_past _ _ _ y0).trans c1)
  have z2 := G2.size
  rw [zz] at z2
  have Bw2 : Below w.heap.size w w2 := (Bw1.alloc (by omega) _).trans (G2.mono (by rw [zz]; omega))
  clear G2 zz c0 c1
  by_cases hp : plusB (hi * 18446744073709551616 + lo) a b = true
  · obtain ⟨l, SL, DL, VL, LL⟩ := RR.out hp
    have VM := Lib.hid (YY.out hp)
    have VN := Lib.hid VL
    clear VL YY NN RR
    go_wp2_with fail
    refine (rbits_any ml mh _ ml0 ml1 mh0 mh1).mono ?_
    rintro e w3 ⟨v3, x3, rfl, S3, D3, V3, L3, G3⟩
    have hv : dv x3 = dv l := by rw [V3, VM.out, VN.out]
    have H3 := Lib.hid hv
    clear V3 hv
    go_wp2_with fail
    refine (less_any _ _ x3 l _ S3 (seg_below SL G3) D3 DL (by omega) (by omega)).mono ?_
    rintro e w4 ⟨rfl, rfl⟩
    have hc : cmp3 (dv x3) (dv l) = 0 := cmp3_eq H3.out
    have c0 : w3.cell? ⟨w.heap.size, 0, none⟩ = some (.int .u64 lo) := (G3.cell (p := ⟨w.heap.size, 0, none⟩) (by show w.heap.size < _; omega)).trans c0'
    have c1 : w3.cell? ⟨w.heap.size, 1, none⟩ = some (.int .u64 hi) := (G3.cell (p := ⟨w.heap.size, 1, none⟩) (by show w.heap.size < _; omega)).trans c1'
    have z3 := G3.size
    have Bw3 := Bw2.trans (G3.mono Bw2.size)
    clear SL DL LL VM VN S3 D3 L3 H3 m0 m1 c0' c1' G3
    go_wp2_with fail
    refine (over_any lo hi a _ l0 l1 h0 h1 A0 A1).mono ?_
    rintro e w4 ⟨rfl, G4⟩
    have c0' : w4.cell? ⟨w.heap.size, 0, none⟩ = some (.int .u64 lo) := (G4.cell (p := ⟨w.heap.size, 0, none⟩) (by show w.heap.size < _; omega)).trans c0
    have c1' : w4.cell? ⟨w.heap.size, 1, none⟩ = some (.int .u64 hi) := (G4.cell (p := ⟨w.heap.size, 1, none⟩) (by show w.heap.size < _; omega)).trans c1
    have Bw4 := Bw3.trans (G4.mono Bw3.size)
    clear c0 c1 G4
    go_wp2_with fail
    refine (rover_any lo hi a _ l0 l1 h0 h1 A0 A1).mono ?_
    rintro e w5 ⟨rfl, G5⟩
    have Bw5 := Bw4.trans (G5.mono Bw4.size)
    go_wp2_with fail
    refine (alive_any _).mono ?_
    rintro e w6 ⟨rfl, G6⟩
    go_wp2_with fail
    go_ret
    exact ⟨rfl, Bw5.trans (G6.mono Bw5.size)⟩
  · have hp' : plusB (hi * 18446744073709551616 + lo) a b = false := by simpa using hp
    obtain ⟨rfl, rfl⟩ := NN.out hp'
    clear YY NN RR hp
    have hne : ∀ w, (binOp .neq 34 (.agg #[.int .u64 0, .int .u64 0]) (.agg #[.int .u64 0, .int .u64 0])).run Try.prog w = .ok (.bool false) w := fun _ => by kernel_rfl
    go_wp2_with fail
    refine (over_any lo hi a _ l0 l1 h0 h1 A0 A1).mono ?_
    rintro e w4 ⟨rfl, G4⟩
    have c0 : w4.cell? ⟨w.heap.size, 0, none⟩ = some (.int .u64 lo) := (G4.cell (p := ⟨w.heap.size, 0, none⟩) (by show w.heap.size < _; omega)).trans c0'
    have c1 : w4.cell? ⟨w.heap.size, 1, none⟩ = some (.int .u64 hi) := (G4.cell (p := ⟨w.heap.size, 1, none⟩) (by show w.heap.size < _; omega)).trans c1'
    have Bw4 := Bw2.trans (G4.mono Bw2.size)
    clear c0' c1' G4
    go_wp2_with fail
    refine (rover_any lo hi a _ l0 l1 h0 h1 A0 A1).mono ?_
    rintro e w5 ⟨rfl, G5⟩
    have Bw5 := Bw4.trans (G5.mono Bw4.size)
    go_wp2_with fail
    refine (alive_any _).mono ?_
    rintro e w6 ⟨rfl, G6⟩
    go_wp2_with fail
    go_ret
    exact ⟨rfl, Bw5.trans (G6.mono Bw5.size)⟩

end Go.Proofs.Ytjhkflkffbdafaa
