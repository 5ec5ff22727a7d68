/- The project's tiles.inRow: the nodes by the least value that each holds, of such that begin alike the highest first. -/
import Derived.Test.YtjmglihdndknjaaTi
import Derived.Test.YtjmglihdndknjaaSort
import Derived.StillTailTactics
import Derived.Sort.Grow
namespace Go.Proofs.Ytjmglihdndknjaa
set_option linter.unusedVariables false
open Go.RowKit Go.Sort

def orN (x y : Int) : Int := if x = 0 then y else x
set_option maxHeartbeats 800000 in
theorem or_two (x y : Int) (g : Nat) (w : World) (h0 : w.cell? ⟨g, 0, none⟩ = some (.int .i64 x)) (h1 : w.cell? ⟨g, 1, none⟩ = some (.int .i64 y)) :
    Calls Try.prog 46 #[.slice (some ⟨g, 0, none⟩) 2 2] w fun e w' => e = .returned (.int .i64 (orN x y)) ∧ w = w' := by
  by_cases hx : x = 0
  · subst hx
    by_cases hy : y = 0
    · subst hy
      go_enter Try.func46, Try.ntmps46
      go_wp2_with fail
      go_loop [8] (fun i => ∃ k : Nat, k ≤ 2 ∧ i = .int .i64 k) (fun i => 2 - (intOf i).toNat)
      case atStart => exact ⟨0, by omega, rfl⟩
      case round =>
        obtain ⟨k, hk, rfl⟩ := hrel
        rcases (show k = 0 ∨ k = 1 ∨ k = 2 by omega) with rfl | rfl | rfl
        · go_wp2_with fail
          go_round
          case rel => exact ⟨1, by omega, rfl⟩
          case measure => simp [intOf]
        · go_wp2_with fail
          go_round
          case rel => exact ⟨2, by omega, rfl⟩
          case measure => simp [intOf]
        · go_wp2_with fail
          go_ret
          exact ⟨rfl, rfl⟩
    · have h1' : (y != 0) = true := by simpa using hy
      have H := Lib.hid (show orN 0 y = y from rfl)
      go_enter Try.func46, Try.ntmps46
      go_wp2_with fail
      go_loop [8] (fun i => ∃ k : Nat, k ≤ 1 ∧ i = .int .i64 k) (fun i => 2 - (intOf i).toNat)
      case atStart => exact ⟨0, by omega, rfl⟩
      case round =>
        obtain ⟨k, hk, rfl⟩ := hrel
        rcases (show k = 0 ∨ k = 1 by omega) with rfl | rfl
        · go_wp2_with fail
          go_round
          case rel => exact ⟨1, by omega, rfl⟩
          case measure => simp [intOf]
        · go_wp2_with fail
          go_ret
          exact ⟨by rw [H.out]; rfl, rfl⟩
  · have h1' : (x != 0) = true := by simpa using hx
    have H := Lib.hid (show orN x y = x from if_neg hx)
    go_enter Try.func46, Try.ntmps46
    go_wp2_with fail
    go_loop [8] (fun i => i = .int .i64 0) (fun i => 2 - (intOf i).toNat)
    case atStart => rfl
    case round =>
      subst hrel
      go_wp2_with fail
      go_ret
      exact ⟨by rw [H.out]; rfl, rfl⟩
theorem or_made (x y : Int) (t : TypeId) (g : Nat) (w : World) (hg : g = w.heap.size) :
    Calls Try.prog 46 #[.slice (some ⟨g, 0, none⟩) 2 2] (w.alloc (.cells #[.int .i64 x, .int .i64 y] t)) fun e w' => e = .returned (.int .i64 (orN x y)) ∧ (w.alloc (.cells #[.int .i64 x, .int .i64 y] t)) = w' :=
  or_two x y g _ (by subst hg; simp) (by subst hg; simp)
theorem or_drew (x y : Int) (t : TypeId) (g : Nat) (w : World) (hg : g = w.heap.size) :
    Calls Try.prog 46 #[.slice (some ⟨g, 0, none⟩) 2 2] (w.alloc (.cells #[.int .i64 x, .int .i64 y] t)).drew fun e w' => e = .returned (.int .i64 (orN x y)) ∧ (w.alloc (.cells #[.int .i64 x, .int .i64 y] t)).drew = w' :=
  or_two x y g _ (by subst hg; simp) (by subst hg; simp)
theorem cmp_any (x y : Int) (w : World) : Calls Try.prog 47 #[.int .i64 x, .int .i64 y] w fun e w' => e = .returned (.int .i64 (Lib.compareInt x y)) ∧ w = w' := by
  have h := AnyG.cmp_Compare_int Try.cmpInt x y w
  change Calls Try.prog 47 _ _ _ at h
  exact h.mono fun _ _ ⟨a, b⟩ => ⟨a, b.symm⟩
theorem cmp_still (x y : Int) (w : World) : Calls Try.prog 47 #[.int .i64 x, .int .i64 y] w fun e w' => e = .returned (.int .i64 (Lib.compareInt x y)) ∧ w' = w :=
  (cmp_any x y w).mono fun _ _ ⟨a, b⟩ => ⟨a, b.symm⟩
theorem grown_cells (W : World) (a b c d e f : Value) (t : TypeId) : ((W.alloc (.cells #[a, b, c] t)).alloc (.cells #[d, e, f] t)).cell? ⟨W.heap.size, 0, none⟩ = some a ∧ ((W.alloc (.cells #[a, b, c] t)).alloc (.cells #[d, e, f] t)).cell? ⟨W.heap.size, 1, none⟩ = some b ∧
    ((W.alloc (.cells #[a, b, c] t)).alloc (.cells #[d, e, f] t)).cell? ⟨W.heap.size + 1, 0, none⟩ = some d ∧ ((W.alloc (.cells #[a, b, c] t)).alloc (.cells #[d, e, f] t)).cell? ⟨W.heap.size + 1, 1, none⟩ = some e := by
  refine ⟨?_, ?_, ?_, ?_⟩ <;> simp [World.cell?_alloc_lt]
theorem grown_three (W : World) (x y z : Obj) : ∃ q os', (((W.alloc x).alloc y).drew.alloc z) = grow (W.drewN q) os' :=
  ⟨1, #[x, y, z], by rw [alloc_eq_grow, alloc_eq_grow, alloc_eq_grow, grow_grow]; exact grow_grow (W.drewN 1) _ _⟩
/-- what the row is sorted by -/
def tileC (l : Int) (s t : Int) : Int := orN (Lib.compareInt (loN l s) (loN l t)) (Lib.compareInt s t)
set_option maxHeartbeats 400000 in
theorem tileCmp_any (s sl sh t tl th : Int) (W : World) :
    Calls Try.prog 45 #[.agg #[.int .i64 s, .int .i64 sl, .int .i64 sh], .agg #[.int .i64 t, .int .i64 tl, .int .i64 th]] W fun e w' => e = .returned (.int .i64 (orN (Lib.compareInt sl tl) (Lib.compareInt s t))) ∧ ∃ q os', w' = grow (W.drewN q) os' := by
  go_enter Try.func45, Try.ntmps45
  go_wp2_with fail
  have c0 := grown_cells W (.int .i64 s) (.int .i64 sl) (.int .i64 sh) (.int .i64 t) (.int .i64 tl) (.int .i64 th) 47
  have g3 := grown_three W (.cells #[.int .i64 s, .int .i64 sl, .int .i64 sh] 47) (.cells #[.int .i64 t, .int .i64 tl, .int .i64 th] 47) (.cells #[.int .i64 (Lib.compareInt sl tl), .int .i64 (Lib.compareInt s t)] 3)
  have G3 := Lib.hid g3
  have hz : W.heap.size + 1 + 1 = ((W.alloc (.cells #[.int .i64 s, .int .i64 sl, .int .i64 sh] 47)).alloc (.cells #[.int .i64 t, .int .i64 tl, .int .i64 th] 47)).heap.size := by simp
  clear g3
  revert c0 G3 hz
  generalize ((W.alloc (.cells #[.int .i64 s, .int .i64 sl, .int .i64 sh] 47)).alloc (.cells #[.int .i64 t, .int .i64 tl, .int .i64 th] 47)) = W0
  intro ⟨c1, c2, c3, c4⟩ G3 hz
  have HZ := Lib.hid hz
  clear hz
  have hd : ∀ a, ({ heap := W0.heap, tape := W0.tape, drawn := W0.drawn + 1, os := W0.os, output := W0.output } : World).cell? a = W0.cell? a := fun _ => rfl
  go_still_tail 10, (by kernel_rfl)
  still_call (cmp_still _ _ _)
  repeat still_step
  still_call (cmp_still _ _ _)
  refine wpStill_nil ?_
  change wpList _ _ _ _ _ (World.drew W0)
  clear hd c1 c2 c3 c4
  go_wp2_with fail
  refine (or_drew _ _ _ _ W0 (by simp)).mono ?_
  rintro e w1 ⟨rfl, rfl⟩
  go_wp2_with fail
  go_ret
  exact ⟨rfl, G3.out⟩

end Go.Proofs.Ytjmglihdndknjaa
