/- Texts laid together: RdSl, Copy2, BgMem, Bg, Bg2, Bg3, Bg4. -/
import Derived.Test.YtelekchdbiimiaaGreatMmy
import Derived.Test.YtelekchdbiimiaaGreatPln
import Derived.Test.YtelekchdbiimiaaGreatRkT
import Derived.Lib.SliceRun
import Derived.Lib.AppendZeros
import Derived.Laws.AppendOwnNone
import Derived.Laws.StructEq
import Derived.Deep.QuietTactic
import Derived.BigQuiet
import Derived.Deep.RegionHeld3
import Derived.Deep.RegionWith
import Derived.Deep.DrawnRows
import Derived.WalkSpells
import Derived.StillTactics
import Derived.Test.YtelekchdbiimiaaGreatPoQ
import Derived.Test.YtelekchdbiimiaaGreatDgN
namespace Go.Proofs.YtelekchdbiimiaaGreat
set_option linter.unusedVariables false
open Go.RowKit
attribute [local go_sem ↓] Go.wp_at_zero Go.wp_at_succ
theorem read_info : (Tryz.prog.info? 66).map (fun i => (i.zero, i.size, i.bytes)) = some (some (.agg #[.int .i64 0, .int .i64 0]), 2, 16) := by kernel_rfl
end Go.Proofs.YtelekchdbiimiaaGreat
namespace Go.Proofs.YtelekchdbiimiaaGreat
set_option linter.unusedVariables false
open Go.RowKit
theorem Kp.setRow (w : World) (g : Nat) (cs : Array Value) : Kp (fun k => k = g) w (w.setRow g cs) := ⟨rfl, rfl, rfl, by simp [World.setRow], fun k hk h => setRow_other w g k cs h⟩
end Go.Proofs.YtelekchdbiimiaaGreat
namespace Go.Proofs.YtelekchdbiimiaaGreat
set_option linter.unusedVariables false
open Go.RowKit
/-- a bag's blocks: its box, and its row -/
def bgF (g : Nat) (v : Value) : Nat → Prop := fun k => k = g ∨ v.ownBlock = some k
structure Bg (TB TR : TypeId) (w : World) (B g : Nat) (l : Int) (L : List Nd) (v : Value) : Prop where
  bag : BagC l L
  top : w.ownsRow B TB 3 (.slice (some ⟨g, 0, none⟩) 1 1) 1 [.int .i64 l, .int .i64 (sumC L), v]
  row : OwnNd TR w B v L
  ne : TB ≠ TR
section
variable {TB TR : TypeId} {w w' : World} {B g : Nat} {l : Int} {L : List Nd} {v : Value}
theorem Bg.cells (d : Bg TB TR w B g l L v) : w.cell? ⟨g, 0, none⟩ = some (.int .i64 l) ∧ w.cell? ⟨g, 1, none⟩ = some (.int .i64 (sumC L)) ∧ w.cell? ⟨g, 2, none⟩ = some v :=
  ⟨d.top.cellAt 0 (by omega), d.top.cellAt 1 (by omega), d.top.cellAt 2 (by omega)⟩
theorem Bg.free (d : Bg TB TR w B g l L v) (k : Nat) : w.frozen? ⟨g, k, none⟩ = false := d.top.frozenAt k
theorem Bg.lt (d : Bg TB TR w B g l L v) : B ≤ g ∧ g < w.heap.size ∧ ∀ h, v.ownBlock = some h → B ≤ h ∧ h < w.heap.size ∧ h ≠ g := by
  refine ⟨(d.top.lt g rfl).1, (d.top.lt g rfl).2, fun h e => ⟨(d.row.lt h e).1, (d.row.lt h e).2, fun q => ?_⟩⟩
  rcases own_apart d.top d.row d.ne with r | r
  · simp [Value.ownBlock] at r
  · exact r (by rw [e, q]; rfl)
theorem Bg.kp {F : Nat → Prop} (d : Bg TB TR w B g l L v) (p : Kp F w w') (h : ∀ k, bgF g v k → ¬ F k) : Bg TB TR w' B g l L v :=
  ⟨d.bag, own_kp d.top p (fun k e => h k (.inl (by simp [Value.ownBlock] at e; exact e.symm))), own_kp d.row p (fun k e => h k (.inr e)), d.ne⟩
theorem Bg.below (d : Bg TB TR w B g l L v) (hb : Below w.heap.size w w') : Bg TB TR w' B g l L v := d.kp (Kp.of (F := fun _ => False) hb) fun _ _ h => h
theorem Bg.low {B2 : Nat} (d : Bg TB TR w B g l L v) (h : B2 ≤ B) : Bg TB TR w B2 g l L v :=
  ⟨d.bag, ⟨d.top.1, d.top.2.imp id fun ⟨a, b, c, d, e, r⟩ => ⟨a, b, c, d, by omega, r⟩⟩, ⟨d.row.1, d.row.2.imp id fun ⟨a, b, c, d, e, r⟩ => ⟨a, b, c, d, by omega, r⟩⟩, d.ne⟩
theorem Bg.blocks (d : Bg TB TR w B g l L v) : ∀ k, bgF g v k → B ≤ k ∧ k < w.heap.size := fun k h => by
  rcases h with rfl | h
  · exact ⟨d.lt.1, d.lt.2.1⟩
  · exact ⟨(d.lt.2.2 k h).1, (d.lt.2.2 k h).2.1⟩
/-- a bag of new blocks, behind what keeps old ones -/
theorem Bg.apart {TB TR : TypeId} {w : World} {B g g2 : Nat} {l l2 : Int} {L L2 : List Nd} {v v2 : Value} {N : Nat} (d : Bg TB TR w B g l L v) (e : Bg TB TR w N g2 l2 L2 v2) (h : ∀ k, bgF g v k → k < N) : ∀ k, bgF g v k → ¬ bgF g2 v2 k := fun k hk q => by
  have := h k hk
  have := (e.blocks k q).1
  omega
end
end Go.Proofs.YtelekchdbiimiaaGreat
namespace Go.Proofs.YtelekchdbiimiaaGreat
set_option linter.unusedVariables false
open Go.RowKit
attribute [local go_sem ↓] Go.wp_at_zero Go.wp_at_succ
set_option maxHeartbeats 1600000 in
/-- what sort.Search finds: the place from which on it is so -/
theorem search_any (F : Nat) (caps : Array Value) (n T : Nat) (hT : T ≤ n) (hn : n ≤ 1000000) (w : World) (eg : ∀ args w, (callFunc F args).run Tryz.prog w = .ok (.enter F args) w)
    (hf : ∀ (m k : Nat), k < n → Calls Tryz.prog F (#[.int .i64 (k : Int)] ++ caps) (w.drewN m) fun e w' => e = .returned (.bool (decide (T ≤ k))) ∧ ∃ q, w' = w.drewN q) :
    Calls Tryz.prog 188 #[.int .i64 (n : Int), .func (.func F) #[] caps] w fun e w' => e = .returned (.int .i64 (T : Int)) ∧ ∃ q, w' = w.drewN q := by
  have HF := Lib.hid hf
  clear hf
  go_enter Tryz.func188, Tryz.ntmps188
  go_wp2_with fail
  go_loopw [5, 6] (fun s5 s6 wr => ∃ (lo hi q : Nat), s5 = .int .i64 (lo : Int) ∧ s6 = .int .i64 (hi : Int) ∧ lo ≤ T ∧ T ≤ hi ∧ hi ≤ n ∧ wr = w.drewN q) (fun s5 s6 _ => (intOf s6).toNat - (intOf s5).toNat)
  case atStart => exact ⟨0, n, 0, rfl, rfl, Nat.zero_le _, hT, Nat.le_refl _, rfl⟩
  case round =>
    obtain ⟨lo, hi, q, rfl, rfl, h1, h2, h3, rfl⟩ := hrel
    by_cases hlt : lo < hi
    · have hc := HF.out q ((lo + hi) / 2) (by omega)
      rw [show (((lo + hi) / 2 : Nat) : Int) = ((lo : Int) + (hi : Int)) / 2 by omega] at hc
      by_cases hp : T ≤ (lo + hi) / 2
      · rw [decide_eq_true hp] at hc
        go_wp2_with (go_at_fn F; refine hc.mono ?_; rintro e w' ⟨rfl, q2, rfl⟩)
        go_roundw
        case rel => exact ⟨lo, (lo + hi) / 2, q2, rfl, by go_num, h1, hp, by omega, rfl⟩
        case measure => simp [intOf]; omega
      · rw [decide_eq_false hp] at hc
        go_wp2_with (go_at_fn F; refine hc.mono ?_; rintro e w' ⟨rfl, q2, rfl⟩)
        go_roundw
        case rel => exact ⟨(lo + hi) / 2 + 1, hi, q2, by go_num, rfl, by omega, h2, h3, rfl⟩
        case measure => simp [intOf]; omega
    · obtain rfl : lo = T := by omega
      go_wp2_with fail
      go_ret
      exact ⟨rfl, q, rfl⟩
end Go.Proofs.YtelekchdbiimiaaGreat
namespace Go.Proofs.YtelekchdbiimiaaGreat
set_option linter.unusedVariables false
set_option maxRecDepth 100000
open Go.RowKit
attribute [local go_sem ↓] Go.wp_at_zero Go.wp_at_succ
end Go.Proofs.YtelekchdbiimiaaGreat
namespace Go.Proofs.YtelekchdbiimiaaGreat
set_option linter.unusedVariables false
set_option maxRecDepth 100000
open Go.RowKit
attribute [local go_sem ↓] Go.wp_at_zero Go.wp_at_succ
end Go.Proofs.YtelekchdbiimiaaGreat
namespace Go.Proofs.YtelekchdbiimiaaGreat
set_option linter.unusedVariables false
set_option maxRecDepth 100000
open Go.RowKit
attribute [local go_sem ↓] Go.wp_at_zero Go.wp_at_succ
end Go.Proofs.YtelekchdbiimiaaGreat
