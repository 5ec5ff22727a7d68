/- The walk of SampleStrange: for every input it returns true, and nothing that was there before is changed. -/
import Derived.Test.YtondnligmagomaaSm3
import Derived.Test.YtondnligmagomaaConv
namespace Go.Proofs.Ytondnligmagomaa
set_option linter.unusedVariables false
open Go.RowKit

/-- the nine values -/
def nine (n : Int) (s : ByteArray) (f p q : Nat) (w : World) : Array Value := #[Value.nilIface, Value.iface 32 (Value.int IntKind.i64 n),
  Value.iface 33 (Value.int IntKind.u64 (IntKind.u64.wrap n)), Value.iface 9 (Value.string s),
  Value.iface 31 (Value.float FloatKind.f64 f),
  Value.iface 34 (Value.slice (some { block := w.heap.size + 1, off := 0 }) 1 1),
  Value.iface 35 (Value.pointer (some { block := w.heap.size, off := 0 })),
  Value.iface 36 (Value.agg #[Value.int IntKind.i64 n]), Value.iface 37 (Value.complex FloatKind.f32 p q)]
/-- the world in which the loop begins -/
def nineW (n : Int) (s : ByteArray) (f p q k : Nat) (w : World) : World :=
  (((w.alloc (Obj.cells #[Value.int IntKind.i64 n] 3)).alloc (Obj.cells #[Value.int IntKind.i64 n] 3)).drewN k).alloc (Obj.cells (nine n s f p q w) 20)
theorem nine_strange (n : Int) (s : ByteArray) (f p q : Nat) (w : World) (j : Nat) (h : j < 9) : ∃ v, (nine n s f p q w)[j]? = some v ∧ Strange v := by
  unfold nine
  match j, h with
  | 0, _ => exact ⟨_, rfl, .inl rfl⟩
  | 1, _ => exact ⟨_, rfl, .inr ⟨_, _, rfl, by decide, by decide, by decide, by decide⟩⟩
  | 2, _ => exact ⟨_, rfl, .inr ⟨_, _, rfl, by decide, by decide, by decide, by decide⟩⟩
  | 3, _ => exact ⟨_, rfl, .inr ⟨_, _, rfl, by decide, by decide, by decide, by decide⟩⟩
  | 4, _ => exact ⟨_, rfl, .inr ⟨_, _, rfl, by decide, by decide, by decide, by decide⟩⟩
  | 5, _ => exact ⟨_, rfl, .inr ⟨_, _, rfl, by decide, by decide, by decide, by decide⟩⟩
  | 6, _ => exact ⟨_, rfl, .inr ⟨_, _, rfl, by decide, by decide, by decide, by decide⟩⟩
  | 7, _ => exact ⟨_, rfl, .inr ⟨_, _, rfl, by decide, by decide, by decide, by decide⟩⟩
  | 8, _ => exact ⟨_, rfl, .inr ⟨_, _, rfl, by decide, by decide, by decide, by decide⟩⟩
theorem nine_facts (n : Int) (s : ByteArray) (f p q k : Nat) (w : World) : (∀ j, j < 9 → ∃ v, (nineW n s f p q k w).cell? ⟨w.heap.size + 1 + 1, j, none⟩ = some v ∧ Strange v) ∧
    Below w.heap.size w (nineW n s f p q k w) ∧ w.heap.size + 1 + 1 < (nineW n s f p q k w).heap.size := by
  unfold nineW
  refine ⟨fun j h => ?_, ?_, by simp⟩
  · obtain ⟨v, e, hs⟩ := nine_strange n s f p q w j h
    refine ⟨v, ?_, hs⟩
    have := World.cell?_alloc_new (((w.alloc (Obj.cells #[Value.int IntKind.i64 n] 3)).alloc (Obj.cells #[Value.int IntKind.i64 n] 3)).drewN k) (nine n s f p q w) 20 j
    simp only [World.heap_drewN, World.size_alloc] at this
    exact this.trans e
  · have h1 : Below w.heap.size w ((w.alloc (Obj.cells #[Value.int IntKind.i64 n] 3)).alloc (Obj.cells #[Value.int IntKind.i64 n] 3)) := ((Below.refl _ _).alloc (Nat.le_refl _) _).alloc (by simp) _
    have h2 : Below w.heap.size w (((w.alloc (Obj.cells #[Value.int IntKind.i64 n] 3)).alloc (Obj.cells #[Value.int IntKind.i64 n] 3)).drewN k) := ⟨h1.os, h1.tape, h1.output, h1.size, h1.block⟩
    exact h2.alloc h2.size _

set_option maxHeartbeats 800000 in
theorem walk_sampleStrange (n : Int) (s : ByteArray) (f : Nat) (L0 : -9223372036854775808 ≤ n) (L1 : n ≤ 9223372036854775807) (hs : s.size ≤ maxLen) (w : World) :
    Calls Try.prog 4 #[.int .i64 n, .string s, .float .f64 f] w fun e w' => e = .returned (.bool true) ∧ Below w.heap.size w w' := by
  clear hs
  go_enter Try.func4, Try.ntmps4
  go_wp2_with fail
  refine upon_shorter (by rw [Try.underlying38]; rfl) Try.underlying37 ?_
  intro p q k
  go_wp2_with fail
  change Code.wp _ _ _ _ (nineW n s f p q k w)
  have F := Lib.hid (nine_facts n s f p q k w)
  generalize nineW n s f p q k w = W0 at F ⊢
  have hB := F.out.2.1
  have hlt := F.out.2.2
  go_loopw [36] (fun i wr => ∃ j : Nat, j ≤ 9 ∧ i = .int .i64 j ∧ Below W0.heap.size W0 wr) (fun i _ => 9 - (intOf i).toNat)
  case atStart => exact ⟨0, by omega, rfl, Below.refl _ _⟩
  case round =>
    rename_i wr
    obtain ⟨j, hj, rfl, hb⟩ := hrel
    have hz := hb.size
    by_cases hlj : j < 9
    · obtain ⟨v, hv, hs⟩ := F.out.1 j hlj
      have hc : wr.cell? ⟨w.heap.size + 1 + 1, j, none⟩ = some v := (hb.cell (p := ⟨w.heap.size + 1 + 1, j, none⟩) hlt).trans hv
      have HS := Lib.hid hs
      clear hv hs
      go_wp2_with (first
        | (go_at_call 8; refine ((of_strange HS.out).out _).mono ?_; rintro e w1 ⟨rfl, hb1⟩)
        | (go_at_call 10; refine (smKind_none _ _ HS.out).mono ?_; rintro e w2 ⟨rfl, rfl⟩))
      all_goals
        go_roundw
        case rel => exact ⟨j + 1, by omega, by go_num, (hb.trans (hb1.mono (by omega))).alloc (by have := hb1.size; omega) _⟩
        case measure => simp [intOf]; omega
    · go_wp2_with (go_at_call 11; refine (smAlive_any _).mono ?_; rintro e w5 ⟨rfl, hb5⟩)
      go_ret
      exact ⟨rfl, (hB.trans (hb.mono (by have := hB.size; omega))).trans (hb5.mono (by have := hB.size; omega))⟩

end Go.Proofs.Ytondnligmagomaa
