/- What comes of a complex number that is made a shorter one: some complex number, whatever the parts are (Go leaves open which one, where a part is no number, or too great); memory stays as it was. No program is spoken of here. -/
import Derived.WalkKit
import Derived.Laws.ComplexArith
import Derived.Deep.Draws
namespace Go.Proofs.Ytondnligmagomaa
set_option linter.unusedVariables false

theorem short_any (P : Program) (x : Nat) (w : World) : ∃ r k, (Conv.floatToFloat .f64 x .f32).run P w = .ok (.float .f32 r) (w.drewN k) := by
  unfold Conv.floatToFloat
  rw [if_neg (by decide)]
  cases hd : FloatKind.decode .f64 x with
  | nan a b => exact ⟨_, 1, by simp [Question.forced]; exact ⟨rfl, rfl⟩⟩
  | infinity s => exact ⟨_, 0, rfl⟩
  | number s m e =>
    simp only
    by_cases hi : (FloatKind.decode .f32 (FloatKind.encode .f32 (.number s m e))).isInfinity = true
    · rw [if_pos hi]; exact ⟨_, 1, by simp [Question.forced]; exact ⟨rfl, rfl⟩⟩
    · rw [if_neg hi]; exact ⟨_, 0, rfl⟩

theorem shorter_any {P : Program} {src dst : TypeId} (hs : (P.underlying src).isSome = true) (hd : P.underlying dst = some (.complex .f32)) (x y : Nat) (w : World) :
    ∃ a b k, (convert src dst (.complex .f64 x y)).run P w = .ok (.complex .f32 a b) (w.drewN k) := by
  obtain ⟨u, hs'⟩ := Option.isSome_iff_exists.1 hs
  obtain ⟨a, j, h1⟩ := short_any P x w
  obtain ⟨b, k, h2⟩ := short_any P y (w.drewN j)
  refine ⟨a, b, j + k, ?_⟩
  cases u <;> simp [convert, run_underlying hs', run_underlying hd, Conv.complexToComplex, h1, h2, World.drewN_drewN]

/-- the step of a walk at such a conversion -/
theorem upon_shorter {P : Program} {src dst : TypeId} (hs : (P.underlying src).isSome = true) (hd : P.underlying dst = some (.complex .f32)) {x y : Nat} {a : Act} {w : World} {K : Act → World → Prop} {Q : Exit → Act → World → Prop} {F : Value → World → Result Next}
    {o : Oper}
    (h : ∀ p q k, Oper.upon P o a K Q ((Result.ok (.complex .f32 p q) (w.drewN k)).andThen F)) : Oper.upon P o a K Q (((convert src dst (.complex .f64 x y)).run P w).andThen F) := by
  obtain ⟨p, q, k, e⟩ := shorter_any hs hd x y w
  rw [e]; exact h p q k

end Go.Proofs.Ytondnligmagomaa
