/- Texts laid together: BlNum, BlNum2, BlMrg, RcNum, RcNum2, RcNum3. -/
import Derived.Test.YtelekchdbiimiaaGreatDgN
namespace Go.Proofs.YtelekchdbiimiaaGreat
set_option linter.unusedVariables false
end Go.Proofs.YtelekchdbiimiaaGreat
namespace Go.Proofs.YtelekchdbiimiaaGreat
set_option linter.unusedVariables false
end Go.Proofs.YtelekchdbiimiaaGreat
namespace Go.Proofs.YtelekchdbiimiaaGreat
set_option linter.unusedVariables false
end Go.Proofs.YtelekchdbiimiaaGreat
namespace Go.Proofs.YtelekchdbiimiaaGreat
set_option linter.unusedVariables false
def mapN (g : Int → Int) (L : List Nd) : List Nd := L.map fun n => (g n.1, n.2)
theorem wt_map (P : Int → Bool) (g : Int → Int) (L : List Nd) : wtF P (mapN g L) = wtF (fun n => P (g n)) L := by
  induction L with
  | nil => rfl
  | cons n L ih =>
    have e : mapN g (n :: L) = (g n.1, n.2) :: mapN g L := rfl
    rw [e]
    simp only [wtF, ih]
theorem map_tot (g : Int → Int) (L : List Nd) : sumC (mapN g L) = sumC L := by rw [← wtF_all, wt_map]; exact wtF_all L
end Go.Proofs.YtelekchdbiimiaaGreat
namespace Go.Proofs.YtelekchdbiimiaaGreat
set_option linter.unusedVariables false
theorem map_pos {g : Int → Int} {L : List Nd} (h : ∀ n ∈ L, 1 ≤ n.2) : ∀ n ∈ mapN g L, 1 ≤ n.2 := fun n hn => by
  obtain ⟨m, hm, e⟩ := List.mem_map.1 hn
  rw [← e]; exact h m hm
theorem roll_pos {l : Int} {L : List Nd} (h : RollC l L) : ∀ n ∈ L, 1 ≤ n.2 := fun n hn => (h.2.2.1 n hn).2
end Go.Proofs.YtelekchdbiimiaaGreat
namespace Go.Proofs.YtelekchdbiimiaaGreat
set_option linter.unusedVariables false
end Go.Proofs.YtelekchdbiimiaaGreat
