/- slices.Sort at []int is called nowhere in this program: nothing is laid. -/
import Derived.Test.YtnhagdlpidgkcaaGreatProg
namespace Go.Proofs
end Go.Proofs
