/- The project's package bound: what the statements of layer bound ask of it. -/
import Derived.Test.YtkoefclkpdpdpaaGreatBoP2
import Derived.Test.YtkoefclkpdpdpaaGreatBoP3
import Derived.Test.YtkoefclkpdpdpaaGreatBoP4
namespace Go.Proofs.YtkoefclkpdpdpaaGreat
set_option linter.unusedVariables false
open Go.RowKit

theorem boKE : BoE := ⟨boLeast_nil, boGreatest_nil, boSpread_nil, fun w d hn => boLeastD_any w d hn, fun w d hn => boGreatestD_any w d hn, fun w d hn => boSpread_any w d hn⟩
theorem boKS : BoS := ⟨boSum_nil, fun w d hn => boSum_any w d hn⟩
theorem boKM : BoM := ⟨boMean_nil, fun w d hn => boMean_any w d hn⟩
theorem boKW : BoW := ⟨boWorst_nil, fun w d hn => boWorst_any w d hn⟩
theorem boKI : BoI := ⟨fun a b w => boWithin_nil a b w, fun a b w d hn a0 a1 b0 b1 => boWithin_any a b w d hn a0 a1 b0 b1⟩

end Go.Proofs.YtkoefclkpdpdpaaGreat
