/- A walk of layer rank, over the project's contracts as they are. -/
import Derived.Test.YtfmgcabgbnfjlaaGreatRnkT
import Derived.Test.YtfmgcabgbnfjlaaGreatRnkLaw5
namespace Go.Proofs.YtfmgcabgbnfjlaaGreat
theorem walk_rankTables : type_of% (walk_rankTablesK rnkLH rnkT) := walk_rankTablesK rnkLH rnkT

end Go.Proofs.YtfmgcabgbnfjlaaGreat
