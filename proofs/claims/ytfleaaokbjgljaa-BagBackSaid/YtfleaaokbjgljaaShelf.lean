/- What this program calls of the library's package math/bits returns what its contracts of the library say, at this program's own numbers. -/
import Derived.Shelf.Lay
import Derived.Shelf.LaySoft

import Derived.Test.YtfleaaokbjgljaaProg
namespace Go.Proofs
open Go.Shelf
shelf_tried
end Go.Proofs
