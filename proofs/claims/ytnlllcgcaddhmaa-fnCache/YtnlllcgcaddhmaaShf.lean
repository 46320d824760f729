/- Nothing but modules of the library: this seat needs no contract of the shelf's. -/
import Derived.Test.YtnlllcgcaddhmaaProg
import Derived.Sort.Grow
import Derived.Shelf.Strings.Builder1
import Derived.Shelf.Strconv.Itoa3
import Derived.Shelf.LaysM
namespace Go.Proofs.Ytnlllcgcaddhmaa
end Go.Proofs.Ytnlllcgcaddhmaa
