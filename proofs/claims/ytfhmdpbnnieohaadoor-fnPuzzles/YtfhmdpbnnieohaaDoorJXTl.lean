/- The literals that are true at an assignment: what trueLiterals and l03Lits answer at every list of at most 2^20 numbers. -/
import Derived.Test.YtfhmdpbnnieohaaDoorJXSl
import Derived.Test.YtfhmdpbnnieohaaDoorJPn
namespace Go.Proofs.YtfhmdpbnnieohaaDoor.as_
open Go.ChangeShapes Go.WideShapes Go.ChangeAt Go.RowKit
open sl (Sl Own ints hide unhide ret_int ret_bool grown_refl grown_trans grown_drewN below_of of_below)
open wo (Made)
set_option linter.unusedVariables false
def litAt (i : Nat) (x : Int) : Int := if x = 1 then (i : Int) + 1 else -(i : Int) - 1
end Go.Proofs.YtfhmdpbnnieohaaDoor.as_
