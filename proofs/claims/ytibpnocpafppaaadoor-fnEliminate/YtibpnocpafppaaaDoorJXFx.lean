/- What Fix (of the program and of its model) answers at every formula that holds at most 2^20 values and every number; no other condition. -/
import Derived.Test.YtibpnocpafppaaaDoorJXGr
import Derived.Deep.RegionHeld3
import Derived.Test.YtibpnocpafppaaaDoorJXOk
import Derived.Test.YtibpnocpafppaaaDoorJLc
namespace Go.Proofs.YtibpnocpafppaaaDoor.fx
open Go.ChangeShapes Go.WideShapes Go.ChangeAt Go.RowKit
open lits (okB varI)
open cls (hasB)
open wo (woL)
open sl (Sl Own ints hide unhide ret_int ret_bool grown_refl grown_trans grown_drewN below_of of_below)
open css (Sls OwnS Outs tot)
open cf (Box)
open gr (MidF)
open ok (cnfB litIn)
set_option linter.unusedVariables false
attribute [local go_sem ↓] Go.wp_at_zero Go.wp_at_succ
def fixL (x : Int) (LL : List (List Int)) : List (List Int) := (LL.filter fun L => !hasB L x).map fun L => woL L (-x)
end Go.Proofs.YtibpnocpafppaaaDoor.fx
