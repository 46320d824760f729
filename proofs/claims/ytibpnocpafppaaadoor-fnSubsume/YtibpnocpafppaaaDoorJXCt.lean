/- What the model's CountTrue and Implies answer at every formula that holds at most 2^20 values; no other condition. -/
import Derived.Test.YtibpnocpafppaaaDoorJXCnt
import Derived.Test.YtibpnocpafppaaaDoorJXApp
import Derived.Deep.RegionHeld3
namespace Go.Proofs.YtibpnocpafppaaaDoor.ct
open Go.ChangeShapes Go.WideShapes Go.ChangeAt Go.RowKit
open sl (Sl Own ints hide unhide ret_int ret_bool grown_refl grown_trans grown_drewN below_of of_below)
open css (Sls OwnS tot)
open cf (Box)
open ok (cnfB)
open tr (cnfT clT)
open wo (Made)
open cnt (cntR asg)
set_option linter.unusedVariables false
attribute [local go_sem ↓] Go.wp_at_zero Go.wp_at_succ
def countN (m : Nat) (LL : List (List Int)) : Nat := cntR (2 ^ m) (fun k => cnfT (asg m k []) LL)
def countI (n : Int) (LL : List (List Int)) : Int := if cnfB n LL && decide (n ≤ 14) then (countN n.toNat LL : Int) else -1
end Go.Proofs.YtibpnocpafppaaaDoor.ct
