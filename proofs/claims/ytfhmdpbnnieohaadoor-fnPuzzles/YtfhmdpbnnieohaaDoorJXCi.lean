/- What the model's Implies answers at every formula that holds at most 2^20 values and every list of at most 2^20 numbers; no other condition. -/
import Derived.Test.YtfhmdpbnnieohaaDoorJPn
namespace Go.Proofs.YtfhmdpbnnieohaaDoor.ct
open Go.ChangeShapes Go.WideShapes Go.ChangeAt Go.RowKit
open sl (Sl Own ints hide unhide ret_int ret_bool grown_refl grown_trans grown_drewN below_of of_below)
open css (Sls OwnS tot)
open cf (Box)
open ok (cnfB clB)
open tr (cnfT clT)
open wo (Made)
open cnt (cntR asg)
set_option linter.unusedVariables false
def impN (m : Nat) (LL : List (List Int)) (L : List Int) : Bool := (List.range (2 ^ m)).all fun k => !(cnfT (asg m k []) LL) || clT (asg m k []) L
def impB (n : Int) (LL : List (List Int)) (L : List Int) : Bool := cnfB n LL && decide (n ≤ 14) && clB n L && impN n.toNat LL L
end Go.Proofs.YtfhmdpbnnieohaaDoor.ct
