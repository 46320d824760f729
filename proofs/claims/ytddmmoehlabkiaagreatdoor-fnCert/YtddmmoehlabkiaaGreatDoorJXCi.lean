/- What the model's Implies answers at every formula that holds at most 2^20 values and every list of at most 2^20 numbers; no other condition. -/
import Derived.Test.YtddmmoehlabkiaaGreatDoorJOn
namespace Go.Proofs.YtddmmoehlabkiaaGreatDoor
set_option linter.unusedVariables false
open Go.ChangeShapes Go.WideShapes Go.ChangeAt Go.RowKit
namespace ct
open ok (cnfB clB)
open tr (cnfT clT)
open cnt (asg)
def impN (m:Nat)(LL:List (List Int))(L:List Int):Bool:=(List.range (2 ^ m)).all fun k=>!(cnfT (asg m k []) LL) || clT (asg m k []) L
def impB (n:Int)(LL:List (List Int))(L:List Int):Bool:=cnfB n LL && decide (n<=14) && clB n L && impN n.toNat LL L
end ct
end Go.Proofs.YtddmmoehlabkiaaGreatDoor
