/- What Fix (of the program and of its model) answers at every formula that holds at most 2^20 values and every number, with the clauses in memory of their own; no other condition. -/
import Derived.Test.YtnlllcgcaddhmaaGreatDoorJOn
import Derived.Deep.RegionHeld3
import Derived.Test.YtnlllcgcaddhmaaGreatDoorJOc
namespace Go.Proofs.YtnlllcgcaddhmaaGreatDoor.fx
open Go.ChangeShapes Go.WideShapes Go.ChangeAt Go.RowKit
open lits (okB varI)
open cls (hasB)
open sl (Sl Own ints marks hide unhide ret_int ret_bool grown_refl grown_trans grown_drewN below_of of_below)
open css (Sls OwnS Outs tot sumLen marksS)
open cf (Box)
open gr (MidF)
open ok (cnfB litIn)
set_option linter.unusedVariables false
attribute [local go_sem ↓] Go.wp_at_zero Go.wp_at_succ
theorem ownS_nil (lo hi : Nat) (w : World) : OwnS lo hi w (.slice none 0 0) [] :=
 ⟨[], rfl, World.ownsRow_nil .., (fun k e => by cases e), (fun p hp => by cases hp), .nil⟩
end Go.Proofs.YtnlllcgcaddhmaaGreatDoor.fx
