/- What the program's CountTrue answers at every formula that holds at most 2^20 values; no other condition. -/
import Derived.RangeFuncNested
import Derived.RangeFuncBound
import Derived.RangeFuncCalls
import Derived.RangeFuncLeaves
import Derived.Shelf.Abstract
import Derived.Shelf.RegionOpen
import Derived.WalkKit
import Derived.OwnWalkIn
import Derived.TacticsInMore
import Derived.LoopNIn
import Derived.LoopIn
import Derived.Laws.BitsAllLaws
import Derived.Test.YtnlllcgcaddhmaaGreatDoorJXSu
import Derived.Test.YtnlllcgcaddhmaaGreatDoorJOn
namespace Go.Proofs.YtnlllcgcaddhmaaGreatDoor.cu
open Go.ChangeShapes Go.WideShapes Go.ChangeAt Go.RowKit Go.Shelf
open sl (Sl Own ints hide unhide ret_int ret_bool grown_refl grown_trans grown_drewN below_of of_below)
open css (Sls tot)
open cf (Box)
open ok (cnfB clB)
open tr (cnfT clT)
open bset (setOf)
open su (MadeU words)
set_option linter.unusedVariables false
attribute [local go_sem] Oper.semAt_some
theorem grow1 {a b c : World} {r : Nat} (h : a.grownBy b none) (k : b.grownBy c (some r)) (hr : a.heap.size ≤ r) : a.grownBy c none :=
 ⟨k.os.trans h.os, k.tape.trans h.tape, k.output.trans h.output, Nat.le_trans h.size k.size, fun i hi _ => (k.block i (Nat.lt_of_lt_of_le hi h.size) (fun e => by cases e; omega)).trans (h.block i hi (fun e => by cases e))⟩
end Go.Proofs.YtnlllcgcaddhmaaGreatDoor.cu
