/- What the program's CountTrue answers at every formula that holds at most 2^20 values; no other condition. -/
import Derived.RangeFuncNested
import Derived.RangeFuncBound
import Derived.RangeFuncCalls
import Derived.RangeFuncLeaves
import Derived.Shelf.Abstract
import Derived.Shelf.RegionOpen
import Derived.OwnWalkIn
import Derived.TacticsInMore
import Derived.LoopNIn
import Derived.LoopIn
import Derived.Test.YtddmmoehlabkiaaGreatDoorJXSu
import Derived.Test.YtddmmoehlabkiaaGreatDoorJXVt
namespace Go.Proofs.YtddmmoehlabkiaaGreatDoor
set_option linter.unusedVariables false
open Go.ChangeShapes Go.WideShapes Go.ChangeAt Go.RowKit
namespace cu
open Go.ChangeShapes Go.WideShapes Go.ChangeAt Go.RowKit Go.Shelf
attribute [local go_sem] Oper.semAt_some
theorem grow1 {a b c:World}{r:Nat}(h:a.grownBy b none)(k:b.grownBy c (some r))(hr:a.heap.size<=r):a.grownBy c none :=
 ⟨k.os.trans h.os,k.tape.trans h.tape,k.output.trans h.output,Nat.le_trans h.size k.size,fun i hi _=>(k.block i (Nat.lt_of_lt_of_le hi h.size) (fun e=>by cases e;omega)).trans (h.block i hi nofun)⟩
end cu
end Go.Proofs.YtddmmoehlabkiaaGreatDoor
