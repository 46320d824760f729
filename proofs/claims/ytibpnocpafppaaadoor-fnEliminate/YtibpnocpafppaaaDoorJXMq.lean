/- Plain mathematics of FnForce: what is forced is true wherever the formula and what was taken are; where that comes to an empty clause they are nowhere; behind it nothing more is forced; no condition. -/
import Derived.Test.YtibpnocpafppaaaDoorJXWz
import Derived.Deep.QuietTactic
import Derived.BigQuiet
import Derived.Deep.RegionHeld3
import Derived.Deep.RegionLaw
import Derived.WalkMore
import Derived.ArgAppend
import Derived.Test.YtibpnocpafppaaaDoorJLc
import Derived.Test.YtibpnocpafppaaaDoorJXFm
import Derived.Test.YtibpnocpafppaaaDoorJLs
import Derived.Test.YtibpnocpafppaaaDoorJXApp
import Derived.Test.YtibpnocpafppaaaDoorJXSl
import Derived.Test.YtibpnocpafppaaaDoorJXCu
import Derived.Test.YtibpnocpafppaaaDoorJXCi
import Derived.Test.YtibpnocpafppaaaDoorJXNi
namespace Go.Proofs.YtibpnocpafppaaaDoor.mq
open Go.RowKit
open lits (okB okB_iff varI)
open bset (placeN placeN_le placeN_inj setOf setOf_lt setOf_bit withN withN_bit setOf_snoc)
open srt (woN fstI swp andN_lt)
open ok (cnfB litIn clB)
open tr (litT clT cnfT)
open cnt (le cntR asg)
open at_ (at_)
open Go.Proofs.YtibpnocpafppaaaDoor.wm
set_option linter.unusedVariables false
def sing (L : List Int) : List (List Int) := L.map fun x => [x]
structure Laws (m : Nat) (LL : List (List Int)) (L : List Int) (F : List Int × Bool) : Prop where
 pre : ∃ X, F.1 = L ++ X
 imp : LL.length + L.length ≤ 120 → ∀ x ∈ F.1, ct.impB (m : Int) (LL ++ sing L) [x] = true
 unit : unitB (m : Int) LL F.1 = (0, F.2)
 none_ : LL.length + L.length ≤ 120 → F.2 = false → ct.countI (m : Int) (LL ++ sing L) = 0
end Go.Proofs.YtibpnocpafppaaaDoor.mq
