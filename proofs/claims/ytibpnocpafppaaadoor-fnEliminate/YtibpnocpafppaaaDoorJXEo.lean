/- Plain mathematics of FnHorn: how often literals occur; what is forced is true wherever a formula is; a formula of clauses with at most one positive literal is true where just what is forced is. No condition. -/
import Derived.Test.YtibpnocpafppaaaDoorJXGc
import Derived.Test.YtibpnocpafppaaaDoorJXOk
import Derived.Test.YtibpnocpafppaaaDoorJXMq
import Derived.Test.YtibpnocpafppaaaDoorJXMs
import Derived.Test.YtibpnocpafppaaaDoorJXTr
import Derived.Test.YtibpnocpafppaaaDoorJLc
import Derived.Test.YtibpnocpafppaaaDoorJXCf
import Derived.Deep.QuietTactic
import Derived.BigQuiet
import Derived.Test.YtibpnocpafppaaaDoorJXTl
namespace Go.Proofs.YtibpnocpafppaaaDoor.eo
open Go.RowKit
open lits (okB okB_iff)
open bset (placeN placeN_le setOf setOf_lt setOf_has setOf_bit withN)
open srt (swp litI fstI woN)
open cls (hasB)
open ok (cnfB clB litIn)
open tr (litT clT cnfT)
open wm (swp_place unitN clauseN clsd opn okU firstN)
open cs (cnfS good)
set_option linter.unusedVariables false
theorem wrap_in {x : Int} (h0 : -9223372036854775808 ≤ x) (h1 : x ≤ 9223372036854775807) : IntKind.i64.wrap x = x := by
 simp [IntKind.wrap, IntKind.signed, IntKind.bits]
 omega
end Go.Proofs.YtibpnocpafppaaaDoor.eo
