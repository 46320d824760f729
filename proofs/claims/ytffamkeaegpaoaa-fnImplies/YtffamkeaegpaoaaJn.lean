/- What CnfJoin (of the program and of its model) answers at every two formulas of the call's own that hold at most 2^20 values each; no other condition. -/
import Derived.Test.YtffamkeaegpaoaaApp
import Derived.Test.YtffamkeaegpaoaaFy
namespace Go.Proofs.Ytffamkeaegpaoaa.jn
open Go.ChangeShapes Go.WideShapes Go.ChangeAt Go.RowKit
open Go.Proofs.Ytffamkeaegpaoaa.sl (Sl Own ints marks hide unhide ret_int ret_bool grown_refl grown_trans grown_drewN below_of of_below)
open Go.Proofs.Ytffamkeaegpaoaa.css (Sls OwnS Outs tot sumLen marksS)
open Go.Proofs.Ytffamkeaegpaoaa.cf (Box)
open Go.Proofs.Ytffamkeaegpaoaa.gr (MidF)
open Go.Proofs.Ytffamkeaegpaoaa.ok (cnfB)
open Go.Proofs.Ytffamkeaegpaoaa.wo (Made)
open Go.Proofs.Ytffamkeaegpaoaa.app (stepI stepJ own_at made_nil)
set_option linter.unusedVariables false
attribute [local go_sem ↓] Go.wp_at_zero Go.wp_at_succ

end Go.Proofs.Ytffamkeaegpaoaa.jn
