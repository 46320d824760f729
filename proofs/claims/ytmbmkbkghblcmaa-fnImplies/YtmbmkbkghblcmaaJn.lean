/- What CnfJoin (of the program and of its model) answers at every two formulas of the call's own that hold at most 2^20 values each; no other condition. -/
import Derived.Test.YtmbmkbkghblcmaaApp
import Derived.Test.YtmbmkbkghblcmaaFy
namespace Go.Proofs.Ytmbmkbkghblcmaa.jn
open Go.ChangeShapes Go.WideShapes Go.ChangeAt Go.RowKit
open Go.Proofs.Ytmbmkbkghblcmaa.sl (Sl Own ints marks hide unhide ret_int ret_bool grown_refl grown_trans grown_drewN below_of of_below)
open Go.Proofs.Ytmbmkbkghblcmaa.css (Sls OwnS Outs tot sumLen marksS)
open Go.Proofs.Ytmbmkbkghblcmaa.cf (Box)
open Go.Proofs.Ytmbmkbkghblcmaa.gr (MidF)
open Go.Proofs.Ytmbmkbkghblcmaa.ok (cnfB)
open Go.Proofs.Ytmbmkbkghblcmaa.wo (Made)
open Go.Proofs.Ytmbmkbkghblcmaa.app (stepI stepJ own_at made_nil)
set_option linter.unusedVariables false
attribute [local go_sem ↓] Go.wp_at_zero Go.wp_at_succ

end Go.Proofs.Ytmbmkbkghblcmaa.jn
