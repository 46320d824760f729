/- What the model's SolveWith and Solve answer at every formula of the call's own that holds at most 2^20 values and every list of the call's own of at most 2^20 numbers. -/
import Derived.Test.YtfhmdpbnnieohaaDoorJXLr
import Derived.Test.YtfhmdpbnnieohaaDoorJXFm
namespace Go.Proofs.YtfhmdpbnnieohaaDoor.lq
open Go.ChangeShapes Go.WideShapes Go.ChangeAt Go.RowKit
open lits (okB varI okB_iff varI_yes)
open cls (hasB)
open css (Sls OwnS tot own_mono)
open cf (Box)
open ok (cnfB clB litIn)
open wo (Made)
open sl (Sl Own ints hide unhide ret_int ret_bool grown_refl grown_trans grown_drewN)
set_option linter.unusedVariables false
theorem solve_no {n : Int} {LL : List (List Int)} {a : List Int} (h : (cnfB n LL && a.all (litIn n)) = false) : solveL n LL a = none := by
 unfold solveL
 rw [h]
 rfl
end Go.Proofs.YtfhmdpbnnieohaaDoor.lq
