/- FlipVar and SwapVars of the model, and both sides together: at every formula of the call's own that holds at most 2^20 values, and any numbers. -/
import Derived.Test.YtibpnocpafppaaaDoorGh
namespace Go.Proofs.YtibpnocpafppaaaDoor.ge
open Go.ChangeShapes Go.WideShapes Go.ChangeAt Go.RowKit
open Go.Proofs.YtibpnocpafppaaaDoor.cf (Box)
open Go.Proofs.YtibpnocpafppaaaDoor.ok (cnfB)
open Go.Proofs.YtibpnocpafppaaaDoor.lits (okB varI)
open Go.Proofs.YtibpnocpafppaaaDoor.css (Sls OwnS tot Apart own_ne own_ne' own_kind own_mono)
open Go.Proofs.YtibpnocpafppaaaDoor.sl (Sl Own ints hide unhide ret_int ret_bool grown_refl grown_trans)
set_option linter.unusedVariables false

theorem tot_map (f : Int → Int) (LL : List (List Int)) : tot (LL.map (List.map f)) = tot LL := by
  unfold css.tot
  simp [List.map_map, Function.comp_def]
theorem tot_out (b : Bool) {R : List (List Int)} (h : tot R ≤ 1048576) : tot (outR b R) ≤ 1048576 := by
  cases b
  · show tot [] ≤ _
    decide
  · exact h
end Go.Proofs.YtibpnocpafppaaaDoor.ge
