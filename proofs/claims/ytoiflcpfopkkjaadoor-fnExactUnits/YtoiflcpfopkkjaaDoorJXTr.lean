/- What ClauseTrue, AssignOk and CnfTrue (of the program and of its model) answer at every formula that holds at most 2^20 values and every list of at most 2^20 numbers; no other condition. -/
import Derived.Test.YtoiflcpfopkkjaaDoorJXOk
namespace Go.Proofs.YtoiflcpfopkkjaaDoor.tr
open Go.ChangeShapes Go.WideShapes Go.ChangeAt Go.RowKit
open lits (okB varI)
open sl (Sl Own ints marks hide unhide ret_int ret_bool grown_refl grown_trans grown_drewN below_of of_below)
open css (Sls OwnS Outs tot sumLen marksS)
open cf (Box)
open ok (cnfB all_hit all_step all_end)
set_option linter.unusedVariables false
theorem any_step {α : Type} (f : α → Bool) (L : List α) (k : Nat) (d : α) (h : k < L.length) (ha : (L.take k).any f = false) (hx : f (L.getD k d) = false) : (L.take (k + 1)).any f = false := by
 rw [List.take_succ_eq_append_getElem h, List.any_append, ha]
 rw [show L.getD k d = L[k] by simp [h]] at hx
 simp [hx]
theorem any_end {α : Type} (f : α → Bool) (L : List α) (k : Nat) (h : ¬ k < L.length) (ha : (L.take k).any f = false) : L.any f = false := by
 rw [List.take_of_length_le (by omega)] at ha
 exact ha
end Go.Proofs.YtoiflcpfopkkjaaDoor.tr
