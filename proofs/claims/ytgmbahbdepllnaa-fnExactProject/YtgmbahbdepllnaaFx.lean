/- What Fix (of the program and of its model) answers at every formula that holds at most 2^20 values and every number; no other condition. -/
import Derived.Test.YtgmbahbdepllnaaGr
import Derived.Deep.RegionHeld3
import Derived.Test.YtgmbahbdepllnaaOk
import Derived.Test.YtgmbahbdepllnaaWo
namespace Go.Proofs.Ytgmbahbdepllnaa.fx
open Go.ChangeShapes Go.WideShapes Go.ChangeAt Go.RowKit
open Go.Proofs.Ytgmbahbdepllnaa.lits (okB varI)
open Go.Proofs.Ytgmbahbdepllnaa.cls (hasB)
open Go.Proofs.Ytgmbahbdepllnaa.wo (woL)
open Go.Proofs.Ytgmbahbdepllnaa.sl (Sl Own ints marks hide unhide ret_int ret_bool grown_refl grown_trans grown_drewN below_of of_below)
open Go.Proofs.Ytgmbahbdepllnaa.css (Sls OwnS Outs tot sumLen marksS)
open Go.Proofs.Ytgmbahbdepllnaa.cf (Box)
open Go.Proofs.Ytgmbahbdepllnaa.gr (MidF)
open Go.Proofs.Ytgmbahbdepllnaa.ok (cnfB litIn)
set_option linter.unusedVariables false
attribute [local go_sem ↓] Go.wp_at_zero Go.wp_at_succ

/-- a formula's clauses where x is true -/
def fixL (x : Int) (LL : List (List Int)) : List (List Int) := (LL.filter fun L => !hasB L x).map fun L => woL L (-x)
def fixB (n : Int) (LL : List (List Int)) (x : Int) : Bool := cnfB n LL && litIn n x
theorem fixL_keep (x : Int) (LL : List (List Int)) (k : Nat) (h : k < LL.length) (e : hasB (LL.getD k []) x = false) : fixL x (LL.take (k + 1)) = fixL x (LL.take k) ++ [woL (LL.getD k []) (-x)] := by
  rw [css.take_snoc LL k h]
  generalize LL.getD k [] = L at *
  unfold fixL
  rw [List.filter_append, List.map_append]
  simp [e]
theorem fixL_drop (x : Int) (LL : List (List Int)) (k : Nat) (h : k < LL.length) (e : hasB (LL.getD k []) x = true) : fixL x (LL.take (k + 1)) = fixL x (LL.take k) := by
  rw [css.take_snoc LL k h]
  generalize LL.getD k [] = L at *
  unfold fixL
  rw [List.filter_append, List.map_append]
  simp [e]
theorem fixL_len (x : Int) (LL : List (List Int)) : (fixL x LL).length ≤ LL.length := by
  unfold fixL
  rw [List.length_map]
  exact List.length_filter_le _ _
theorem litIn_bd {n x : Int} (h : litIn n x = true) : x ≠ 0 ∧ -24 ≤ x ∧ x ≤ 24 := by
  unfold litIn at h
  rw [Bool.and_eq_true] at h
  exact lits.okB_iff.1 h.1

theorem wrap_neg {x : Int} (h : -24 ≤ x ∧ x ≤ 24) : IntKind.i64.wrap (-x) = -x := by
  rw [IntKind.wrap_i64]
  omega
end Go.Proofs.Ytgmbahbdepllnaa.fx
