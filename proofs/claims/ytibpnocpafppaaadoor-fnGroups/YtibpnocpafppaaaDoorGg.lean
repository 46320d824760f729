/- FlipVar and SwapVars: what the program and its model answer at every formula of the call's own that holds at most 2^20 values, and every numbers. -/
import Derived.Test.YtibpnocpafppaaaDoorGf
namespace Go.Proofs.YtibpnocpafppaaaDoor.ge
open Go.ChangeShapes Go.WideShapes Go.ChangeAt Go.RowKit
open Go.Proofs.YtibpnocpafppaaaDoor.cf (Box)
open Go.Proofs.YtibpnocpafppaaaDoor.ok (cnfB)
open Go.Proofs.YtibpnocpafppaaaDoor.lits (okB varI)
open Go.Proofs.YtibpnocpafppaaaDoor.css (Sls OwnS tot Apart own_ne own_ne' own_kind own_mono)
open Go.Proofs.YtibpnocpafppaaaDoor.sl (Sl Own ints hide unhide ret_int ret_bool grown_refl grown_trans)
set_option linter.unusedVariables false
set_option linter.unusedSimpArgs false

/-- what the model makes of a literal -/
def eaZ (v w t z : Int) : Int := if varI z = v then (if z < 0 then -1 else 1) * t * w else if varI z = w then (if z < 0 then -1 else 1) * t * v else z

theorem wr64 {z : Int} (h0 : -24 ≤ z) (h1 : z ≤ 24) : wrap64 z = z := by
  unfold wrap64
  omega
/-- both make the same of a literal -/
theorem flip_eq {v z : Int} (hv : 1 ≤ v ∧ v ≤ 24) (hz : okB z = true) : eaZ v v (-1) z = exZ v (-v) z := by
  have := (lits.okB_iff).1 hz
  unfold eaZ exZ varI
  rw [hz, if_pos rfl]
  by_cases h0 : z < 0
  · simp only [if_pos h0]
    repeat' split
    all_goals omega
  · simp only [if_neg h0]
    repeat' split
    all_goals omega
theorem swap_eq {v w z : Int} (hv : 1 ≤ v ∧ v ≤ 24) (hw : 1 ≤ w ∧ w ≤ 24) (hz : okB z = true) : eaZ v w 1 z = exZ v w z := by
  have := (lits.okB_iff).1 hz
  unfold eaZ exZ varI
  rw [hz, if_pos rfl]
  by_cases h0 : z < 0
  · simp only [if_pos h0]
    repeat' split
    all_goals omega
  · simp only [if_neg h0]
    repeat' split
    all_goals omega
theorem map_eq {n : Int} {LL : List (List Int)} {f g : Int → Int} (h : cnfB n LL = true) (e : ∀ z, okB z = true → f z = g z) : LL.map (List.map f) = LL.map (List.map g) := by
  apply List.map_congr_left
  intro C hC
  apply List.map_congr_left
  intro z hz
  unfold ok.cnfB at h
  rw [Bool.and_eq_true, Bool.and_eq_true, List.all_eq_true] at h
  have h1 := h.2 C hC
  unfold ok.clB at h1
  rw [Bool.and_eq_true, List.all_eq_true] at h1
  have h2 := h1.1 z hz
  unfold ok.litIn at h2
  rw [Bool.and_eq_true] at h2
  exact e z h2.1
end Go.Proofs.YtibpnocpafppaaaDoor.ge
