/- What Occurs and Horn (of the program and of its model) answer at every formula that holds at most 2^20 values; no other condition. -/
import Derived.Test.YtmmmldcnadidkaaGb
import Derived.Test.YtmmmldcnadidkaaOk
import Derived.Test.YtmmmldcnadidkaaWo
import Derived.Deep.RegionHeld3
namespace Go.Proofs.Ytmmmldcnadidkaa.gc
open Go.ChangeShapes Go.WideShapes Go.ChangeAt Go.RowKit
open Go.Proofs.Ytmmmldcnadidkaa.sl (Sl Own ints hide unhide ret_int ret_bool grown_refl grown_trans grown_drewN)
open Go.Proofs.Ytmmmldcnadidkaa.css (Sls OwnS tot)
open Go.Proofs.Ytmmmldcnadidkaa.cf (Box)
open Go.Proofs.Ytmmmldcnadidkaa.ok (cnfB all_hit all_step all_end)
open Go.Proofs.Ytmmmldcnadidkaa.cls (hasB)
open Go.Proofs.Ytmmmldcnadidkaa.wo (Made)
open Go.Proofs.Ytmmmldcnadidkaa.gb (Rd Kpt flt KeptE)
set_option linter.unusedVariables false

/-- how many clauses have x -/
def occN (x : Int) (LL : List (List Int)) : Nat := (LL.filter (hasB · x)).length
theorem occ_step (x : Int) (LL : List (List Int)) (k : Nat) (h : k < LL.length) : occN x (LL.take (k + 1)) = occN x (LL.take k) + (if hasB (LL.getD k []) x then 1 else 0) := by
  unfold occN
  rw [List.take_succ_eq_append_getElem h, List.filter_append, List.length_append, show LL.getD k [] = LL[k] by simp [h]]
  cases e : hasB LL[k] x <;> simp [e]
theorem occ_end (x : Int) (LL : List (List Int)) (k : Nat) (h : ¬ k < LL.length) : occN x (LL.take k) = occN x LL := by rw [List.take_of_length_le (by omega)]
theorem occ_le (x : Int) (LL : List (List Int)) : occN x LL ≤ LL.length := List.length_filter_le _ _
def occI (n x : Int) (LL : List (List Int)) : Int := if cnfB n LL then (occN x LL : Int) else 0

theorem cell_new (w : World) (x : Value) (t : TypeId) : (w.alloc (.cells #[x] t)).cell? ⟨w.heap.size, 0, none⟩ = some x := by
  have h : (w.alloc (.cells #[x] t)).heap[w.heap.size]? = some (.cells #[x] t) := by show (w.heap.push _)[w.heap.size]? = _; simp
  unfold World.cell?
  rw [h]
  rfl
/-- how many numbers of a list are above 0 -/
def posN (C : List Int) : Nat := (C.filter fun x => decide (0 < x)).length
theorem pos_step (C : List Int) (k : Nat) (h : k < C.length) : posN (C.take (k + 1)) = posN (C.take k) + (if 0 < C.getD k 0 then 1 else 0) := by
  unfold posN
  rw [List.take_succ_eq_append_getElem h, List.filter_append, List.length_append, show C.getD k 0 = C[k] by simp [h]]
  by_cases e : 0 < C[k] <;> simp [e]
theorem pos_end (C : List Int) (k : Nat) (h : ¬ k < C.length) : posN (C.take k) = posN C := by rw [List.take_of_length_le (by omega)]
theorem pos_le (C : List Int) : posN C ≤ C.length := List.length_filter_le _ _
def oneB (C : List Int) : Bool := decide (posN C ≤ 1)
def hornB (n : Int) (LL : List (List Int)) : Bool := cnfB n LL && LL.all oneB
end Go.Proofs.Ytmmmldcnadidkaa.gc
