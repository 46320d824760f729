/- What ClauseTrue, AssignOk and CnfTrue (of the program and of its model) answer at every formula that holds at most 2^20 values and every list of at most 2^20 numbers; no other condition. -/
import Derived.Test.YtmmmldcnadidkaaOk
namespace Go.Proofs.Ytmmmldcnadidkaa.tr
open Go.ChangeShapes Go.WideShapes Go.ChangeAt Go.RowKit
open Go.Proofs.Ytmmmldcnadidkaa.lits (okB varI)
open Go.Proofs.Ytmmmldcnadidkaa.sl (Sl Own ints marks hide unhide ret_int ret_bool grown_refl grown_trans grown_drewN below_of of_below)
open Go.Proofs.Ytmmmldcnadidkaa.css (Sls OwnS Outs tot sumLen marksS)
open Go.Proofs.Ytmmmldcnadidkaa.cf (Box)
open Go.Proofs.Ytmmmldcnadidkaa.ok (cnfB all_hit all_step all_end)
set_option linter.unusedVariables false

/-- whether a literal is true at a list of values -/
def litT (A : List Int) (x : Int) : Bool := if varI x = 0 then false else (decide (varI x ≤ (A.length : Int)) && decide (A.getD (varI x - 1).toNat 0 = 1)) == decide (0 < x)
/-- whether a clause is -/
def clT (A L : List Int) : Bool := L.any (litT A)
/-- whether each clause is -/
def cnfT (A : List Int) (LL : List (List Int)) : Bool := LL.all (clT A)
def bitB (x : Int) : Bool := decide (0 ≤ x ∧ x ≤ 1)
/-- whether a list is an assignment of a formula -/
def assignB (n : Int) (LL : List (List Int)) (A : List Int) : Bool := cnfB n LL && decide ((A.length : Int) = n) && A.all bitB
def trueB (n : Int) (LL : List (List Int)) (A : List Int) : Bool := assignB n LL A && cnfT A LL

theorem varI_bd (x : Int) : 0 ≤ varI x ∧ varI x ≤ 24 := by
  by_cases h : x ≠ 0 ∧ -24 ≤ x ∧ x ≤ 24
  · rw [lits.varI_yes h]
    split <;> omega
  · rw [lits.varI_no h]
    omega
theorem litT_no {A : List Int} {x : Int} (h : varI x = 0) : litT A x = false := if_pos h
theorem litT_far {A : List Int} {x : Int} {m : Nat} (h : varI x = (m : Int) + 1) (hm : ¬ m < A.length) : litT A x = (false == decide (0 < x)) := by
  unfold litT
  rw [if_neg (by omega), decide_eq_false (by omega)]
  rfl
theorem litT_near {A : List Int} {x : Int} {m : Nat} (h : varI x = (m : Int) + 1) (hm : m < A.length) : litT A x = (decide (A.getD m 0 = 1) == decide (0 < x)) := by
  unfold litT
  rw [if_neg (by omega), decide_eq_true (show varI x ≤ (A.length : Int) by omega), h]
  have e : ((m : Int) + 1 - 1).toNat = m := by omega
  rw [e]
  rfl
theorem any_hit {α : Type} (f : α → Bool) (L : List α) (k : Nat) (d : α) (h : k < L.length) (hx : f (L.getD k d) = true) : L.any f = true := by
  rw [List.any_eq_true]
  refine ⟨L[k], List.getElem_mem h, ?_⟩
  rw [show L.getD k d = L[k] by simp [h]] at hx
  exact hx
theorem any_step {α : Type} (f : α → Bool) (L : List α) (k : Nat) (d : α) (h : k < L.length) (ha : (L.take k).any f = false) (hx : f (L.getD k d) = false) : (L.take (k + 1)).any f = false := by
  rw [List.take_succ_eq_append_getElem h, List.any_append, ha]
  rw [show L.getD k d = L[k] by simp [h]] at hx
  simp [hx]
theorem any_end {α : Type} (f : α → Bool) (L : List α) (k : Nat) (h : ¬ k < L.length) (ha : (L.take k).any f = false) : L.any f = false := by
  rw [List.take_of_length_le (by omega)] at ha
  exact ha

end Go.Proofs.Ytmmmldcnadidkaa.tr
