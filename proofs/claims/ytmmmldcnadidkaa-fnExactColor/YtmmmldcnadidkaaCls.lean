/- What the functions on clauses (ClauseOk, ClauseHas, of the program and of its model) answer at every list of at most 2^20 numbers; no other condition. -/
import Derived.Test.YtmmmldcnadidkaaLits
import Derived.Test.YtmmmldcnadidkaaSl
namespace Go.Proofs.Ytmmmldcnadidkaa.cls
open Go.ChangeShapes Go.WideShapes Go.ChangeAt Go.RowKit
open Go.Proofs.Ytmmmldcnadidkaa.lits (okB) 
open Go.Proofs.Ytmmmldcnadidkaa.sl (Sl ints hide unhide ret_int ret_bool grown_refl grown_trans grown_drewN)
set_option linter.unusedVariables false

/-- whether a list is a clause -/
def okAll (L : List Int) : Bool := L.all okB && decide (L.length ≤ 48)

theorem okAll_hit (L : List Int) (k : Nat) (h : k < L.length) (hx : okB (L.getD k 0) = false) : okAll L = false := by
  unfold okAll
  have : L.all okB = false := by
    rw [List.all_eq_false]
    refine ⟨L[k], List.getElem_mem h, ?_⟩
    rw [show L.getD k 0 = L[k] by simp [h]] at hx
    simp [hx]
  rw [this]
  rfl
theorem take_all (L : List Int) (k : Nat) (h : k < L.length) (ha : (L.take k).all okB = true) (hx : okB (L.getD k 0) = true) : (L.take (k + 1)).all okB = true := by
  rw [List.take_succ_eq_append_getElem h, List.all_append, ha]
  rw [show L.getD k 0 = L[k] by simp [h]] at hx
  simp [hx]

/-- whether a list has a number -/
def hasB (L : List Int) (x : Int) : Bool := decide (x ∈ L)
theorem has_hit (L : List Int) (k : Nat) (x : Int) (h : k < L.length) (e : L.getD k 0 = x) : hasB L x = true := by
  rw [show L.getD k 0 = L[k] by simp [h]] at e
  exact decide_eq_true (by rw [← e]; exact List.getElem_mem h)
theorem has_step (L : List Int) (k : Nat) (x : Int) (h : k < L.length) (hn : ¬ x ∈ L.take k) (e : ¬ L.getD k 0 = x) : ¬ x ∈ L.take (k + 1) := by
  rw [show L.getD k 0 = L[k] by simp [h]] at e
  rw [List.take_succ_eq_append_getElem h, List.mem_append]
  rintro (h1 | h1)
  · exact hn h1
  · simp at h1
    exact e h1.symm
theorem has_no (L : List Int) (k : Nat) (x : Int) (h : ¬ k < L.length) (hn : ¬ x ∈ L.take k) : hasB L x = false := by
  rw [List.take_of_length_le (by omega)] at hn
  exact decide_eq_false hn

end Go.Proofs.Ytmmmldcnadidkaa.cls
