/- What CnfOk (of the program and of its model) answers at every formula that holds at most 2^20 values; no other condition. -/
import Derived.Test.YtmmmldcnadidkaaCf
import Derived.Test.YtmmmldcnadidkaaLits
namespace Go.Proofs.Ytmmmldcnadidkaa.ok
open Go.ChangeShapes Go.WideShapes Go.ChangeAt Go.RowKit
open Go.Proofs.Ytmmmldcnadidkaa.lits (okB varI)
open Go.Proofs.Ytmmmldcnadidkaa.sl (Sl Own ints marks hide unhide ret_int ret_bool grown_refl grown_trans grown_drewN below_of of_below)
open Go.Proofs.Ytmmmldcnadidkaa.css (Sls OwnS Outs tot sumLen marksS)
open Go.Proofs.Ytmmmldcnadidkaa.cf (Box)
set_option linter.unusedVariables false

/-- whether x is a literal of the variables 1 to n -/
def litIn (n x : Int) : Bool := okB x && decide (varI x ≤ n)
/-- whether a list is a clause of them -/
def clB (n : Int) (L : List Int) : Bool := L.all (litIn n) && decide (L.length ≤ 48)
/-- whether a formula is one -/
def cnfB (n : Int) (LL : List (List Int)) : Bool := decide (0 ≤ n ∧ n ≤ 24) && decide (LL.length ≤ 120) && LL.all (clB n)

theorem all_hit {α : Type} (f : α → Bool) (L : List α) (k : Nat) (d : α) (h : k < L.length) (hx : f (L.getD k d) = false) : L.all f = false := by
  rw [List.all_eq_false]
  refine ⟨L[k], List.getElem_mem h, ?_⟩
  rw [show L.getD k d = L[k] by simp [h]] at hx
  simp [hx]
theorem all_step {α : Type} (f : α → Bool) (L : List α) (k : Nat) (d : α) (h : k < L.length) (ha : (L.take k).all f = true) (hx : f (L.getD k d) = true) : (L.take (k + 1)).all f = true := by
  rw [List.take_succ_eq_append_getElem h, List.all_append, ha]
  rw [show L.getD k d = L[k] by simp [h]] at hx
  simp [hx]
theorem all_end {α : Type} (f : α → Bool) (L : List α) (k : Nat) (h : ¬ k < L.length) (ha : (L.take k).all f = true) : L.all f = true := by
  rw [List.take_of_length_le (by omega)] at ha
  exact ha
theorem clB_hit {n : Int} {L : List Int} (h : L.all (litIn n) = false) : clB n L = false := by unfold clB; rw [h]; rfl
theorem clB_end {n : Int} {L : List Int} (h : L.all (litIn n) = true) : clB n L = decide (L.length ≤ 48) := by unfold clB; rw [h]; rfl
theorem dec_len (n : Nat) (c : Nat) : decide ((n : Int) ≤ (c : Int)) = decide (n ≤ c) := by simp

theorem l01In (x a b : Int) (w : World) : Calls Try.prog 13 #[.int .i64 x, .int .i64 a, .int .i64 b] w fun e w' => e = .returned (.bool (decide (a ≤ x ∧ x ≤ b))) ∧ w' = w := by
  by_cases h1 : a ≤ x
  · by_cases h2 : x ≤ b
    · rw [decide_eq_true ⟨h1, h2⟩]
      go_enter Try.func13, Try.ntmps13
      go_wp2
      go_ret
      exact ⟨rfl, rfl⟩
    · rw [decide_eq_false (fun h => h2 h.2)]
      go_enter Try.func13, Try.ntmps13
      go_wp2
      go_ret
      exact ⟨rfl, rfl⟩
  · rw [decide_eq_false (fun h => h1 h.1)]
    go_enter Try.func13, Try.ntmps13
    go_wp2
    go_ret
    exact ⟨rfl, rfl⟩

end Go.Proofs.Ytmmmldcnadidkaa.ok
