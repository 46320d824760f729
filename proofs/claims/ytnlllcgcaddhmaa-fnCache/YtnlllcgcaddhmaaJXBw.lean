/- SolveWith and Solve, the program's beside the model's: one answer. -/
import Derived.Test.YtnlllcgcaddhmaaJXKz
namespace Go.Proofs.Ytnlllcgcaddhmaa.ks
open lq (solveL FromE)
open css (Sls tot)
open sl (ints)
set_option linter.unusedVariables false
theorem solve_len (n : Int) (LL : List (List Int)) (a : List Int) : ((solveL n LL a).getD []).length ≤ 24 := by
 unfold lq.solveL
 split
 ·rename_i h
  rw [Bool.and_eq_true] at h
  obtain ⟨m, rfl, h24, _⟩ := cnf_parts h.1
  cases e : lq.lst ((m : Int)).toNat (lq.holds LL a) with
  | none => exact Nat.zero_le _
  | some l =>
   have := (lq.lst_some e).1.1
   show l.length ≤ 24
   omega
 ·exact Nat.zero_le _
end Go.Proofs.Ytnlllcgcaddhmaa.ks
