/- What MachineOk (of the program and of its model) answers at every machine that holds at most 2^20 values; no other condition. -/
import Derived.Test.YtnlllcgcaddhmaaJXQm
import Derived.Test.YtnlllcgcaddhmaaJXQa
import Derived.Test.YtnlllcgcaddhmaaJOn
namespace Go.Proofs.Ytnlllcgcaddhmaa.qb
open Go.ChangeShapes Go.WideShapes Go.ChangeAt Go.RowKit
open qa (Box5)
open ok (cnfB)
open lits (varI okB okB_iff)
open css (Sls tot)
open sl (Sl Own ints hide unhide ret_int ret_bool grown_refl grown_trans)
set_option linter.unusedVariables false
theorem cnf24 {n : Int} {LL : List (List Int)} (h : cnfB n LL = true) : 0 ≤ n ∧ n ≤ 24 := by
 unfold ok.cnfB at h
 simp only [Bool.and_eq_true, decide_eq_true_iff] at h
 exact h.1.1
end Go.Proofs.Ytnlllcgcaddhmaa.qb
