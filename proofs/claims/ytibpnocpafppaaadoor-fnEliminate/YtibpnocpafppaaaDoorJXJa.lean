/- Mathematics of a variable that is flipped and of two that are swapped; conditions: a right formula, its own variables, an assignment of it. -/
import Derived.Test.YtibpnocpafppaaaDoorJXGh
import Derived.Test.YtibpnocpafppaaaDoorJXFy
import Derived.Test.YtibpnocpafppaaaDoorJXCt
namespace Go.Proofs.YtibpnocpafppaaaDoor.ja
open lits (okB okB_iff varI)
open ok (litIn clB cnfB)
open tr (litT clT cnfT)
open ge (hvB)
set_option linter.unusedVariables false
theorem set_get (A : List Int) (i j : Nat) (x : Int) : (A.set i x).getD j 0 = if i = j ∧ i < A.length then x else A.getD j 0 := by
 simp only [List.getD_eq_getElem?_getD, List.getElem?_set]
 by_cases h : i = j
 ·subst h
  by_cases h2 : i < A.length
  ·simp [h2]
  ·simp [h2]
 ·simp [h]
end Go.Proofs.YtibpnocpafppaaaDoor.ja
