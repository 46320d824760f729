/- Plain mathematics of Units: what is left of a right formula that was fixed at all its forced literals, and each of them as a clause of its own, is right; no condition. -/
import Derived.Test.YtibpnocpafppaaaDoorJXFy
import Derived.Test.YtibpnocpafppaaaDoorJXWz
import Derived.Test.YtibpnocpafppaaaDoorJLq
namespace Go.Proofs.YtibpnocpafppaaaDoor.hb
open lits (okB okB_iff varI)
open bset (placeN placeN_le setOf setOf_lt setOf_bit setOf_has withN)
open cls (hasB)
open wo (woL)
open fx (fixL)
open ok (cnfB clB litIn)
set_option linter.unusedVariables false
def fixA (LL : List (List Int)) (P : List Int) : List (List Int) := P.foldl (fun F x => fixL x F) LL
theorem wo_mem {C : List Int} {x y : Int} : y ∈ woL C x ↔ y ∈ C ∧ y ≠ x := by
 unfold wo.woL
 rw [List.mem_filter]
 simp
open wm (clauseN unitN firstN clsd opn)
open srt (fstI)
structure Inv (n : Int) (LL : List (List Int)) (T : Nat) (P : List Int) : Prop where
 t : T = setOf P
 l : ∀ p ∈ P, litIn n p = true
 c : (fixA LL P).length + P.length ≤ LL.length
end Go.Proofs.YtibpnocpafppaaaDoor.hb
