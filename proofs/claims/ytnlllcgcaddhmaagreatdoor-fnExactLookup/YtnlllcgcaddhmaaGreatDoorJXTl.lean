/- The literals that are true at an assignment: what trueLiterals and l03Lits answer at every list of at most 2^20 numbers. -/
import Derived.Test.YtnlllcgcaddhmaaGreatDoorJXSl
import Derived.Test.YtnlllcgcaddhmaaGreatDoorJOn
namespace Go.Proofs.YtnlllcgcaddhmaaGreatDoor.as_
open Go.ChangeShapes Go.WideShapes Go.ChangeAt Go.RowKit
open sl (Sl Own ints hide unhide ret_int ret_bool grown_refl grown_trans grown_drewN below_of of_below)
open wo (Made)
set_option linter.unusedVariables false
def litAt (i : Nat) (x : Int) : Int := if x = 1 then (i : Int) + 1 else -(i : Int) - 1
def tl : Nat → List Int → List Int
 | _, [] => []
 | k, x :: l => litAt k x :: tl (k + 1) l
theorem tl_snoc (l : List Int) : ∀ (k : Nat) (x : Int), tl k (l ++ [x]) = tl k l ++ [litAt (k + l.length) x] := by
 induction l with
 | nil => intro k x; rfl
 | cons y l ih =>
  intro k x
  rw [List.cons_append, tl, ih, tl, List.length_cons, show k + 1 + l.length = k + (l.length + 1) by omega]
  rfl
theorem tl_len (l : List Int) : ∀ k, (tl k l).length = l.length := by
 induction l with
 | nil => intro k; rfl
 | cons y l ih => intro k; rw [tl, List.length_cons, ih, List.length_cons]
end Go.Proofs.YtnlllcgcaddhmaaGreatDoor.as_
