/- The literals that are true at an assignment: what trueLiterals and l03Lits answer at every list of at most 2^20 numbers. -/
import Derived.Test.YtibpnocpafppaaaDoorSl
import Derived.Test.YtibpnocpafppaaaDoorApp
namespace Go.Proofs.YtibpnocpafppaaaDoor.as_
open Go.ChangeShapes Go.WideShapes Go.ChangeAt Go.RowKit
open Go.Proofs.YtibpnocpafppaaaDoor.sl (Sl Own ints hide unhide ret_int ret_bool grown_refl grown_trans grown_drewN below_of of_below)
open Go.Proofs.YtibpnocpafppaaaDoor.wo (Made)
set_option linter.unusedVariables false

/-- the literal of place i that is true where the value is x -/
def litAt (i : Nat) (x : Int) : Int := if x = 1 then (i : Int) + 1 else -(i : Int) - 1
/-- the literals that are true at an assignment, from place k on -/
def tl : Nat → List Int → List Int
  | _, [] => []
  | k, x :: l => litAt k x :: tl (k + 1) l
theorem tl_snoc (l : List Int) : ∀ (k : Nat) (x : Int), tl k (l ++ [x]) = tl k l ++ [litAt (k + l.length) x] := by
  induction l with
  | nil => intro k x; rfl
  | cons y l ih =>
    intro k x
    rw [List.cons_append, tl, ih, tl, List.length_cons, show k + 1 + l.length = k + (l.length + 1) by omega]
    rfl
theorem tl_len (l : List Int) : ∀ k, (tl k l).length = l.length := by
  induction l with
  | nil => intro k; rfl
  | cons y l ih => intro k; rw [tl, List.length_cons, ih, List.length_cons]
theorem tl_step (A : List Int) (k : Nat) (h : k < A.length) : tl 0 (A.take (k + 1)) = tl 0 (A.take k) ++ [litAt k (A.getD k 0)] := by
  rw [List.take_succ_eq_append_getElem h, tl_snoc, List.length_take, show A.getD k 0 = A[k] by simp [h], show 0 + min k A.length = k by omega]
end Go.Proofs.YtibpnocpafppaaaDoor.as_
