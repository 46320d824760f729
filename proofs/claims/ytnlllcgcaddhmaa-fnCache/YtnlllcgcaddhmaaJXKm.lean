/- Plain mathematics of the program's search: the word of an assignment, clauses that fail on a path, and what is made of them. -/
import Derived.Test.YtnlllcgcaddhmaaJXLq
import Derived.Test.YtnlllcgcaddhmaaJOc
namespace Go.Proofs.Ytnlllcgcaddhmaa.km
open srt (swp)
open lq (Bits bits_cons lst lst_none lst_some lst_congr)
set_option linter.unusedVariables false
def plc (j : Nat) (x : Int) : Nat := if x = 1 then 2 * j else 2 * j + 1
def wdB (A : List Int) (b : Nat) : Bool := decide (b / 2 < A.length) && decide (plc (b / 2) (A.getD (b / 2) 0) = b)
structure Path (n : Nat) (Ss : List Nat) (W : Nat) (E : Nat → Nat) (pre : List Int) : Prop where
 len : pre.length ≤ n
 bit : ∀ x ∈ pre, x = 0 ∨ x = 1
 ok : ∀ b, wdB pre b = true → W.testBit (swp b) = false
 cl : ∀ u, u < pre.length → ∀ i, (E u).testBit i = true → ∃ b, (Ss.getD i 0).testBit b = true ∧ wdB pre b = true
end Go.Proofs.Ytnlllcgcaddhmaa.km
