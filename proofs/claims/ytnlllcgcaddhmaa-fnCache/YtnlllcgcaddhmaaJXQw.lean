/- The program's walker as it lies in memory: a machine, its solver, which clauses end by a place and which are closed there; how a cell of it is written. -/
import Derived.Test.YtnlllcgcaddhmaaJXQm
import Derived.Test.YtnlllcgcaddhmaaJOc
import Derived.Test.YtnlllcgcaddhmaaJOn
import Derived.Deep.RegionLaw
import Derived.Deep.RegionHeld3
import Derived.Deep.QuietTactic
import Derived.BigQuiet
import Derived.Test.YtnlllcgcaddhmaaJXKm
import Derived.Test.YtnlllcgcaddhmaaJXKx
import Derived.Test.YtnlllcgcaddhmaaJXQa
namespace Go.Proofs.Ytnlllcgcaddhmaa.qw
open Go.ChangeShapes Go.WideShapes Go.ChangeAt Go.RowKit
open ks (row_nec)
open as_ (litAt tl tl_snoc tl_len)
open css (Sls OwnS Outs tot)
open sl (Sl Own ints hide unhide grown_refl grown_trans)
set_option linter.unusedVariables false
structure WV where
 n : Nat
 f : Value
 p : Value
 st : Int
 k : Int
 sp : Nat
 D : Nat → Nat
 X : Nat → Nat
theorem ne_none {w : World} {b n z : Nat} {e : TypeId} {v : Value} {xs : List Value} (h : w.ownsRow b e z v n xs) : v.ownBlock = none ∨ v.ownBlock ≠ none := by
 cases v.ownBlock with
 | none => exact .inl rfl
 | some k => exact .inr (by simp)
end Go.Proofs.Ytnlllcgcaddhmaa.qw
