/- What the program's SolveWith and Solve answer at every formula that holds at most 2^20 values and every list of at most 2^20 numbers, where the library's table of places lies as its text lays it. -/
import Derived.Test.YtnlllcgcaddhmaaJXKx
import Derived.RangeFuncNested
import Derived.RangeFuncBound
import Derived.RangeFuncCalls
import Derived.RangeFuncLeaves
import Derived.Shelf.Abstract
import Derived.Shelf.RegionOpen
import Derived.WalkKit
import Derived.OwnWalkIn
import Derived.TacticsInMore
import Derived.LoopNIn
import Derived.LoopIn
import Derived.Stop.RegionWithIn
import Derived.Deep.RegionHeld3
import Derived.Test.YtnlllcgcaddhmaaJOc
import Derived.Test.YtnlllcgcaddhmaaJOn
import Derived.Deep.RegionLaw
import Derived.Deep.QuietTactic
import Derived.BigQuiet
import Derived.Test.YtnlllcgcaddhmaaJXKm
import Derived.Laws.EntriesVeiled
import Derived.Laws.BitsAllLaws
import Derived.Test.YtnlllcgcaddhmaaJXLr
import Derived.Test.YtnlllcgcaddhmaaJXLs5
namespace Go.Proofs.Ytnlllcgcaddhmaa.ks
open Go.ChangeShapes Go.WideShapes Go.ChangeAt Go.RowKit
open lq (solveL FromE lits_in solve_no made_sub)
open bset (setOf)
open css (Sls tot)
open cf (Box)
open ok (cnfB litIn)
open wo (Made)
open sl (Sl ints hide unhide grown_refl grown_trans)
set_option linter.unusedVariables false
theorem cnf_parts {n : Int} {LL : List (List Int)} (h : cnfB n LL = true) : ∃ m : Nat, n = (m : Int) ∧ m ≤ 24 ∧ LL.length ≤ 120 := by
 unfold ok.cnfB at h
 rw [Bool.and_eq_true, Bool.and_eq_true, decide_eq_true_iff, decide_eq_true_iff] at h
 obtain ⟨m, rfl⟩ := Int.eq_ofNat_of_zero_le h.1.1.1
 exact ⟨m, rfl, by omega, h.1.2⟩
end Go.Proofs.Ytnlllcgcaddhmaa.ks
