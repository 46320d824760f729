/- AtMost, AtLeast and Exactly of the program, at any number and any list of at most 2^20 numbers that somebody owns. -/
import Derived.Test.YtmmmldcnadidkaaTe
namespace Go.Proofs.Ytmmmldcnadidkaa.t2
open Go.ChangeShapes Go.WideShapes Go.ChangeAt Go.RowKit
open Go.Proofs.Ytmmmldcnadidkaa.lits (okB okB_iff)
open Go.Proofs.Ytmmmldcnadidkaa.sl (Sl Own ints hide unhide ret_int ret_bool grown_refl grown_trans grown_drewN)
open Go.Proofs.Ytmmmldcnadidkaa.css (Sls OwnS tot Apart own_ne own_ne' own_kind own_mono)
open Go.Proofs.Ytmmmldcnadidkaa.cf (Box)
set_option linter.unusedVariables false

def mostB (L : List Int) (k : Int) : Bool := listB L && decide (0 ≤ k) && decide ((mostC L k).length ≤ 120)
def leastB (L : List Int) (k : Int) : Bool := listB L && decide ((leastC L k).length ≤ 120)
def justB (L : List Int) (k : Int) : Bool := listB L && decide (0 ≤ k) && decide ((leastC L k ++ mostC L k).length ≤ 120)
theorem adds_fine {Cs : List (List Int)} : addsR false [] Cs = !decide (Cs.length ≤ 120) := by
  rw [adds_iff Cs [] (by simp), ← decide_not]
  exact decide_eq_decide.2 (by simp)
theorem adds_list {Cs : List (List Int)} (h : Cs.length ≤ 120) : addsC false [] Cs = Cs := by
  have := (adds_no Cs [] (by simpa using h)).2
  simpa using this
end Go.Proofs.Ytmmmldcnadidkaa.t2
