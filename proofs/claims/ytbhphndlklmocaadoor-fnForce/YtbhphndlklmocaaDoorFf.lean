/- What Free (of the program and of its model) answers at every formula that holds at most 2^20 values and every list of at most 2^20 numbers, where the library's table of places lies as its text lays it. -/
import Derived.Test.YtbhphndlklmocaaDoorFm
import Derived.Test.YtbhphndlklmocaaDoorVt
import Derived.Test.YtbhphndlklmocaaDoorSrtS
import Derived.Test.YtbhphndlklmocaaDoorApp
import Derived.Deep.RegionHeld3
namespace Go.Proofs.YtbhphndlklmocaaDoor.ff
open Go.ChangeShapes Go.WideShapes Go.ChangeAt Go.RowKit
open Go.Proofs.YtbhphndlklmocaaDoor.lits (okB okB_iff okB_yes)
open Go.Proofs.YtbhphndlklmocaaDoor.sl (Sl Own ints hide unhide ret_int ret_bool grown_refl grown_trans grown_drewN)
open Go.Proofs.YtbhphndlklmocaaDoor.css (Sls tot)
open Go.Proofs.YtbhphndlklmocaaDoor.cf (Box)
open Go.Proofs.YtbhphndlklmocaaDoor.cls (hasB)
open Go.Proofs.YtbhphndlklmocaaDoor.bset (setOf setOf_lt)
open Go.Proofs.YtbhphndlklmocaaDoor.ok (cnfB)
open Go.Proofs.YtbhphndlklmocaaDoor.wo (Made)
open Go.Proofs.YtbhphndlklmocaaDoor.srt (srt Tab oppN oppN_lt andN andN_eq orN_eq or_lt)
open Go.Proofs.YtbhphndlklmocaaDoor.fm (freeN freeL pureN pureL cnf_facts)
open Go.Proofs.YtbhphndlklmocaaDoor.cnt (ev)
set_option linter.unusedVariables false

theorem freeL_no {n : Int} {LL : List (List Int)} {L : List Int} (h : cnfB n LL = false) : freeL n LL L = [] := by unfold fm.freeL; rw [h]; rfl
theorem freeL_yes {m : Nat} {LL : List (List Int)} {L : List Int} (h : cnfB (m : Int) LL = true) : freeL (m : Int) LL L = srt (freeN m L) 48 := by unfold fm.freeL; rw [h]; rfl
theorem Made.low {w w1 w2 : World} {v : Value} {L : List Int} (g : w.grownBy w1 none) (h : Made w1 w2 v L) : Made w w2 v L :=
  ⟨css.own_mono h.1 g.size, grown_trans g h.2⟩
theorem Made.up {w w1 w2 : World} {v : Value} {L : List Int} (h : Made w w1 v L) (g : w1.grownBy w2 none) : Made w w2 v L :=
  ⟨h.1.kept g (by cases v.ownBlock with | none => exact .inl rfl | some k => exact .inr (by simp)), grown_trans h.2 g⟩

end Go.Proofs.YtbhphndlklmocaaDoor.ff
