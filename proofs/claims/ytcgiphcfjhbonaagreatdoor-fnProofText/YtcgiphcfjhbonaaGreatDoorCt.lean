/- What the model's CountTrue and Implies answer at every formula that holds at most 2^20 values; no other condition. -/
import Derived.Test.YtcgiphcfjhbonaaGreatDoorCnt
import Derived.Test.YtcgiphcfjhbonaaGreatDoorApp
import Derived.Deep.RegionHeld3
namespace Go.Proofs.YtcgiphcfjhbonaaGreatDoor.ct
open Go.ChangeShapes Go.WideShapes Go.ChangeAt Go.RowKit
open Go.Proofs.YtcgiphcfjhbonaaGreatDoor.sl (Sl Own ints marks hide unhide ret_int ret_bool grown_refl grown_trans grown_drewN below_of of_below)
open Go.Proofs.YtcgiphcfjhbonaaGreatDoor.css (Sls OwnS tot)
open Go.Proofs.YtcgiphcfjhbonaaGreatDoor.cf (Box)
open Go.Proofs.YtcgiphcfjhbonaaGreatDoor.ok (cnfB)
open Go.Proofs.YtcgiphcfjhbonaaGreatDoor.tr (cnfT clT)
open Go.Proofs.YtcgiphcfjhbonaaGreatDoor.wo (Made)
open Go.Proofs.YtcgiphcfjhbonaaGreatDoor.cnt (cntR asg)
set_option linter.unusedVariables false
attribute [local go_sem ↓] Go.wp_at_zero Go.wp_at_succ

theorem pow_bd {n : Nat} (h : n ≤ 14) : 2 ^ n ≤ 16384 := Nat.pow_le_pow_right (by decide) h
theorem cntR_le (m : Nat) (g : Nat → Bool) : cntR m g ≤ m := by
  unfold cnt.cntR
  have := List.length_filter_le g (List.range m)
  rwa [List.length_range] at this
/-- how often a formula is true -/
def countN (m : Nat) (LL : List (List Int)) : Nat := cntR (2 ^ m) (fun k => cnfT (asg m k []) LL)
def countI (n : Int) (LL : List (List Int)) : Int := if cnfB n LL && decide (n ≤ 14) then (countN n.toNat LL : Int) else -1

end Go.Proofs.YtcgiphcfjhbonaaGreatDoor.ct
