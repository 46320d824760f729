/- The laws' own functions on lists of numbers (eqIntS, markIntS, heldIntS) and the model's ClauseHas, at lists of at most 2^21 numbers; no other condition. -/
import Derived.Test.YtibpnocpafppaaaDoorJHc
import Derived.Test.YtibpnocpafppaaaDoorJXWz
import Derived.Deep.QuietTactic
import Derived.BigQuiet
import Derived.Deep.RegionHeld3
import Derived.Deep.RegionLaw
import Derived.WalkMore
import Derived.ArgAppend
import Derived.Test.YtibpnocpafppaaaDoorJXFm
import Derived.Test.YtibpnocpafppaaaDoorJXCnt
import Derived.Deep.RegionWith
import Derived.Test.YtibpnocpafppaaaDoorJXApp
namespace Go.Proofs.YtibpnocpafppaaaDoor.slw
open Go.ChangeShapes Go.WideShapes Go.ChangeAt Go.RowKit
open Go.Proofs.YtibpnocpafppaaaDoor.sl
open cls (hasB)
set_option linter.unusedVariables false
theorem specClauseHas (v : Value) (L : List Int) (x : Int) (w : World) (hL : L.length ≤ 2097152) (hv : Sl w v L) :
  Calls Tryd.prog 76 #[v, .int .i64 x] w fun e w' => e = .returned (.bool (hasB L x)) ∧ w' = w := by
 obtain ⟨a, cap, rfl, ha⟩ := hv
 have HA := hide ha
 clear ha
 go_enter Tryd.func76, Tryd.ntmps76
 go_wp2
 go_loop [5] (fun i => ∃ k : Nat, k ≤ L.length ∧ i = .int .i64 k ∧ Hid (¬ x ∈ L.take k)) (fun i => L.length - (intOf i).toNat)
 case atStart => exact ⟨0, Nat.zero_le _, rfl, by show ¬ _; simp⟩
 case round =>
  obtain ⟨k, hk, rfl, hall⟩ := hrel
  by_cases hlt : k < L.length
  ·rcases unhide HA with h | ⟨b, off, rfl, hb, hcb⟩
   ·rw [h] at hlt
    simp at hlt
   ·have c1 := hcb k hlt
    have hi' : (k : Int) < (L.length : Int) := by omega
    have h1 := cls.has_hit L k x hlt
    have h2 := cls.has_step L k x hlt (unhide hall)
    generalize L.getD k 0 = y at *
    by_cases hx : y = x
    ·have H := hide (h1 hx)
     have hb' : (y == x) = true := by simpa using hx
     clear h1 h2 hx hcb HA
     go_wp2
     go_ret
     exact ⟨ret_bool (unhide H).symm, rfl⟩
    ·have H := hide (h2 hx)
     have hb' : (y == x) = false := by simpa using hx
     clear h1 h2 hx hcb HA
     go_wp2
     go_round
     case rel => exact ⟨k + 1, by omega, by go_num, H⟩
     case measure => simp [intOf]; omega
  ·have hi' : ¬ (k : Int) < (L.length : Int) := by omega
   have HR := hide (cls.has_no L k x hlt (unhide hall))
   clear HA
   go_wp2
   go_ret
   exact ⟨ret_bool (unhide HR).symm, rfl⟩
end Go.Proofs.YtibpnocpafppaaaDoor.slw
namespace Go.Proofs.YtibpnocpafppaaaDoor.sp
open Go.ChangeShapes Go.WideShapes Go.ChangeAt Go.RowKit
open lits (okB varI okB_iff)
open bset (placeN placeN_le placeN_inj setOf setOf_lt setOf_has setOf_bit withN setOf_snoc)
open css (Sls tot)
open cf (Box)
open ok (cnfB litIn)
open wo (Made)
open Go.Proofs.YtibpnocpafppaaaDoor.wm
open sl (Sl Own ints hide unhide ret_int ret_bool grown_refl grown_trans grown_drewN)
set_option linter.unusedVariables false
theorem frc_len (Ss : List Nat) (n T : Nat) (p : List Int) : (frc Ss n T p).1.length ≤ p.length + n := by
 induction n generalizing T p with
 | zero => exact Nat.le_refl _
 | succ n ih =>
  cases hok : (unitN Ss T).2
  ·rw [frc_stop hok]
   exact Nat.le_add_right _ _
  ·by_cases h0 : (unitN Ss T).1 = 0
   ·rw [frc_end hok h0]
    exact Nat.le_add_right _ _
   ·rw [frc_more hok h0]
    have := ih (withN T (unitN Ss T).1) (p ++ [(unitN Ss T).1])
    rw [List.length_append] at this
    simp at this
    omega
theorem forceB_len (n : Int) (LL : List (List Int)) (L : List Int) : (forceB n LL L).1.length ≤ L.length + 49 := by
 unfold wm.forceB
 split
 ·exact frc_len _ _ _ _
 ·exact Nat.zero_le _
end Go.Proofs.YtibpnocpafppaaaDoor.sp
