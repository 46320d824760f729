/- The laws' own functions on lists of numbers (eqIntS, markIntS, heldIntS) and the model's ClauseHas, at lists of at most 2^21 numbers; no other condition. -/
import Derived.Test.YtnlllcgcaddhmaaGreatDoorJOc
namespace Go.Proofs.YtnlllcgcaddhmaaGreatDoor.slw
open Go.ChangeShapes Go.WideShapes Go.ChangeAt Go.RowKit
open Go.Proofs.YtnlllcgcaddhmaaGreatDoor.sl
open cls (hasB)
set_option linter.unusedVariables false
theorem specClauseHas (v : Value) (L : List Int) (x : Int) (w : World) (hL : L.length ≤ 2097152) (hv : Sl w v L) :
  Calls Tryz.prog 134 #[v, .int .i64 x] w fun e w' => e = .returned (.bool (hasB L x)) ∧ w' = w := by
 obtain ⟨a, cap, rfl, ha⟩ := hv
 have HA := hide ha
 clear ha
 go_enter Tryz.func134, Tryz.ntmps134
 go_wp2
 go_loop [5] (fun i => ∃ k : Nat, k ≤ L.length ∧ i = .int .i64 k ∧ Hid (¬ x ∈ L.take k)) (fun i => L.length - (intOf i).toNat)
 case atStart => exact ⟨0, Nat.zero_le _, rfl, by show ¬ _; simp⟩
 case round =>
  obtain ⟨k, hk, rfl, hall⟩ := hrel
  by_cases hlt : k < L.length
  ·rcases unhide HA with h | ⟨b, off, rfl, hb, hcb⟩
   ·rw [h] at hlt
    simp at hlt
   ·have c1 := hcb k hlt
    have hi' : (k : Int) < (L.length : Int) := by omega
    have h1 := cls.has_hit L k x hlt
    have h2 := cls.has_step L k x hlt (unhide hall)
    generalize L.getD k 0 = y at *
    by_cases hx : y = x
    ·have H := hide (h1 hx)
     have hb' : (y == x) = true := by simpa using hx
     clear h1 h2 hx hcb HA
     go_wp2
     go_ret
     exact ⟨ret_bool (unhide H).symm, rfl⟩
    ·have H := hide (h2 hx)
     have hb' : (y == x) = false := by simpa using hx
     clear h1 h2 hx hcb HA
     go_wp2
     go_round
     case rel => exact ⟨k + 1, by omega, by go_num, H⟩
     case measure => simp [intOf]; omega
  ·have hi' : ¬ (k : Int) < (L.length : Int) := by omega
   have HR := hide (cls.has_no L k x hlt (unhide hall))
   clear HA
   go_wp2
   go_ret
   exact ⟨ret_bool (unhide HR).symm, rfl⟩
end Go.Proofs.YtnlllcgcaddhmaaGreatDoor.slw
