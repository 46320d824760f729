/- What Clash (of the program and of its model) answers at every list of at most 2^20 numbers; no other condition. -/
import Derived.Test.YtnlllcgcaddhmaaGreatDoorJXFm
namespace Go.Proofs.YtnlllcgcaddhmaaGreatDoor.fc
open Go.ChangeShapes Go.WideShapes Go.ChangeAt Go.RowKit
open lits (okB okB_iff okB_yes)
open sl (Sl ints hide unhide ret_int ret_bool grown_refl grown_trans grown_drewN)
open cls (hasB)
open bset (setOf setOf_lt)
open fm (clashB)
set_option linter.unusedVariables false
theorem specClash (v : Value) (L : List Int) (w : World) (hL : L.length ≤ 1048576) (hv : Sl w v L) :
  Calls Tryz.prog 139 #[v] w fun e w' => e = .returned (.bool (clashB L)) ∧ w' = w := by
 have CH := hide (fun x => cls.specClauseHas v L x w hL hv)
 obtain ⟨a, cap, rfl, ha⟩ := hv
 have HA := hide ha
 clear ha
 go_enter Tryz.func139, Tryz.ntmps139
 go_wp2
 go_loop [3] (fun i => ∃ k : Nat, k ≤ L.length ∧ i = .int .i64 k ∧ Hid ((L.take k).any (fun x => okB x && hasB L (-x)) = false)) (fun i => L.length - (intOf i).toNat)
 case atStart => exact ⟨0, Nat.zero_le _, rfl, by show _ = _; simp⟩
 case round =>
  obtain ⟨k, hk, rfl, hall⟩ := hrel
  by_cases hlt : k < L.length
  ·rcases unhide HA with h | ⟨b, off, rfl, hb, hcb⟩
   ·rw [h] at hlt
    simp at hlt
   ·have c1 := hcb k hlt
    have hi' : (k : Int) < (L.length : Int) := by omega
    have h1 := tr.any_hit (fun x => okB x && hasB L (-x)) L k 0 hlt
    have h2 := tr.any_step (fun x => okB x && hasB L (-x)) L k 0 hlt (unhide hall)
    generalize L.getD k 0 = x at *
    have cx := lits.specLitOk x
    have ch := unhide CH (-x)
    cases hx : okB x
    ·rw [hx] at cx
     have CX := hide cx
     have H := hide (h2 (by show (okB x && _) = _; rw [hx]; rfl))
     clear cx ch h1 h2 hx hcb HA hall CH
     go_wp2_with (go_at_call 175; refine (unhide CX _).mono ?_; rintro e w' ⟨rfl, rfl⟩)
     go_round
     case rel => exact ⟨k + 1, by omega, by go_num, H⟩
     case measure => simp [intOf]; omega
    ·rw [hx] at cx
     have CX := hide cx
     have hbd := okB_iff.1 hx
     obtain ⟨b0, b1, b2⟩ := hbd
     cases hh : hasB L (-x)
     ·rw [hh] at ch
      have C2 := hide ch
      have H := hide (h2 (by show (okB x && hasB L (-x)) = _; rw [hx, hh]; rfl))
      clear cx ch h1 h2 hx hh hcb HA hall CH
      go_wp2_with (first | (go_at_call 175; refine (unhide CX _).mono ?_; rintro e w' ⟨rfl, rfl⟩) | (go_at_call 134; refine (unhide C2).mono ?_; rintro e w' ⟨rfl, rfl⟩))
      go_round
      case rel => exact ⟨k + 1, by omega, by go_num, H⟩
      case measure => simp [intOf]; omega
     ·rw [hh] at ch
      have C2 := hide ch
      have H := hide (h1 (by show (okB x && hasB L (-x)) = _; rw [hx, hh]; rfl))
      clear cx ch h1 h2 hx hh hcb HA hall CH
      go_wp2_with (first | (go_at_call 175; refine (unhide CX _).mono ?_; rintro e w' ⟨rfl, rfl⟩) | (go_at_call 134; refine (unhide C2).mono ?_; rintro e w' ⟨rfl, rfl⟩))
      go_ret
      exact ⟨ret_bool (unhide H).symm, rfl⟩
  ·have hi' : ¬ (k : Int) < (L.length : Int) := by omega
   have HR := hide (tr.any_end (fun x => okB x && hasB L (-x)) L k hlt (unhide hall))
   clear HA hall CH
   go_wp2
   go_ret
   exact ⟨ret_bool (unhide HR).symm, rfl⟩
end Go.Proofs.YtnlllcgcaddhmaaGreatDoor.fc
