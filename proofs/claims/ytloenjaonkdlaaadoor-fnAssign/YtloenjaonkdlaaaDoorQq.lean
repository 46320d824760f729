/- inTurn of the program at lists of any length: it asks each number's variable (for ReadAssign, whose list may have 48 literals). -/
import Derived.Test.YtloenjaonkdlaaaDoorCls
import Derived.Test.YtloenjaonkdlaaaDoorLits
namespace Go.Proofs.YtloenjaonkdlaaaDoor.qq
open Go.ChangeShapes Go.WideShapes Go.ChangeAt Go.RowKit
open Go.Proofs.YtloenjaonkdlaaaDoor.lits (varI okB okB_iff)
open Go.Proofs.YtloenjaonkdlaaaDoor.sl (Sl Own ints hide unhide ret_int ret_bool grown_refl grown_trans)
set_option linter.unusedVariables false
def varB (P : List Int) : Bool := decide (∀ i, i < P.length → varI (P.getD i 0) = (i : Int) + 1)
theorem turn_hit {P : List Int} {i : Nat} (hi : i < P.length) (h : ¬ varI (P.getD i 0) = (i : Int) + 1) : varB P = false := decide_eq_false fun q => h (q i hi)
theorem turn_end {P : List Int} {k : Nat} (hk : ¬ k < P.length) (h : ∀ i, i < k → varI (P.getD i 0) = (i : Int) + 1) : varB P = true := decide_eq_true fun i hi => h i (by omega)
set_option maxHeartbeats 1000000 in
theorem inTurn (v : Value) (P : List Int) (w : World) (h24 : P.length ≤ 1048576) (hv : Sl w v P) :
    Calls Tryd.prog 72 #[v] w fun e w' => e = .returned (.bool (varB P)) ∧ w' = w := by
  obtain ⟨a, cap, rfl, ha⟩ := hv
  have HA := hide ha
  clear ha
  go_enter Tryd.func72, Tryd.ntmps72
  go_wp2
  go_loop [7] (fun i => ∃ k : Nat, k ≤ P.length ∧ i = .int .i64 k ∧ Hid (∀ i, i < k → varI (P.getD i 0) = (i : Int) + 1)) (fun i => P.length - (intOf i).toNat)
  case atStart => exact ⟨0, Nat.zero_le _, rfl, fun i hi => absurd hi (Nat.not_lt_zero _)⟩
  case round =>
    obtain ⟨k, hk, rfl, hall⟩ := hrel
    by_cases hlt : k < P.length
    · rcases unhide HA with h | ⟨b, off, rfl, hb, hcb⟩
      · rw [h] at hlt
        simp at hlt
      · have c1 := hcb k hlt
        have hi' : (k : Int) < (P.length : Int) := by omega
        have th := turn_hit hlt
        have NX : Hid ((varI (P.getD k 0) = (k : Int) + 1) → ∀ i, i < k + 1 → varI (P.getD i 0) = (i : Int) + 1) := fun h i hi => by
          by_cases e : i = k
          · rw [e]; exact h
          · exact unhide hall i (by omega)
        generalize P.getD k 0 = x at *
        have CV := hide (lits.implLitVar x w)
        by_cases hx : varI x = (k : Int) + 1
        · have R := hide (unhide NX hx)
          rw [hx] at CV
          have hne : ¬ ((k : Int) + 1 ≠ (k : Int) + 1) := by omega
          clear hcb hall HA th hx NX
          go_wp2_with fail
          refine (unhide CV).mono ?_; rintro e w' ⟨rfl, hw⟩; have hw' := hw.symm; clear hw; subst hw'
          go_wp2_with fail
          go_round
          case rel => exact ⟨k + 1, by omega, by go_num, R⟩
          case measure => simp [intOf]; omega
        · have R := hide (th hx)
          have hne : (varI x != (k : Int) + 1) = true := by simpa using hx
          clear hcb hall HA th NX
          generalize varI x = y at *
          go_wp2_with fail
          refine (unhide CV).mono ?_; rintro e w' ⟨rfl, hw⟩; have hw' := hw.symm; clear hw; subst hw'
          go_wp2_with fail
          go_ret
          exact ⟨ret_bool (unhide R).symm, rfl⟩
    · have hi' : ¬ (k : Int) < (P.length : Int) := by omega
      have R := hide (turn_end hlt (unhide hall))
      clear HA hall
      go_wp2_with fail
      go_ret
      exact ⟨ret_bool (unhide R).symm, rfl⟩
end Go.Proofs.YtloenjaonkdlaaaDoor.qq
