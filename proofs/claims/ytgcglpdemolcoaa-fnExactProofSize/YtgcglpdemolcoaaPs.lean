/- What ProofSize answers, the program's and the model's, at every list of lists that holds at most 2^20 values. -/
import Derived.Test.YtgcglpdemolcoaaCss
namespace Go.Proofs.Ytgcglpdemolcoaa.ps
open Go.ChangeShapes Go.WideShapes Go.ChangeAt Go.RowKit
open Go.Proofs.Ytgcglpdemolcoaa.css (Sls tot sumLen)
open Go.Proofs.Ytgcglpdemolcoaa.sl (Sl hide unhide grown_refl grown_trans)
set_option linter.unusedVariables false
theorem sum_step (LL : List (List Int)) (k : Nat) (h : k < LL.length) : sumLen (LL.take (k + 1)) = sumLen (LL.take k) + (LL.getD k []).length := by
  rw [css.take_snoc LL k h]
  simp [css.sumLen]
theorem sum_le (LL : List (List Int)) (k : Nat) : sumLen (LL.take k) ≤ sumLen LL := css.sumLen_take LL k
set_option maxHeartbeats 1600000 in
theorem specProofSize (v : Value) (LL : List (List Int)) (w : World) (hn : tot LL ≤ 1048576) (hv : Sls w v LL) :
    Calls Try.prog 5 #[v] w fun e w' => e = .returned (.int .i64 (sumLen LL : Int)) ∧ w' = w := by
  have hl := Nat.le_trans (css.tot_len LL) hn
  have hs := Nat.le_trans (css.sumLen_le LL) hn
  obtain ⟨a, cap, rfl, ha⟩ := hv
  have HA := hide ha
  clear ha
  go_enter Try.func5, Try.ntmps5
  go_wp2
  go_loop [3, 4] (fun s i => ∃ k : Nat, k ≤ LL.length ∧ s = .int .i64 (sumLen (LL.take k) : Int) ∧ i = .int .i64 (k : Int)) (fun _ i => LL.length - (intOf i).toNat)
  case atStart => exact ⟨0, Nat.zero_le _, rfl, rfl⟩
  case round =>
    obtain ⟨k, hk, rfl, rfl⟩ := hrel
    by_cases hlt : k < LL.length
    · rcases unhide HA with h | ⟨b, off, rfl, hb, hcb⟩
      · rw [h] at hlt
        simp at hlt
      · obtain ⟨u, hu, su⟩ := hcb k hlt
        obtain ⟨ua, uc, rfl, _⟩ := su
        have hi' : (k : Int) < (LL.length : Int) := by omega
        have S1 := sum_step LL k hlt
        have S2 := sum_le LL (k + 1)
        have HS := hide S1
        have hle : (sumLen (LL.take k) : Int) + ((LL.getD k []).length : Int) ≤ 1048576 := by omega
        clear S1 S2 hcb
        generalize sumLen (LL.take k) = s at *
        generalize (LL.getD k []).length = q at *
        go_wp2
        go_round
        case rel => exact ⟨k + 1, by omega, by rw [unhide HS]; go_num, by go_num⟩
        case measure => simp [intOf]; omega
    · have hi' : ¬ (k : Int) < (LL.length : Int) := by omega
      have e : LL.take k = LL := List.take_of_length_le (by omega)
      rw [e]
      go_wp2
      go_ret
      exact ⟨rfl, rfl⟩
set_option maxHeartbeats 1600000 in
theorem implProofSize (v : Value) (LL : List (List Int)) (w : World) (hn : tot LL ≤ 1048576) (hv : Sls w v LL) :
    Calls Try.prog 7 #[v] w fun e w' => e = .returned (.int .i64 (sumLen LL : Int)) ∧ w' = w := by
  have hl := Nat.le_trans (css.tot_len LL) hn
  have hs := Nat.le_trans (css.sumLen_le LL) hn
  obtain ⟨a, cap, rfl, ha⟩ := hv
  have HA := hide ha
  clear ha
  go_enter Try.func7, Try.ntmps7
  go_wp2
  go_loop [3, 8] (fun s i => ∃ k : Nat, k ≤ LL.length ∧ s = .int .i64 (sumLen (LL.take k) : Int) ∧ i = .int .i64 (k : Int)) (fun _ i => LL.length - (intOf i).toNat)
  case atStart => exact ⟨0, Nat.zero_le _, rfl, rfl⟩
  case round =>
    obtain ⟨k, hk, rfl, rfl⟩ := hrel
    by_cases hlt : k < LL.length
    · rcases unhide HA with h | ⟨b, off, rfl, hb, hcb⟩
      · rw [h] at hlt
        simp at hlt
      · obtain ⟨u, hu, su⟩ := hcb k hlt
        obtain ⟨ua, uc, rfl, _⟩ := su
        have hi' : (k : Int) < (LL.length : Int) := by omega
        have S1 := sum_step LL k hlt
        have S2 := sum_le LL (k + 1)
        have HS := hide S1
        have hle : (sumLen (LL.take k) : Int) + ((LL.getD k []).length : Int) ≤ 1048576 := by omega
        clear S1 S2 hcb
        generalize sumLen (LL.take k) = s at *
        generalize (LL.getD k []).length = q at *
        go_wp2
        go_round
        case rel => exact ⟨k + 1, by omega, by rw [unhide HS]; go_num, by go_num⟩
        case measure => simp [intOf]; omega
    · have hi' : ¬ (k : Int) < (LL.length : Int) := by omega
      have e : LL.take k = LL := List.take_of_length_le (by omega)
      rw [e]
      go_wp2
      go_ret
      exact ⟨rfl, rfl⟩
end Go.Proofs.Ytgcglpdemolcoaa.ps
