/- What CnfOk (of the program and of its model) answers at every formula that holds at most 2^20 values; no other condition. -/
import Derived.Test.YtmmfhcfanbfniaaCf
import Derived.Test.YtmmfhcfanbfniaaLits
namespace Go.Proofs.Ytmmfhcfanbfniaa.ok
open Go.ChangeShapes Go.WideShapes Go.ChangeAt Go.RowKit
open Go.Proofs.Ytmmfhcfanbfniaa.lits (okB varI)
open Go.Proofs.Ytmmfhcfanbfniaa.sl (Sl Own ints marks hide unhide ret_int ret_bool grown_refl grown_trans grown_drewN below_of of_below)
open Go.Proofs.Ytmmfhcfanbfniaa.css (Sls OwnS Outs tot sumLen marksS)
open Go.Proofs.Ytmmfhcfanbfniaa.cf (Box)
set_option linter.unusedVariables false

/-- whether x is a literal of the variables 1 to n -/
def litIn (n x : Int) : Bool := okB x && decide (varI x ≤ n)
/-- whether a list is a clause of them -/
def clB (n : Int) (L : List Int) : Bool := L.all (litIn n) && decide (L.length ≤ 48)
/-- whether a formula is one -/
def cnfB (n : Int) (LL : List (List Int)) : Bool := decide (0 ≤ n ∧ n ≤ 24) && decide (LL.length ≤ 120) && LL.all (clB n)

theorem all_hit {α : Type} (f : α → Bool) (L : List α) (k : Nat) (d : α) (h : k < L.length) (hx : f (L.getD k d) = false) : L.all f = false := by
  rw [List.all_eq_false]
  refine ⟨L[k], List.getElem_mem h, ?_⟩
  rw [show L.getD k d = L[k] by simp [h]] at hx
  simp [hx]
theorem all_step {α : Type} (f : α → Bool) (L : List α) (k : Nat) (d : α) (h : k < L.length) (ha : (L.take k).all f = true) (hx : f (L.getD k d) = true) : (L.take (k + 1)).all f = true := by
  rw [List.take_succ_eq_append_getElem h, List.all_append, ha]
  rw [show L.getD k d = L[k] by simp [h]] at hx
  simp [hx]
theorem all_end {α : Type} (f : α → Bool) (L : List α) (k : Nat) (h : ¬ k < L.length) (ha : (L.take k).all f = true) : L.all f = true := by
  rw [List.take_of_length_le (by omega)] at ha
  exact ha
theorem clB_hit {n : Int} {L : List Int} (h : L.all (litIn n) = false) : clB n L = false := by unfold clB; rw [h]; rfl
theorem clB_end {n : Int} {L : List Int} (h : L.all (litIn n) = true) : clB n L = decide (L.length ≤ 48) := by unfold clB; rw [h]; rfl
theorem dec_len (n : Nat) (c : Nat) : decide ((n : Int) ≤ (c : Int)) = decide (n ≤ c) := by simp

theorem l01In (x a b : Int) (w : World) : Calls Try.prog 80 #[.int .i64 x, .int .i64 a, .int .i64 b] w fun e w' => e = .returned (.bool (decide (a ≤ x ∧ x ≤ b))) ∧ w' = w := by
  by_cases h1 : a ≤ x
  · by_cases h2 : x ≤ b
    · rw [decide_eq_true ⟨h1, h2⟩]
      go_enter Try.func80, Try.ntmps80
      go_wp2
      go_ret
      exact ⟨rfl, rfl⟩
    · rw [decide_eq_false (fun h => h2 h.2)]
      go_enter Try.func80, Try.ntmps80
      go_wp2
      go_ret
      exact ⟨rfl, rfl⟩
  · rw [decide_eq_false (fun h => h1 h.1)]
    go_enter Try.func80, Try.ntmps80
    go_wp2
    go_ret
    exact ⟨rfl, rfl⟩

theorem literalOf (x n : Int) (w : World) : Calls Try.prog 101 #[.int .i64 x, .int .i64 n] w fun e w' => e = .returned (.bool (litIn n x)) ∧ w' = w := by
  have cx := lits.implLitOk x
  have cv := lits.implLitVar x
  unfold litIn
  cases hx : okB x
  · rw [hx] at cx
    have CX := hide cx
    clear cx cv hx
    go_enter Try.func101, Try.ntmps101
    go_wp2_with (go_at_call 97; refine (unhide CX _).mono ?_; rintro e w' ⟨rfl, rfl⟩)
    go_ret
    exact ⟨rfl, rfl⟩
  · rw [hx] at cx
    have CX := hide cx
    have CV := hide cv
    clear cx cv hx
    generalize varI x = y at *
    go_enter Try.func101, Try.ntmps101
    go_wp2_with (first | (go_at_call 97; refine (unhide CX _).mono ?_; rintro e w' ⟨rfl, rfl⟩) | (go_at_call 90; refine (unhide CV _).mono ?_; rintro e w' ⟨rfl, rfl⟩))
    go_ret
    exact ⟨rfl, rfl⟩

theorem literalsOf (v : Value) (L : List Int) (n : Int) (w : World) (hL : L.length ≤ 1048576) (hv : Sl w v L) :
    Calls Try.prog 91 #[v, .int .i64 n] w fun e w' => e = .returned (.bool (L.all (litIn n))) ∧ w' = w := by
  obtain ⟨a, cap, rfl, ha⟩ := hv
  have HA := hide ha
  clear ha
  go_enter Try.func91, Try.ntmps91
  go_wp2
  go_loop [9] (fun i => ∃ k : Nat, k ≤ L.length ∧ i = .int .i64 k ∧ Hid ((L.take k).all (litIn n) = true)) (fun i => L.length - (intOf i).toNat)
  case atStart => exact ⟨0, Nat.zero_le _, rfl, by show _ = _; simp⟩
  case round =>
    obtain ⟨k, hk, rfl, hall⟩ := hrel
    by_cases hlt : k < L.length
    · rcases unhide HA with h | ⟨b, off, rfl, hb, hcb⟩
      · rw [h] at hlt
        simp at hlt
      · have c1 := hcb k hlt
        have hi' : (k : Int) < (L.length : Int) := by omega
        have h1 := all_hit (litIn n) L k 0 hlt
        have h2 := all_step (litIn n) L k 0 hlt (unhide hall)
        generalize L.getD k 0 = x at *
        have cx := literalOf x n
        cases hx : litIn n x
        · rw [hx] at cx
          have CX := hide cx
          have H := hide (h1 hx)
          clear cx h1 h2 hx hcb HA hall
          go_wp2_with (go_at_call 101; refine (unhide CX _).mono ?_; rintro e w' ⟨rfl, rfl⟩)
          go_ret
          exact ⟨ret_bool (unhide H).symm, rfl⟩
        · rw [hx] at cx
          have CX := hide cx
          have H := hide (h2 hx)
          clear cx h1 h2 hx hcb HA hall
          go_wp2_with (go_at_call 101; refine (unhide CX _).mono ?_; rintro e w' ⟨rfl, rfl⟩)
          go_round
          case rel => exact ⟨k + 1, by omega, by go_num, H⟩
          case measure => simp [intOf]; omega
    · have hi' : ¬ (k : Int) < (L.length : Int) := by omega
      have HR := hide (all_end (litIn n) L k hlt (unhide hall))
      clear HA hall
      go_wp2
      go_ret
      exact ⟨ret_bool (unhide HR).symm, rfl⟩

end Go.Proofs.Ytmmfhcfanbfniaa.ok
