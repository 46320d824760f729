/- Color on both sides, at any arguments. -/
import Derived.Test.YtmmmldcnadidkaaEh
import Derived.Test.YtmmmldcnadidkaaEd
namespace Go.Proofs.Ytmmmldcnadidkaa.t2
open Go.ChangeShapes Go.WideShapes Go.ChangeAt Go.RowKit
open Go.Proofs.Ytmmmldcnadidkaa.lits (okB okB_iff)
open Go.Proofs.Ytmmmldcnadidkaa.sl (Sl Own ints hide unhide ret_int ret_bool grown_refl grown_trans grown_drewN)
open Go.Proofs.Ytmmmldcnadidkaa.css (Sls OwnS tot Apart own_ne own_ne' own_kind own_mono)
open Go.Proofs.Ytmmmldcnadidkaa.cf (Box)
open Go.Proofs.Ytmmmldcnadidkaa.ed (Eds)
set_option linter.unusedVariables false

set_option maxHeartbeats 4000000 in
theorem specColorX (n k : Int) (E : Nat) (f : Nat → Int) (v : Value) (w : World) (C : List (List Int)) (h : colX n k = true ∨ 120 < E) (hE : E ≤ 9223372036854775807) (hv : Eds w v E f) :
    Calls Try.prog 5 #[.int .i64 n, v, .int .i64 k] w fun e w' => CnfE w false (n * k) C e w' := by
  have bR := Box.new 26 w (.int .i64 0) (.slice none 0 0)
  obtain ⟨a, cap, rfl, _⟩ := hv
  have cs : ¬ (1 ≤ n ∧ n ≤ 12) ∨ ((1 ≤ n ∧ n ≤ 12) ∧ ¬ (1 ≤ k ∧ k ≤ 6)) ∨ ((1 ≤ n ∧ n ≤ 12) ∧ (1 ≤ k ∧ k ≤ 6) ∧ 24 < n * k) ∨ ((1 ≤ n ∧ n ≤ 12) ∧ (1 ≤ k ∧ k ≤ 6) ∧ ¬ 24 < n * k ∧ 120 < E) := by
    rcases h with h | h
    · have h := of_decide_eq_true h
      omega
    · omega
  have hm : (1 ≤ n ∧ n ≤ 12) → (1 ≤ k ∧ k ≤ 6) → 0 ≤ n * k ∧ n * k ≤ 72 := by
    rintro ⟨h1, h2⟩ ⟨h3, h4⟩
    obtain ⟨n', rfl⟩ := Int.eq_ofNat_of_zero_le (show 0 ≤ n by omega)
    obtain ⟨k', rfl⟩ := Int.eq_ofNat_of_zero_le (show 0 ≤ k by omega)
    have := Nat.mul_le_mul (show n' ≤ 12 by omega) (show k' ≤ 6 by omega)
    rw [← Int.natCast_mul]
    omega
  have BR := hide bR
  clear h bR
  rcases cs with h1 | ⟨h1, h2⟩ | ⟨h1, h2, h3⟩ | ⟨h1, h2, h3, h4⟩
  · have IN := hide (in_b (decide_eq_false h1))
    clear hm h1
    go_enter Try.func5, Try.ntmps5
    go_wp2_with fail
    refine (unhide IN _).mono ?_; rintro e w' ⟨rfl, hw⟩; have hw' := hw.symm; clear hw; subst hw'
    go_wp2_with fail
    (try simp only [Exit.inBlock, Exit.then])
    exact bodyPost_ret (cf.ret_box2 rfl rfl (unhide BR)) rfl (cnf_no w)
  · have IN := hide (in_b (decide_eq_true h1))
    have IK := hide (in_b (decide_eq_false h2))
    clear hm h1 h2
    go_enter Try.func5, Try.ntmps5
    go_wp2_with fail
    refine (unhide IN _).mono ?_; rintro e w' ⟨rfl, hw⟩; have hw' := hw.symm; clear hw; subst hw'
    go_wp2_with fail
    refine (unhide IK _).mono ?_; rintro e w' ⟨rfl, hw⟩; have hw' := hw.symm; clear hw; subst hw'
    go_wp2_with fail
    (try simp only [Exit.inBlock, Exit.then])
    exact bodyPost_ret (cf.ret_box2 rfl rfl (unhide BR)) rfl (cnf_no w)
  · have IN := hide (in_b (decide_eq_true h1))
    have IK := hide (in_b (decide_eq_true h2))
    obtain ⟨m0, m1⟩ := hm h1 h2
    generalize hz : n * k = z at *
    clear hm h1 h2
    go_enter Try.func5, Try.ntmps5
    go_wp2_with fail
    refine (unhide IN _).mono ?_; rintro e w' ⟨rfl, hw⟩; have hw' := hw.symm; clear hw; subst hw'
    go_wp2_with fail
    refine (unhide IK _).mono ?_; rintro e w' ⟨rfl, hw⟩; have hw' := hw.symm; clear hw; subst hw'
    go_wp2_with fail
    (try simp only [Exit.inBlock, Exit.then])
    exact bodyPost_ret (cf.ret_box2 rfl rfl (unhide BR)) rfl (cnf_no w)
  · have IN := hide (in_b (decide_eq_true h1))
    have IK := hide (in_b (decide_eq_true h2))
    obtain ⟨m0, m1⟩ := hm h1 h2
    have h4' : (120 : Int) < (E : Int) := by omega
    generalize hz : n * k = z at *
    clear hm h1 h2 h4
    go_enter Try.func5, Try.ntmps5
    go_wp2_with fail
    refine (unhide IN _).mono ?_; rintro e w' ⟨rfl, hw⟩; have hw' := hw.symm; clear hw; subst hw'
    go_wp2_with fail
    refine (unhide IK _).mono ?_; rintro e w' ⟨rfl, hw⟩; have hw' := hw.symm; clear hw; subst hw'
    go_wp2_with fail
    (try simp only [Exit.inBlock, Exit.then])
    exact bodyPost_ret (cf.ret_box2 rfl rfl (unhide BR)) rfl (cnf_no w)
theorem col_tot {n k E : Nat} {f : Nat → Int} (hk : k ≤ 6) {b : Bool} (h : b = true → (colC n k E f).length ≤ 120) : tot (if b then colC n k E f else []) ≤ 1048576 := by
  cases b
  · simp [tot]
  · refine tot_few (h rfl) fun C hC => ?_
    unfold colC at hC
    rw [if_pos rfl, List.mem_append] at hC
    rcases hC with hC | hC
    · unfold vertsT at hC
      rw [List.mem_flatMap] at hC
      obtain ⟨i, _, hC⟩ := hC
      unfold vertC at hC
      rw [List.mem_append] at hC
      rcases hC with hC | hC
      · exact least_len (by rw [rowL_len]; omega) C hC
      · exact most_len (by rw [rowL_len]; omega) C hC
    · unfold edgesT at hC
      rw [List.mem_flatMap] at hC
      obtain ⟨j, _, hC⟩ := hC
      unfold edgeC at hC
      rw [List.mem_map] at hC
      obtain ⟨c, _, rfl⟩ := hC
      simp
/-- both sides of Color answer the same, at any arguments -/
theorem bothColor (n k : Int) (E : Nat) (f : Nat → Int) (hE : E ≤ 9223372036854775807) : ∃ (N : Int) (b : Bool) (R : List (List Int)), tot R ≤ 1048576 ∧
    (∀ w v, Eds w v E f → Calls Try.prog 5 #[.int .i64 n, v, .int .i64 k] w fun e w' => ∃ u, e = .returned (.tuple #[.agg #[.int .i64 N, u], .bool b]) ∧ OwnS w.heap.size w'.heap.size w' u R ∧ w.grownBy w' none)
    ∧ ∀ w v, Eds w v E f → Calls Try.prog 7 #[.int .i64 n, v, .int .i64 k] w fun e w' => ∃ u, e = .returned (.tuple #[.agg #[.int .i64 N, u], .bool b]) ∧ OwnS w.heap.size w'.heap.size w' u R ∧ w.grownBy w' none := by
  by_cases h : colX n k = true
  · exact ⟨_, false, _, by simp [tot], fun w v hv => (specColorX n k E f v w [] (.inl h) hE hv).mono fun e w' h => cnfE_of h, fun w v hv => (implColorX n k E f v w [] h hv).mono fun e w' h => cnfE_of h⟩
  · have h' : ¬ (n < 1 ∨ 12 < n ∨ k < 1 ∨ 6 < k ∨ 24 < n * k) := fun hh => h (decide_eq_true hh)
    obtain ⟨m, rfl⟩ := Int.eq_ofNat_of_zero_le (show 0 ≤ n by omega)
    obtain ⟨j, rfl⟩ := Int.eq_ofNat_of_zero_le (show 0 ≤ k by omega)
    have hmj : m * j ≤ 24 := by
      have e : (m : Int) * (j : Int) = ((m * j : Nat) : Int) := by rw [Int.natCast_mul]
      omega
    by_cases h120 : E ≤ 120
    · refine ⟨_, edsB m f E && decide ((colC m j E f).length ≤ 120), _, col_tot (n := m) (k := j) (E := E) (f := f) (by omega) (b := edsB m f E && decide ((colC m j E f).length ≤ 120)) (fun hh => ?_), fun w v hv => (specColor m j E f v w (by omega) (by omega) (by omega) (by omega) hmj h120 hv).mono fun e w' h => cnfE_of h, fun w v hv => ?_⟩
      · rw [Bool.and_eq_true, decide_eq_true_eq] at hh
        exact hh.2
      · cases he : edsB m f E
        · exact (implColorN m j E f v w (by omega) (by omega) (by omega) (by omega) hmj hE hv _ _ (by rw [he, Bool.and_false])).mono fun e w' h => cnfE_of h
        · have q := implColor m j E f v w (by omega) (by omega) (by omega) (by omega) hmj h120 hv he
          rw [Bool.true_and]
          exact q.mono fun e w' h => cnfE_of h
    · exact ⟨_, false, _, by simp [tot], fun w v hv => (specColorX m j E f v w [] (.inr (by omega)) hE hv).mono fun e w' h => cnfE_of h, fun w v hv => (implColorN m j E f v w (by omega) (by omega) (by omega) (by omega) hmj hE hv _ _ (by rw [decide_eq_false h120, Bool.false_and])).mono fun e w' h => cnfE_of h⟩
end Go.Proofs.Ytmmmldcnadidkaa.t2
