/- Plain mathematics of the law on the machine: what a whole run of a small formula comes to. -/
import Derived.Test.YtnlllcgcaddhmaaGreatDoorJQm
import Derived.Test.YtnlllcgcaddhmaaGreatDoorJXLs5
import Derived.Test.YtnlllcgcaddhmaaGreatDoorJDd
namespace Go.Proofs.YtnlllcgcaddhmaaGreatDoor.qh
open qm (machB vals MS stepM runM OkM Far found R C)
open as_ (tl tl_len)
open ok (cnfB)
open lq (solveL rest lst holds)
set_option linter.unusedVariables false
theorem good_cnf {n : Int} {M : List (List Int)} (h : 1 ≤ n ∧ n ≤ 6) (hl : (M.length : Int) ≤ 4 * n + 2) (hg : M.all (dcn.good n) = true) : cnfB n M = true := by
 unfold ok.cnfB
 rw [decide_eq_true (by omega), decide_eq_true (by omega), Bool.true_and, Bool.true_and, List.all_eq_true]
 intro L hL
 have := List.all_eq_true.1 hg L hL
 unfold dcn.good at this
 rw [Bool.and_eq_true, decide_eq_true_iff, List.all_eq_true] at this
 unfold ok.clB
 rw [Bool.and_eq_true, decide_eq_true_iff, List.all_eq_true]
 refine ⟨fun x hx => ?_, by omega⟩
 have q := this.2 x hx
 rw [decide_eq_true_iff] at q
 have ho : lits.okB x = true := by rw [lits.okB_iff]; omega
 unfold ok.litIn
 rw [ho, Bool.true_and, decide_eq_true_iff]
 unfold lits.varI
 rw [ho, if_pos rfl]
 split <;> omega
theorem pow6 {N : Nat} (h : N ≤ 6) : 2 ^ (N + 1) ≤ 4 * 2 ^ N ∧ 4 * 2 ^ N ≤ 256 ∧ 1 ≤ 2 ^ N := by
 have h1 := Nat.two_pow_pos N
 have h2 := Nat.pow_le_pow_right (n := 2) (by decide) h
 rw [Nat.pow_succ]
 have : (2 : Nat) ^ 6 = 64 := rfl
 omega
theorem found_start {N : Nat} {LL : List (List Int)} (h : cnfB (N : Int) LL = true) : found N LL ⟨[], 0, 0⟩ = solveL (N : Int) LL [] := by
 unfold qm.found
 rw [if_pos rfl]
 show (R N LL []).or none = _
 rw [Option.or_none]
 unfold qm.R lq.rest lq.solveL
 rw [h, Int.toNat_natCast]
 show (lst N (fun l => holds LL [] l)).map (fun l => l) = lst N (holds LL [])
 cases lst N (holds LL []) <;> rfl
structure Out (N : Nat) (LL : List (List Int)) (c : Nat) (A : List Int) (s k : Int) : Prop where
 res : res (N : Int) LL [] 0 0 (c : Int) = (tl 0 A, s, k)
 ok : machB (N : Int) LL (tl 0 A) s k = true
 st : (s = 1 ∧ solveL (N : Int) LL [] = some A) ∨ (s = 2 ∧ solveL (N : Int) LL [] = none)
 lt : k < (c : Int)
 cost : costI (N : Int) LL = k
 val : vals (tl 0 A) = A
 len : A.length ≤ N
theorem outcome {N : Nat} {LL : List (List Int)} (h6 : N ≤ 6) (h : cnfB (N : Int) LL = true) {c : Nat} (hc : c = 4 * 2 ^ N) : ∃ A s k, Out N LL c A s k := by
 obtain ⟨p1, p2, p3⟩ := pow6 h6
 have hlit := (cnf_parts h).2
 have f0 := Far.start N
 have far := f0.runs (LL := LL) (by omega) c
 rw [Nat.zero_add] at far
 have hend : (runM N LL c ⟨[], 0, 0⟩).st ≠ 0 := far.ends (by omega)
 have hfin := far.fin hend
 have hok := far.ok
 have hfd := qm.found_run (LL := LL) (by omega) hlit c f0.ok
 rw [found_start h] at hfd
 have hmore := qm.runs_more (n := N) (LL := LL) (m := ⟨[], 0, 0⟩) (i := c) (j := 1000000) hend (by omega)
 have hm0 : machB (N : Int) LL [] 0 0 = true := qm.ok_mach (m := ⟨[], 0, 0⟩) h f0.ok
 have hres := res_yes (cnt := (c : Int)) (show (machB (N : Int) LL [] 0 0 && decide (0 ≤ (c : Int) ∧ (c : Int) ≤ 1000000)) = true by rw [hm0, decide_eq_true (by omega)]; rfl)
 have hv0 : vals [] = [] := rfl
 rw [Int.toNat_natCast, Int.toNat_natCast, hv0] at hres
 obtain ⟨_, _, _, _, hcost⟩ := cost_yes h
 have hcost' : costI (N : Int) LL = (runM N LL c ⟨[], 0, 0⟩).k := by
  obtain ⟨N', e, _, _, q⟩ := cost_yes h
  have : N' = N := by omega
  subst this
  rw [q, hmore, if_neg hend]
 generalize runM N LL c ⟨[], 0, 0⟩ = F at *
 obtain ⟨A, s, k⟩ := F
 dsimp only at *
 refine ⟨A, s, k, hres, qm.ok_mach (m := ⟨A, s, k⟩) h hok, ?_, by omega, hcost', qm.tl_vals hok.bit, hok.len⟩
 rcases hok.st with q | ⟨q, _⟩ | ⟨q, _⟩
 ·exact absurd q hend
 ·refine .inl ⟨q, ?_⟩
  rw [← hfd]
  unfold qm.found
  rw [if_neg (by show ¬ s = 0; rw [show s = 1 from q]; decide), if_pos q]
 ·refine .inr ⟨q, ?_⟩
  rw [← hfd]
  unfold qm.found
  rw [if_neg (by show ¬ s = 0; rw [show s = 2 from q]; decide), if_neg (by show ¬ s = 1; rw [show s = 2 from q]; decide)]
end Go.Proofs.YtnlllcgcaddhmaaGreatDoor.qh
