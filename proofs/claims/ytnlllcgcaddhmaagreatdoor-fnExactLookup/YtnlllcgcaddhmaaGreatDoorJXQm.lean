/- Plain mathematics of the machine: its path as a list of values, a step, many steps. -/
import Derived.Test.YtnlllcgcaddhmaaGreatDoorJXL4
import Derived.Test.YtnlllcgcaddhmaaGreatDoorJXTl
namespace Go.Proofs.YtnlllcgcaddhmaaGreatDoor.qm
open as_ (litAt tl tl_snoc tl_len)
open cls (hasB)
open ok (cnfB litIn)
open l4 (openB emptyB)
set_option linter.unusedVariables false
theorem tl_getD (A : List Int) : ∀ (k i : Nat), i < A.length → (tl k A).getD i 0 = litAt (k + i) (A.getD i 0) := by
 induction A with
 | nil => intro k i h; exact absurd h (Nat.not_lt_zero _)
 | cons x A ih =>
  intro k i h
  cases i with
  | zero => rfl
  | succ i =>
   have := ih (k + 1) i (by simpa using h)
   show (tl (k + 1) A).getD i 0 = litAt (k + (i + 1)) (A.getD i 0)
   rw [this, show k + 1 + i = k + (i + 1) by omega]
theorem tl_take (A : List Int) : ∀ (k m : Nat), (tl k A).take m = tl k (A.take m) := by
 induction A with
 | nil => intro k m; cases m <;> rfl
 | cons x A ih =>
  intro k m
  cases m with
  | zero => rfl
  | succ m => show litAt k x :: (tl (k + 1) A).take m = litAt k x :: tl (k + 1) (A.take m); rw [ih]
theorem getD_mem {A : List Int} {i : Nat} (h : i < A.length) : A.getD i 0 ∈ A := by
 rw [show A.getD i 0 = A[i] by simp [h]]
 exact List.getElem_mem h
def turnB (P : List Int) : Bool := decide (∀ i, i < P.length → P.getD i 0 = (i : Int) + 1 ∨ P.getD i 0 = -(i : Int) - 1)
def vals (P : List Int) : List Int := P.map fun x => if 0 < x then 1 else 0
theorem vals_len (P : List Int) : (vals P).length = P.length := List.length_map ..
theorem vals_bit (P : List Int) : ∀ x ∈ vals P, x = 0 ∨ x = 1 := by
 intro x hx
 obtain ⟨y, _, rfl⟩ := List.mem_map.1 hx
 split
 ·exact .inr rfl
 ·exact .inl rfl
theorem vals_at {P : List Int} {i : Nat} (h : i < P.length) : (vals P).getD i 0 = if 0 < P.getD i 0 then 1 else 0 := by
 simp [vals, h]
theorem turn_tl {P : List Int} (h : turnB P = true) : tl 0 (vals P) = P := by
 have h := of_decide_eq_true h
 refine List.ext_getElem (by rw [tl_len, vals_len]) fun i h1 h2 => ?_
 have e1 := tl_getD (vals P) 0 i (by rw [vals_len]; exact h2)
 rw [show (tl 0 (vals P)).getD i 0 = (tl 0 (vals P))[i] by simp [h1], vals_at h2, Nat.zero_add] at e1
 rw [e1]
 have e2 : P.getD i 0 = P[i] := by simp [h2]
 rw [← e2]
 unfold as_.litAt
 rcases h i h2 with q | q
 ·have h0 : (0 : Int) < (i : Int) + 1 := by omega
  rw [q]
  simp only [if_pos h0, if_true]
 ·have h0 : ¬ (0 : Int) < -(i : Int) - 1 := by omega
  rw [q]
  simp only [if_neg h0]
  rfl
theorem tl_turn (A : List Int) : turnB (tl 0 A) = true := by
 unfold turnB
 rw [decide_eq_true_iff]
 intro i hi
 rw [tl_len] at hi
 rw [tl_getD A 0 i hi, Nat.zero_add]
 unfold as_.litAt
 split
 ·exact .inl rfl
 ·exact .inr rfl
def machB (n : Int) (LL : List (List Int)) (P : List Int) (st k : Int) : Bool :=
 cnfB n LL && decide ((P.length : Int) ≤ n) && turnB P && decide (0 ≤ k ∧ k ≤ 1000000000) && (decide (st = 0) || (decide (st = 1) && decide ((P.length : Int) = n)) || (decide (st = 2) && decide (P.length = 0)))
structure MS where
 A : List Int
 st : Int
 k : Int
def cutN (A : List Int) : Nat → Nat
 | 0 => 0
 | m + 1 => if A.getD m 0 = 1 then cutN A m else m + 1
def back (A : List Int) : List Int := A.take (cutN A A.length - 1) ++ [1]
def stepM (n : Nat) (LL : List (List Int)) (m : MS) : MS :=
 if m.st = 0 ∧ m.k < 1000000000 then
  if openB LL (tl 0 m.A) then
   if m.A.length = n then ⟨m.A, 1, m.k + 1⟩ else ⟨m.A ++ [0], 0, m.k + 1⟩
  else if cutN m.A m.A.length = 0 then ⟨[], 2, m.k + 1⟩ else ⟨back m.A, 0, m.k + 1⟩
 else m
def runM (n : Nat) (LL : List (List Int)) : Nat → MS → MS
 | 0, m => m
 | j + 1, m => runM n LL j (stepM n LL m)
structure OkM (n : Nat) (m : MS) : Prop where
 len : m.A.length ≤ n
 bit : ∀ x ∈ m.A, x = 0 ∨ x = 1
 k0 : 0 ≤ m.k
 k1 : m.k ≤ 1000000000
 st : m.st = 0 ∨ (m.st = 1 ∧ m.A.length = n) ∨ (m.st = 2 ∧ m.A = [])
theorem cut_le (A : List Int) : ∀ m, cutN A m ≤ m := by
 intro m
 induction m with
 | zero => exact Nat.le_refl _
 | succ m ih =>
  unfold cutN
  split
  ·omega
  ·omega
theorem back_len {A : List Int} (h : cutN A A.length ≠ 0) : (back A).length = cutN A A.length := by
 have := cut_le A A.length
 unfold back
 rw [List.length_append, List.length_take, List.length_singleton]
 omega
theorem OkM.step {n : Nat} {LL : List (List Int)} {m : MS} (h : OkM n m) : OkM n (stepM n LL m) := by
 unfold stepM
 split
 ·rename_i h0
  split
  ·split
   ·rename_i hl
    exact ⟨h.len, h.bit, by show 0 ≤ m.k + 1; have := h.k0; omega, by show m.k + 1 ≤ _; omega, .inr (.inl ⟨rfl, hl⟩)⟩
   ·rename_i hl
    refine ⟨?_, ?_, by show 0 ≤ m.k + 1; have := h.k0; omega, by show m.k + 1 ≤ _; omega, .inl rfl⟩
    ·show (m.A ++ [0]).length ≤ n
     have := h.len
     rw [List.length_append, List.length_singleton]
     omega
    ·intro x hx
     rcases List.mem_append.1 hx with q | q
     ·exact h.bit x q
     ·exact .inl (List.mem_singleton.1 q)
  ·split
   ·exact ⟨Nat.zero_le _, (fun x hx => by cases hx), by show 0 ≤ m.k + 1; have := h.k0; omega, by show m.k + 1 ≤ _; omega, .inr (.inr ⟨rfl, rfl⟩)⟩
   ·rename_i hc
    refine ⟨?_, ?_, by show 0 ≤ m.k + 1; have := h.k0; omega, by show m.k + 1 ≤ _; omega, .inl rfl⟩
    ·show (back m.A).length ≤ n
     rw [back_len hc]
     exact Nat.le_trans (cut_le _ _) h.len
    ·intro x hx
     rcases List.mem_append.1 hx with q | q
     ·exact h.bit x (List.mem_of_mem_take q)
     ·exact .inr (List.mem_singleton.1 q)
 ·exact h
theorem step_stop {n : Nat} {LL : List (List Int)} {m : MS} (h : ¬ (m.st = 0 ∧ m.k < 1000000000)) : stepM n LL m = m := if_neg h
theorem run_stop {n : Nat} {LL : List (List Int)} {m : MS} (h : ¬ (m.st = 0 ∧ m.k < 1000000000)) (j : Nat) : runM n LL j m = m := by
 induction j with
 | zero => rfl
 | succ j ih => show runM n LL j (stepM n LL m) = m; rw [step_stop h, ih]
theorem mach_ok {n : Int} {LL : List (List Int)} {P : List Int} {st k : Int} (h : machB n LL P st k = true) : ∃ N : Nat, n = (N : Int) ∧ N ≤ 24 ∧ cnfB n LL = true ∧ tl 0 (vals P) = P ∧ OkM N ⟨vals P, st, k⟩ := by
 unfold machB at h
 simp only [Bool.and_eq_true, Bool.or_eq_true, decide_eq_true_iff] at h
 obtain ⟨⟨⟨⟨hc, hl⟩, ht⟩, hk⟩, hs⟩ := h
 have hc' := hc
 unfold ok.cnfB at hc'
 simp only [Bool.and_eq_true, decide_eq_true_iff] at hc'
 have h24 := hc'.1.1
 obtain ⟨N, rfl⟩ := Int.eq_ofNat_of_zero_le h24.1
 refine ⟨N, rfl, by omega, hc, turn_tl ht, by show (vals P).length ≤ N; rw [vals_len]; omega, vals_bit P, hk.1, hk.2, ?_⟩
 rcases hs with (h0 | ⟨h1, h2⟩) | ⟨h1, h2⟩
 ·exact .inl h0
 ·exact .inr (.inl ⟨h1, by show (vals P).length = N; rw [vals_len]; omega⟩)
 ·refine .inr (.inr ⟨h1, List.eq_nil_of_length_eq_zero ?_⟩)
  show (vals P).length = 0
  rw [vals_len, h2]
theorem ok_mach {N : Nat} {LL : List (List Int)} {m : MS} (hc : cnfB (N : Int) LL = true) (h : OkM N m) : machB (N : Int) LL (tl 0 m.A) m.st m.k = true := by
 unfold machB
 simp only [Bool.and_eq_true, Bool.or_eq_true, decide_eq_true_iff]
 refine ⟨⟨⟨⟨hc, by rw [tl_len]; have := h.len; omega⟩, tl_turn _⟩, h.k0, h.k1⟩, ?_⟩
 rcases h.st with q | ⟨q, r⟩ | ⟨q, r⟩
 ·exact .inl (.inl q)
 ·exact .inl (.inr ⟨q, by rw [tl_len]; omega⟩)
 ·exact .inr ⟨q, by rw [tl_len, r]; rfl⟩
end Go.Proofs.YtnlllcgcaddhmaaGreatDoor.qm
