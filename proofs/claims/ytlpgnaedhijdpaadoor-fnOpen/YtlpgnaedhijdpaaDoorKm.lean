/- Plain mathematics of the program's search: the word of an assignment, clauses that fail on a path, and what is made of them. -/
import Derived.Test.YtlpgnaedhijdpaaDoorLq
import Derived.Test.YtlpgnaedhijdpaaDoorOp
namespace Go.Proofs.YtlpgnaedhijdpaaDoor.km
open Go.Proofs.YtlpgnaedhijdpaaDoor.srt (swp swp_swp)
open Go.Proofs.YtlpgnaedhijdpaaDoor.lq (Bits bits_app bits_cons lst lst_none lst_some lst_congr)
set_option linter.unusedVariables false
/-- the place of the literal of variable j + 1 that is true where its value is x -/
def plc (j : Nat) (x : Int) : Nat := if x = 1 then 2 * j else 2 * j + 1
/-- the literals that are true at a list of values, by their places -/
def wdB (A : List Int) (b : Nat) : Bool := decide (b / 2 < A.length) && decide (plc (b / 2) (A.getD (b / 2) 0) = b)
theorem swp_div (b : Nat) : swp b / 2 = b / 2 := by
  unfold srt.swp
  split <;> omega
theorem swp_ne (b : Nat) : swp b ≠ b := by
  unfold srt.swp
  split <;> omega
theorem plc_div (j : Nat) (x : Int) : plc j x / 2 = j := by
  unfold plc
  split <;> omega
theorem plc_swp (j : Nat) : swp (plc j 0) = plc j 1 ∧ swp (plc j 1) = plc j 0 := by
  unfold srt.swp plc
  simp
theorem plc_two (b : Nat) : plc (b / 2) 0 = b ∨ plc (b / 2) 1 = b := by
  unfold plc
  simp
  omega
theorem wd_one {A : List Int} (hA : ∀ x ∈ A, x = 0 ∨ x = 1) {b : Nat} (h : wdB A b = true) : wdB A (swp b) = false := by
  unfold wdB at *
  rw [Bool.and_eq_true, decide_eq_true_iff, decide_eq_true_iff] at h
  rw [swp_div, decide_eq_true h.1, Bool.true_and, decide_eq_false_iff_not, h.2]
  exact fun e => swp_ne b e.symm
theorem wd_some {A : List Int} (hA : ∀ x ∈ A, x = 0 ∨ x = 1) {b : Nat} (h : b / 2 < A.length) : wdB A b = true ∨ wdB A (swp b) = true := by
  have hx : A.getD (b / 2) 0 = 0 ∨ A.getD (b / 2) 0 = 1 := by
    rw [show A.getD (b / 2) 0 = A[b / 2] by simp [h]]
    exact hA _ (List.getElem_mem h)
  unfold wdB
  rw [swp_div, decide_eq_true h, Bool.true_and, Bool.true_and, decide_eq_true_iff, decide_eq_true_iff]
  have p := plc_swp (b / 2)
  rcases plc_two b with e | e <;> rcases hx with z | z <;> rw [z]
  · exact .inl e
  · exact .inr (by rw [← p.1, e])
  · exact .inr (by rw [← p.2, e])
  · exact .inl e
theorem wd_pre {pre l : List Int} {b : Nat} (h : wdB pre b = true) : wdB (pre ++ l) b = true := by
  unfold wdB at *
  rw [Bool.and_eq_true, decide_eq_true_iff, decide_eq_true_iff] at *
  rw [lq.getD_pre h.1, List.length_append]
  exact ⟨by omega, h.2⟩
theorem wd_last (pre : List Int) (x : Int) (l : List Int) : wdB (pre ++ x :: l) (plc pre.length x) = true := by
  unfold wdB
  rw [plc_div, lq.getD_app, Bool.and_eq_true, decide_eq_true_iff, decide_eq_true_iff, List.length_append, List.length_cons]
  exact ⟨by omega, rfl⟩
theorem wd_snoc (pre : List Int) (x : Int) (b : Nat) : wdB (pre ++ [x]) b = (wdB pre b || decide (b = plc pre.length x)) := by
  rw [Bool.eq_iff_iff, Bool.or_eq_true, decide_eq_true_iff]
  constructor
  · intro h
    by_cases hl : b / 2 < pre.length
    · refine .inl ?_
      unfold wdB at *
      rw [Bool.and_eq_true, decide_eq_true_iff, decide_eq_true_iff] at *
      rw [lq.getD_pre hl] at h
      exact ⟨hl, h.2⟩
    · refine .inr ?_
      unfold wdB at h
      rw [Bool.and_eq_true, decide_eq_true_iff, decide_eq_true_iff, List.length_append, List.length_singleton] at h
      have e : b / 2 = pre.length := by omega
      rw [e, lq.getD_app] at h
      exact h.2.symm
  · rintro (h | rfl)
    · exact wd_pre h
    · exact wd_last pre x []
/-- what a formula and the wanted literals ask of an assignment, as sets -/
def Sat (Ss : List Nat) (W : Nat) (A : List Int) : Prop := (∀ S ∈ Ss, ∃ b, S.testBit b = true ∧ wdB A b = true) ∧ ∀ b, W.testBit b = true → wdB A b = true
/-- a clause that is false on a path, and true wherever all is -/
def Conf (n : Nat) (Ss : List Nat) (W : Nat) (c : Nat) (pre : List Int) : Prop := (∀ b, c.testBit b = true → wdB pre (swp b) = true) ∧ ∀ A, Bits n A → Sat Ss W A → ∃ b, c.testBit b = true ∧ wdB A b = true
theorem conf_none {n : Nat} {Ss : List Nat} {W c : Nat} {pre l : List Int} (h : Conf n Ss W c pre) (hb : Bits n (pre ++ l)) : ¬ Sat Ss W (pre ++ l) := by
  intro hs
  obtain ⟨b, h1, h2⟩ := h.2 _ hb hs
  have h3 := wd_pre (l := l) (h.1 b h1)
  rw [wd_one hb.2 h2] at h3
  cases h3
theorem conf_lost {n : Nat} {Ss : List Nat} {W S : Nat} {pre : List Int} (hp : ∀ x ∈ pre, x = 0 ∨ x = 1) (hS : S ∈ Ss) (hv : ∀ b, S.testBit b = true → b / 2 < pre.length) (ho : ∀ b, S.testBit b = true → wdB pre b = false) : Conf n Ss W S pre := by
  refine ⟨fun b hb => ?_, fun A _ hs => hs.1 S hS⟩
  rcases wd_some hp (hv b hb) with h | h
  · rw [ho b hb] at h
    cases h
  · exact h
theorem conf_jump {n : Nat} {Ss : List Nat} {W c : Nat} {pre : List Int} {x : Int} (h : Conf n Ss W c (pre ++ [x])) (hc : c.testBit (swp (plc pre.length x)) = false) : Conf n Ss W c pre := by
  refine ⟨fun b hb => ?_, h.2⟩
  have := h.1 b hb
  rw [wd_snoc, Bool.or_eq_true, decide_eq_true_iff] at this
  rcases this with q | q
  · exact q
  · rw [← q, swp_swp, hb] at hc
    cases hc
theorem conf_part {n : Nat} {Ss : List Nat} {W c : Nat} {pre : List Int} {x : Int} (h : Conf n Ss W c (pre ++ [x])) {b : Nat} (hb : c.testBit b = true) (hne : b ≠ swp (plc pre.length x)) : wdB pre (swp b) = true := by
  have := h.1 b hb
  rw [wd_snoc, Bool.or_eq_true, decide_eq_true_iff] at this
  rcases this with q | q
  · exact q
  · exact absurd (by rw [← q, swp_swp]) hne
/-- both values fail -/
theorem conf_both {n : Nat} {Ss : List Nat} {W c0 c1 c : Nat} {pre : List Int} (h0 : Conf n Ss W c0 (pre ++ [0])) (h1 : Conf n Ss W c1 (pre ++ [1]))
    (hc : ∀ b, c.testBit b = ((c0.testBit b && !decide (b = plc pre.length 1)) || (c1.testBit b && !decide (b = plc pre.length 0)))) : Conf n Ss W c pre := by
  have p := plc_swp pre.length
  refine ⟨fun b hb => ?_, fun A hA hs => ?_⟩
  · rw [hc b, Bool.or_eq_true, Bool.and_eq_true, Bool.and_eq_true] at hb
    rcases hb with ⟨q, r⟩ | ⟨q, r⟩
    · exact conf_part h0 q (by rw [p.1]; simpa using r)
    · exact conf_part h1 q (by rw [p.2]; simpa using r)
  · obtain ⟨b0, q0, r0⟩ := h0.2 A hA hs
    obtain ⟨b1, q1, r1⟩ := h1.2 A hA hs
    by_cases e0 : b0 = plc pre.length 1
    · refine ⟨b1, ?_, r1⟩
      rw [hc, q1]
      have : b1 ≠ plc pre.length 0 := fun e => by
        have := wd_one hA.2 r0
        rw [e0, p.2, ← e, r1] at this
        cases this
      simp [this]
    · refine ⟨b0, ?_, r0⟩
      rw [hc, q0]
      simp [e0]
/-- one value fails, the other is not wanted -/
theorem conf_one {n : Nat} {Ss : List Nat} {W c1 c : Nat} {pre : List Int} {x : Int} (hx : x = 0 ∨ x = 1) (hw : W.testBit (plc pre.length x) = true) (h1 : Conf n Ss W c1 (pre ++ [x]))
    (hc : ∀ b, c.testBit b = (c1.testBit b && !decide (b = swp (plc pre.length x)))) : Conf n Ss W c pre := by
  refine ⟨fun b hb => ?_, fun A hA hs => ?_⟩
  · rw [hc b, Bool.and_eq_true] at hb
    exact conf_part h1 hb.1 (by simpa using hb.2)
  · obtain ⟨b1, q1, r1⟩ := h1.2 A hA hs
    refine ⟨b1, ?_, r1⟩
    have : b1 ≠ swp (plc pre.length x) := fun e => by
      have := wd_one hA.2 (hs.2 _ hw)
      rw [← e, r1] at this
      cases this
    rw [hc, q1]
    simp [this]
/-- neither value is wanted -/
theorem conf_zero {n : Nat} {Ss : List Nat} {W : Nat} {pre : List Int} (h0 : W.testBit (plc pre.length 0) = true) (h1 : W.testBit (plc pre.length 1) = true) : Conf n Ss W 0 pre := by
  refine ⟨fun b hb => (by rw [Nat.zero_testBit] at hb; cases hb), fun A hA hs => ?_⟩
  have := wd_one hA.2 (hs.2 _ h0)
  rw [(plc_swp pre.length).1, hs.2 _ h1] at this
  cases this
/-- a path on which no clause is lost, and whose literals are all wanted -/
structure Path (n : Nat) (Ss : List Nat) (W : Nat) (E : Nat → Nat) (pre : List Int) : Prop where
  len : pre.length ≤ n
  bit : ∀ x ∈ pre, x = 0 ∨ x = 1
  ok : ∀ b, wdB pre b = true → W.testBit (swp b) = false
  cl : ∀ u, u < pre.length → ∀ i, (E u).testBit i = true → ∃ b, (Ss.getD i 0).testBit b = true ∧ wdB pre b = true
/-- at the end of the path all holds -/
theorem path_end {n : Nat} {Ss : List Nat} {W : Nat} {E : Nat → Nat} {pre : List Int} (h : Path n Ss W E pre) (hl : pre.length = n) (hW : ∀ b, W.testBit b = true → b / 2 < n)
    (hE : ∀ i, i < Ss.length → ∃ u, u ≤ n ∧ (E u).testBit i = true) (hn : ∀ i, (E n).testBit i = true → ∃ b, (Ss.getD i 0).testBit b = true ∧ wdB pre b = true) : Sat Ss W pre := by
  refine ⟨fun S hS => ?_, fun b hb => ?_⟩
  · obtain ⟨i, hi, rfl⟩ := List.getElem_of_mem hS
    obtain ⟨u, hu, hub⟩ := hE i hi
    have key : ∃ b, (Ss.getD i 0).testBit b = true ∧ wdB pre b = true := by
      by_cases e : u = n
      · exact hn i (e ▸ hub)
      · exact h.cl u (by omega) i hub
    rw [show Ss.getD i 0 = Ss[i] by simp [hi]] at key
    exact key
  · rcases wd_some h.bit (by rw [hl]; exact hW b hb) with q | q
    · exact q
    · have := h.ok _ q
      rw [swp_swp, hb] at this
      cases this
theorem path_snoc {n : Nat} {Ss : List Nat} {W : Nat} {E : Nat → Nat} {pre : List Int} {x : Int} (h : Path n Ss W E pre) (hl : pre.length < n) (hx : x = 0 ∨ x = 1) (hw : W.testBit (swp (plc pre.length x)) = false)
    (hc : ∀ i, (E pre.length).testBit i = true → ∃ b, (Ss.getD i 0).testBit b = true ∧ wdB pre b = true) : Path n Ss W E (pre ++ [x]) := by
  refine ⟨by rw [List.length_append, List.length_singleton]; omega, fun y hy => ?_, fun b hb => ?_, fun u hu i hi => ?_⟩
  · rcases List.mem_append.1 hy with hy | hy
    · exact h.bit y hy
    · rw [List.mem_singleton] at hy
      rw [hy]
      exact hx
  · rw [wd_snoc, Bool.or_eq_true, decide_eq_true_iff] at hb
    rcases hb with q | rfl
    · exact h.ok b q
    · exact hw
  · rw [List.length_append, List.length_singleton] at hu
    have key : ∃ b, (Ss.getD i 0).testBit b = true ∧ wdB pre b = true := by
      by_cases e : u = pre.length
      · exact hc i (e ▸ hi)
      · exact h.cl u (by omega) i hi
    obtain ⟨b, h1, h2⟩ := key
    exact ⟨b, h1, wd_pre h2⟩
end Go.Proofs.YtlpgnaedhijdpaaDoor.km
