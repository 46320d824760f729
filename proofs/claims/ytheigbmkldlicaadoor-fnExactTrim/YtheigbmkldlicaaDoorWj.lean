/- Plain mathematics of the watcher: what holds of it while literals are taken, and that it tells the first clause that is single; no condition. -/
import Derived.Test.YtheigbmkldlicaaDoorWv
namespace Go.Proofs.YtheigbmkldlicaaDoor.wm
open Go.RowKit
open Go.Proofs.YtheigbmkldlicaaDoor.lits (okB okB_iff)
open Go.Proofs.YtheigbmkldlicaaDoor.bset (placeN placeN_le placeN_inj)
open Go.Proofs.YtheigbmkldlicaaDoor.srt (woN woN_lt woN_bit fstI oppN oppN_bit oppN_lt swp swp_lt andN andN_bit andN_lt or_lt hi_bit)
set_option linter.unusedVariables false

theorem ne_bit {O : Nat} (h : O ≠ 0) : ∃ b, O.testBit b = true := Nat.exists_testBit_of_ne_zero h
/-- the weight of the lists that are still to be gone through -/
def wf (P : PS) (R p : Nat) : Nat := if P.tk.testBit (swp p) && !R.testBit (swp p) then 0 else (P.A.getD (1 + p) []).length
def wgt (P : PS) (R : Nat) : Nat := sumR 48 (wf P R) + (P.A.getD 0 []).length
theorem wf_yes {P : PS} {R p : Nat} (h : (P.tk.testBit (swp p) && !R.testBit (swp p)) = false) : wf P R p = (P.A.getD (1 + p) []).length := by
  unfold wf
  rw [h]
  rfl
theorem wf_no {P : PS} {R p : Nat} (h : (P.tk.testBit (swp p) && !R.testBit (swp p)) = true) : wf P R p = 0 := by
  unfold wf
  rw [h]
  rfl
/-- what is still to come to clause i by way of p -/
def pend (P : PS) (R : Nat) (l : Int) (C : List Int) (i : Nat) (p : Int) : Prop := R.testBit (placeN (-p)) = true ∨ (p = l ∧ (i : Int) ∈ C)
def lost (P : PS) (p : Int) : Prop := P.tk.testBit (placeN (-p)) = true
/-- how it stands with clause i (S all its literals, p and q the two that it is watched by) -/
def Stn (P : PS) (R : Nat) (l : Int) (C : List Int) (i S : Nat) (p q : Int) : Prop :=
  ((i : Int) ∈ P.A.getD 0 [] ∧ ∃ y, (y = p ∨ y = q) ∧ (opn S P.tk).testBit (placeN y) = true ∧ ∀ b, (opn S P.tk).testBit b = true → b = placeN y) ∨
  (P.em = true ∧ opn S P.tk = 0) ∨
  (p ≠ q ∧ (lost P p → pend P R l C i p) ∧ (lost P q → pend P R l C i q)) ∨
  ((i : Int) ∈ P.A.getD 0 [] ∧ opn S P.tk = 0 ∧ ((lost P p ∧ pend P R l C i p) ∨ (lost P q ∧ pend P R l C i q)))
/-- how many numbers the lists by literals hold -/
def tot (P : PS) : Nat := sumR 48 (fun p => (P.A.getD (1 + p) []).length)
structure Jn (Ss : List Nat) (P : PS) (R : Nat) (l : Int) (F C : List Int) : Prop where
  len : P.K.length = Ss.length
  sets : ∀ i, i < Ss.length → (P.K.getD i zk).1 = Ss.getD i 0
  wd : ∀ i, i < Ss.length → Ss.getD i 0 < 2 ^ 48
  tk : P.tk < 2 ^ 48
  rk : R < 2 ^ 48
  al : P.A.length = 50
  rin : ∀ b, R.testBit b = true → P.tk.testBit b = true
  wat : ∀ i, i < Ss.length → Ss.getD i 0 ≠ 0 → okB (P.K.getD i zk).2.1 = true ∧ okB (P.K.getD i zk).2.2 = true ∧ (Ss.getD i 0).testBit (placeN (P.K.getD i zk).2.1) = true ∧ (Ss.getD i 0).testBit (placeN (P.K.getD i zk).2.2) = true ∧
    (i : Int) ∈ P.A.getD (1 + placeN (P.K.getD i zk).2.1) [] ∧ (i : Int) ∈ P.A.getD (1 + placeN (P.K.getD i zk).2.2) []
  idx : ∀ j, ∀ x ∈ P.A.getD j [], ∃ k : Nat, x = (k : Int) ∧ k < Ss.length ∧ Ss.getD k 0 ≠ 0
  cin : ∀ x ∈ C, ∃ k : Nat, x = (k : Int) ∧ k < Ss.length ∧ Ss.getD k 0 ≠ 0
  lo : C ≠ [] → okB l = true ∧ P.tk.testBit (placeN (-l)) = true
  hand : C ≠ [] → P.A.getD (1 + placeN l) [] = F ++ C
  bd : wgt P R + C.length ≤ 4194304
  nl : Ss.length ≤ 1048576
  tt : tot P ≤ 2 * Ss.length
  fl : F.length + C.length ≤ 2 * Ss.length
  sg : ∀ i, i < Ss.length → Ss.getD i 0 ≠ 0 → (P.K.getD i zk).2.1 = (P.K.getD i zk).2.2 → (i : Int) ∈ P.A.getD 49 []
  so : ∀ k : Nat, (k : Int) ∈ P.A.getD 49 [] → ∀ a b, (Ss.getD k 0).testBit a = true → (Ss.getD k 0).testBit b = true → a = b
  sn : (P.A.getD 49 []).length ≤ Ss.length
  hz : P.ho = true ↔ ∃ i, i < Ss.length ∧ Ss.getD i 0 = 0
  wt : ∀ k : Nat, (k : Int) ∈ P.A.getD 0 [] → clsd (Ss.getD k 0) P.tk = false → ∀ a b, (opn (Ss.getD k 0) P.tk).testBit a = true → (opn (Ss.getD k 0) P.tk).testBit b = true → a = b
  es : P.em = true → ∃ i, i < Ss.length ∧ clsd (Ss.getD i 0) P.tk = false ∧ opn (Ss.getD i 0) P.tk = 0
  ez : ∀ i, i < Ss.length → Ss.getD i 0 = 0 → P.em = true
  st : ∀ i, i < Ss.length → Ss.getD i 0 ≠ 0 → clsd (Ss.getD i 0) P.tk = false → Stn P R l C i (Ss.getD i 0) (P.K.getD i zk).2.1 (P.K.getD i zk).2.2

theorem wgt_at {P : PS} {R q : Nat} (hq : q < 48) (h : (P.tk.testBit (swp q) && !R.testBit (swp q)) = false) : (P.A.getD (1 + q) []).length ≤ wgt P R := by
  unfold wgt
  have := sumR_get (n := 48) (f := wf P R) hq
  rw [wf_yes h] at this
  omega
theorem getD_set {A : List (List Int)} {j : Nat} {X : List Int} (k : Nat) : (A.set j X).getD k [] = if k = j ∧ j < A.length then X else A.getD k [] := by
  rw [List.getD, List.getD, List.getElem?_set]
  by_cases e : j = k
  · subst e
    by_cases h : j < A.length
    · rw [if_pos rfl, if_pos h, if_pos ⟨rfl, h⟩]
      rfl
    · rw [if_pos rfl, if_neg h, if_neg (fun q => h q.2), List.getElem?_eq_none (by omega)]
  · rw [if_neg e, if_neg (fun q => e q.1.symm)]
theorem more_get (P : PS) (j : Nat) (y : Int) (k : Nat) : (P.more j y).A.getD k [] = if k = j ∧ j < P.A.length then P.A.getD k [] ++ [y] else P.A.getD k [] := by
  show (P.A.set j _).getD k [] = _
  rw [getD_set]
  by_cases h : k = j ∧ j < P.A.length
  · rw [if_pos h, if_pos h, h.1]
  · rw [if_neg h, if_neg h]
theorem more_mem {P : PS} {j k : Nat} {y x : Int} (h : x ∈ P.A.getD k []) : x ∈ (P.more j y).A.getD k [] := by
  rw [more_get]
  split
  · exact List.mem_append_left _ h
  · exact h
theorem more_new {P : PS} {j : Nat} {y : Int} (h : j < P.A.length) : y ∈ (P.more j y).A.getD j [] := by
  rw [more_get, if_pos ⟨rfl, h⟩]
  simp
theorem more_of {P : PS} {j k : Nat} {y x : Int} (h : x ∈ (P.more j y).A.getD k []) : x ∈ P.A.getD k [] ∨ (k = j ∧ x = y) := by
  rw [more_get] at h
  split at h
  · rename_i q
    rcases List.mem_append.1 h with h | h
    · exact .inl h
    · exact .inr ⟨q.1, by simpa using h⟩
  · exact .inl h
/-- one number more in a list that counts -/
theorem wgt_more {P : PS} {R j : Nat} {y : Int} : wgt (P.more j y) R ≤ wgt P R + 1 := by
  unfold wgt
  have e0 : ((P.more j y).A.getD 0 []).length ≤ (P.A.getD 0 []).length + (if j = 0 then 1 else 0) := by
    rw [more_get]
    split
    · rename_i q
      rw [if_pos q.1.symm, List.length_append]
      exact Nat.le_refl _
    · omega
  have eq : ∀ p, 1 + p ≠ j → wf (P.more j y) R p = wf P R p := by
    intro p hp
    have e : (P.more j y).A.getD (1 + p) [] = P.A.getD (1 + p) [] := by rw [more_get P j y (1 + p), if_neg (fun q => hp q.1)]
    unfold wf
    rw [e]
    rfl
  by_cases hj : 1 ≤ j ∧ j - 1 < 48
  · have := sumR_one (n := 48) (q := j - 1) (d := 1) (f := wf (P.more j y) R) (g := wf P R) hj.2 (fun p hp hne => by rw [eq p (by omega)]; exact Nat.le_refl _) (by
      unfold wf
      show (if P.tk.testBit (swp (j - 1)) && !R.testBit (swp (j - 1)) then 0 else _) ≤ _
      cases P.tk.testBit (swp (j - 1)) && !R.testBit (swp (j - 1))
      · show ((P.more j y).A.getD (1 + (j - 1)) []).length ≤ (P.A.getD (1 + (j - 1)) []).length + 1
        rw [more_get]
        split
        · rw [List.length_append]
          exact Nat.le_refl _
        · omega
      · exact Nat.zero_le _)
    rw [if_neg (by omega)] at e0
    omega
  · have := sumR_le (n := 48) (f := wf (P.more j y) R) (g := wf P R) (fun p hp => by rw [eq p (by omega)]; exact Nat.le_refl _)
    split at e0 <;> omega
theorem tot_more {P : PS} {q : Nat} {y : Int} (hq : q < 48) : tot (P.more (1 + q) y) ≤ tot P + 1 := by
  refine sumR_one hq (fun p hp hne => ?_) ?_
  · rw [more_get, if_neg (fun e => hne (by omega))]
    exact Nat.le_refl _
  · rw [more_get]
    split
    · rw [List.length_append]
      exact Nat.le_refl _
    · exact Nat.le_succ _
theorem tot_more0 {P : PS} {y : Int} : tot (P.more 0 y) ≤ tot P := by
  refine sumR_le (fun p hp => ?_)
  rw [more_get, if_neg (fun e => by omega)]
  exact Nat.le_refl _
theorem setL_get (P : PS) (j : Nat) (M : List Int) (k : Nat) : (P.setL j M).A.getD k [] = if k = j ∧ j < P.A.length then M else P.A.getD k [] := getD_set k
theorem tot_cut {P : PS} {q : Nat} {M : List Int} (hq : q < 48) (hl : 1 + q < P.A.length) (h : M.length + 1 ≤ (P.A.getD (1 + q) []).length) : tot (P.setL (1 + q) M) + 1 ≤ tot P := by
  refine sumR_cut (q := q) hq (fun p hp hne => ?_) ?_
  · rw [setL_get, if_neg (fun e => hne (by omega))]
    exact Nat.le_refl _
  · rw [setL_get, if_pos ⟨rfl, hl⟩]
    exact h
theorem wgt_cut {P : PS} {R q : Nat} {M : List Int} (h : M.length ≤ (P.A.getD (1 + q) []).length) : wgt (P.setL (1 + q) M) R ≤ wgt P R := by
  unfold wgt
  have e0 : (P.setL (1 + q) M).A.getD 0 [] = P.A.getD 0 [] := by rw [setL_get, if_neg (fun e => by omega)]
  rw [e0]
  have := sumR_le (n := 48) (f := wf (P.setL (1 + q) M) R) (g := wf P R) (fun p hp => by
    unfold wf
    show (if P.tk.testBit (swp p) && !R.testBit (swp p) then 0 else _) ≤ _
    split
    · exact Nat.le_refl _
    · rw [setL_get]
      split
      · rename_i e
        rw [e.1]
        exact h
      · exact Nat.le_refl _)
  omega
end Go.Proofs.YtheigbmkldlicaaDoor.wm
