/- Subsets of a size, in the order of their places: the mathematics of AtMost and AtLeast; no condition. -/
import Derived.Test.YtmmmldcnadidkaaT7
namespace Go.Proofs.Ytmmmldcnadidkaa.t2
set_option linter.unusedVariables false

/-- the subsets of a size -/
def subs : List Int → Nat → List (List Int)
  | _, 0 => [[]]
  | [], _ + 1 => []
  | x :: L, m + 1 => (subs L m).map (x :: ·) ++ subs L (m + 1)
theorem subs_zero (L : List Int) : subs L 0 = [[]] := by cases L <;> rfl
theorem subs_none : ∀ (L : List Int) (m : Nat), L.length < m → subs L m = []
  | _, 0, h => by omega
  | [], _ + 1, _ => rfl
  | x :: L, m + 1, h => by
    simp only [List.length_cons] at h
    simp only [subs, subs_none L m (by omega), subs_none L (m + 1) (by omega), List.map_nil, List.append_nil]
theorem subs_some : ∀ (L : List Int) (m : Nat), m ≤ L.length → subs L m ≠ []
  | L, 0, h => by rw [subs_zero]; simp
  | [], _ + 1, h => by simp at h
  | x :: L, m + 1, h => by
    simp only [List.length_cons] at h
    have := subs_some L m (by omega)
    simp [subs, this]
theorem subs_len : ∀ (L : List Int) (m : Nat), ∀ C ∈ subs L m, C.length = m
  | L, 0, C, h => by
    rw [subs_zero, List.mem_singleton] at h
    subst h
    rfl
  | [], _ + 1, C, h => by cases h
  | x :: L, m + 1, C, h => by
    rw [subs, List.mem_append, List.mem_map] at h
    rcases h with ⟨D, hD, rfl⟩ | h
    · rw [List.length_cons, subs_len L m D hD]
    · exact subs_len L (m + 1) C h
/-- what is told behind what was picked, from a place on -/
def told (P L : List Int) (m k : Nat) : List (List Int) := (subs (L.drop k) m).map (P ++ ·)
theorem told_zero (P L : List Int) (k : Nat) : told P L 0 k = [P] := by
  unfold told
  rw [subs_zero]
  simp
theorem told_step (P L : List Int) (m k : Nat) (h : k < L.length) : told P L (m + 1) k = told (P ++ [L.getD k 0]) L m (k + 1) ++ told P L (m + 1) (k + 1) := by
  unfold told
  rw [List.drop_eq_getElem_cons h, subs, List.map_append, List.map_map, show L.getD k 0 = L[k] by simp [h]]
  congr 1
  apply List.map_congr_left
  intro C _
  simp
theorem told_end (P L : List Int) (m k : Nat) (h0 : 0 < m) (h : L.length < k + m) : told P L m k = [] := by
  unfold told
  rw [subs_none _ _ (by rw [List.length_drop]; omega)]
  rfl
theorem adds_app (A : List (List Int)) : ∀ (r : Bool) (CC B : List (List Int)), addsR r CC (A ++ B) = addsR (addsR r CC A) (addsC r CC A) B ∧ addsC r CC (A ++ B) = addsC (addsR r CC A) (addsC r CC A) B := by
  induction A with
  | nil => exact fun r CC B => ⟨rfl, rfl⟩
  | cons D A ih => exact fun r CC B => ih _ _ B
/-- once refused, nothing changes any more -/
theorem adds_stop (A B : List (List Int)) (r : Bool) (CC : List (List Int)) (h : addsR r CC A = true) : addsR r CC (A ++ B) = true ∧ addsC r CC (A ++ B) = addsC r CC A := by
  have a := adds_app A r CC B
  have y := adds_yes B (addsC r CC A)
  rw [h] at a
  exact ⟨a.1.trans y.1, a.2.trans y.2⟩
/-- adding clauses is refused just when there would be too many -/
theorem adds_iff (Cs : List (List Int)) : ∀ CC, CC.length ≤ 120 → addsR false CC Cs = decide (120 < CC.length + Cs.length) := by
  induction Cs with
  | nil =>
    intro CC h
    simp [addsR]
    omega
  | cons C Cs ih =>
    intro CC h
    by_cases hl : CC.length = 120
    · have e : addR false CC = true := by simp [addR, hl]
      simp only [addsR, e]
      rw [(adds_yes Cs _).1]
      simp
      omega
    · have e : addR false CC = false := by simp [addR, hl]
      have e2 : addC false CC C = CC ++ [C] := by simp [addC, e]
      simp only [addsR, e, e2]
      rw [ih _ (by simp; omega)]
      simp only [List.length_append, List.length_cons, List.length_nil]
      exact decide_eq_decide.2 (by omega)
end Go.Proofs.Ytmmmldcnadidkaa.t2
