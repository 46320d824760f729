/- Mathematics of AtMost, AtLeast and Exactly: their clauses are true just where so many literals are; conditions: literals that are some. -/
import Derived.Test.YtmmmldcnadidkaaT8
import Derived.Test.YtmmmldcnadidkaaT1
namespace Go.Proofs.Ytmmmldcnadidkaa.t2
open Go.Proofs.Ytmmmldcnadidkaa.lits (okB okB_iff varI)
open Go.Proofs.Ytmmmldcnadidkaa.sp (negL)
open Go.Proofs.Ytmmmldcnadidkaa.tr (litT clT cnfT)
open Go.Proofs.Ytmmmldcnadidkaa.t1 (cntL)
set_option linter.unusedVariables false

theorem subs_true (q : Int → Bool) : ∀ (M : List Int) (m : Nat), (subs M m).all (fun C => C.any q) = decide (M.countP (fun x => !q x) < m)
  | M, 0 => by rw [subs_zero]; simp
  | [], m + 1 => by simp [subs]
  | x :: M, m + 1 => by
    have h1 := subs_true q M m
    have h2 := subs_true q M (m + 1)
    rw [subs, List.all_append, List.all_map, h2, List.countP_cons]
    cases hx : q x
    · have e : ((fun C : List Int => C.any q) ∘ (x :: ·)) = fun C => C.any q := by funext C; simp [hx]
      rw [e, h1, Bool.eq_iff_iff]
      simp only [Bool.and_eq_true, decide_eq_true_eq, Bool.not_false, if_true]
      omega
    · have e : ((fun C : List Int => C.any q) ∘ (x :: ·)) = fun C => true := by funext C; simp [hx]
      rw [e]
      simp
theorem lit_neg {A : List Int} {x : Int} (h : okB x = true) : litT A (-x) = !litT A x := by
  obtain ⟨h0, h1, h2⟩ := okB_iff.1 h
  have v1 := lits.varI_yes ⟨h0, h1, h2⟩
  have v2 := lits.varI_yes (x := -x) ⟨by omega, by omega, by omega⟩
  have e : varI (-x) = varI x := by rw [v1, v2]; split <;> split <;> omega
  have n0 : varI x ≠ 0 := by rw [v1]; split <;> omega
  unfold litT
  rw [e, if_neg n0, if_neg n0]
  generalize (decide (varI x ≤ (A.length : Int)) && decide (A.getD (varI x - 1).toNat 0 = 1)) = b
  by_cases hp : 0 < x
  · have hn : ¬ (0 < -x) := by omega
    rw [decide_eq_true hp, decide_eq_false hn]
    cases b <;> rfl
  · have hn : 0 < -x := by omega
    rw [decide_eq_false hp, decide_eq_true hn]
    cases b <;> rfl
theorem neg_count {A : List Int} : ∀ {L : List Int}, (∀ x ∈ L, okB x = true) → (negL L).countP (fun x => !litT A x) = cntL A L
  | [], _ => rfl
  | x :: L, h => by
    have ih := neg_count (A := A) (L := L) (fun y hy => h y (List.mem_cons_of_mem _ hy))
    have hx := lit_neg (A := A) (h x (List.mem_cons_self ..))
    unfold negL cntL at *
    rw [List.map_cons, List.countP_cons, List.countP_cons, ih, hx, Bool.not_not]
theorem not_count (A L : List Int) : L.countP (fun x => !litT A x) + cntL A L = L.length := by
  unfold cntL
  induction L with
  | nil => rfl
  | cons x L ih =>
    rw [List.countP_cons, List.countP_cons, List.length_cons]
    cases litT A x <;> simp <;> omega

/-- the clauses of at most, at least so many -/
def mostC (L : List Int) (k : Int) : List (List Int) := subs (negL L) ((min k (L.length : Int)).toNat + 1)
def leastC (L : List Int) (k : Int) : List (List Int) := subs L (L.length + 1 - (max 0 (min k ((L.length : Int) + 1))).toNat)
theorem most_true {A L : List Int} {k : Int} (hL : ∀ x ∈ L, okB x = true) (hk : 0 ≤ k) : cnfT A (mostC L k) = decide ((cntL A L : Int) ≤ k) := by
  have h := subs_true (litT A) (negL L) ((min k (L.length : Int)).toNat + 1)
  rw [neg_count hL] at h
  have hc := t1.cnt_le A L
  show (subs (negL L) ((min k (L.length : Int)).toNat + 1)).all (fun C => C.any (litT A)) = _
  rw [h]
  exact decide_eq_decide.2 (by omega)
theorem least_true {A L : List Int} {k : Int} : cnfT A (leastC L k) = decide (k ≤ (cntL A L : Int)) := by
  have h := subs_true (litT A) L (L.length + 1 - (max 0 (min k ((L.length : Int) + 1))).toNat)
  have hc := not_count A L
  show (subs L (L.length + 1 - (max 0 (min k ((L.length : Int) + 1))).toNat)).all (fun C => C.any (litT A)) = _
  rw [h]
  exact decide_eq_decide.2 (by omega)
theorem just_true {A L : List Int} {k : Int} (hL : ∀ x ∈ L, okB x = true) (hk : 0 ≤ k) : cnfT A (leastC L k ++ mostC L k) = decide ((cntL A L : Int) = k) := by
  unfold cnfT
  rw [List.all_append]
  have h1 := most_true (A := A) hL hk
  have h2 := least_true (A := A) (L := L) (k := k)
  unfold cnfT at h1 h2
  rw [h1, h2, Bool.eq_iff_iff]
  simp only [Bool.and_eq_true, decide_eq_true_eq]
  omega
end Go.Proofs.Ytmmmldcnadidkaa.t2
