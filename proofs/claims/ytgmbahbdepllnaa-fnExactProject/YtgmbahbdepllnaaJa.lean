/- Mathematics of a variable that is flipped and of two that are swapped; conditions: a right formula, its own variables, an assignment of it. -/
import Derived.Test.YtgmbahbdepllnaaGi
import Derived.Test.YtgmbahbdepllnaaMf
namespace Go.Proofs.Ytgmbahbdepllnaa.ja
open Go.Proofs.Ytgmbahbdepllnaa.lits (okB okB_iff varI)
open Go.Proofs.Ytgmbahbdepllnaa.ok (litIn clB cnfB)
open Go.Proofs.Ytgmbahbdepllnaa.tr (litT clT cnfT)
open Go.Proofs.Ytgmbahbdepllnaa.ge (exZ flR swR hvB)
open Go.Proofs.Ytgmbahbdepllnaa.mf (pl)
set_option linter.unusedVariables false

/-- a literal of a formula -/
theorem lit_in {n z : Int} (h : litIn n z = true) : z ≠ 0 ∧ (if z < 0 then -z else z) ≤ n ∧ -24 ≤ z ∧ z ≤ 24 ∧ varI z = (if z < 0 then -z else z) := by
  unfold ok.litIn at h
  rw [Bool.and_eq_true, decide_eq_true_iff] at h
  have h1 := okB_iff.1 h.1
  have h2 := lits.varI_yes h1
  rw [h2] at h
  exact ⟨h1.1, h.2, h1.2.1, h1.2.2, h2⟩
theorem in_lit {n z : Int} (h0 : z ≠ 0) (h1 : (if z < 0 then -z else z) ≤ n) (h2 : n ≤ 24) : litIn n z = true := by
  have hb : z ≠ 0 ∧ -24 ≤ z ∧ z ≤ 24 := by split at h1 <;> omega
  unfold ok.litIn
  rw [Bool.and_eq_true, decide_eq_true_iff, lits.varI_yes hb]
  exact ⟨okB_iff.2 hb, h1⟩
theorem flip_in {n v z : Int} (hv : 1 ≤ v ∧ v ≤ n) (hn : n ≤ 24) (h : litIn n z = true) : litIn n (exZ v (-v) z) = true ∧ exZ v (-v) (exZ v (-v) z) = z := by
  obtain ⟨h0, h1, h2, h3, _⟩ := lit_in h
  unfold exZ
  constructor
  · by_cases a : z = -v
    · rw [if_pos a]
      exact in_lit (by omega) (by split <;> omega) hn
    · rw [if_neg a]
      by_cases b : z = v
      · rw [if_pos b]
        exact in_lit (by omega) (by split <;> omega) hn
      · rw [if_neg b, if_neg (by omega), if_neg a]
        exact h
  · by_cases a : z = -v
    · rw [if_pos a, if_neg (by omega), if_pos (by omega)]
      omega
    · rw [if_neg a]
      by_cases b : z = v
      · rw [if_pos b, if_pos rfl]
        omega
      · rw [if_neg b, if_neg (show ¬ z = - -v by omega), if_neg a, if_neg a, if_neg b, if_neg (show ¬ z = - -v by omega), if_neg a]
theorem swap_in {n v u z : Int} (hv : 1 ≤ v ∧ v ≤ n) (hu : 1 ≤ u ∧ u ≤ n) (hn : n ≤ 24) (h : litIn n z = true) : litIn n (exZ v u z) = true ∧ exZ v u (exZ v u z) = z := by
  obtain ⟨h0, h1, h2, h3, _⟩ := lit_in h
  unfold exZ
  by_cases a : z = -v
  · rw [if_pos a]
    refine ⟨in_lit (by omega) (by split <;> omega) hn, ?_⟩
    by_cases e : v = u
    · rw [if_pos (by omega)]; omega
    · rw [if_neg (by omega), if_neg (by omega), if_pos rfl]; omega
  · rw [if_neg a]
    by_cases b : z = v
    · rw [if_pos b]
      refine ⟨in_lit (by omega) (by split <;> omega) hn, ?_⟩
      by_cases e : v = u
      · rw [if_neg (by omega), if_pos (by omega)]; omega
      · rw [if_neg (by omega), if_neg (by omega), if_neg (by omega), if_pos rfl]; omega
    · rw [if_neg b]
      by_cases c : z = -u
      · rw [if_pos c]
        refine ⟨in_lit (by omega) (by split <;> omega) hn, ?_⟩
        rw [if_pos rfl]; omega
      · rw [if_neg c]
        by_cases d : z = u
        · rw [if_pos d]
          refine ⟨in_lit (by omega) (by split <;> omega) hn, ?_⟩
          rw [if_neg (by omega), if_pos rfl]; omega
        · rw [if_neg d]
          exact ⟨h, by rw [if_neg a, if_neg b, if_neg c, if_neg d]⟩
theorem map_all {n : Int} {f : Int → Int} {LL : List (List Int)} (hf : ∀ z, litIn n z = true → litIn n (f z) = true ∧ f (f z) = z) (h : cnfB n LL = true) : cnfB n (LL.map (List.map f)) = true ∧ (LL.map (List.map f)).map (List.map f) = LL := by
  unfold ok.cnfB at *
  simp only [Bool.and_eq_true, List.length_map, List.all_map, List.all_eq_true, Function.comp_apply, ok.clB, List.length_map] at *
  refine ⟨⟨h.1, fun L hL => ⟨fun z hz => (hf z ((h.2 L hL).1 z hz)).1, (h.2 L hL).2⟩⟩, ?_⟩
  rw [List.map_map]
  conv => rhs; rw [← List.map_id LL]
  apply List.map_congr_left
  intro L hL
  show (L.map f).map f = L
  rw [List.map_map]
  conv => rhs; rw [← List.map_id L]
  apply List.map_congr_left
  intro z hz
  exact (hf z ((h.2 L hL).1 z hz)).2
theorem flip_ok {n v : Int} {LL : List (List Int)} (h : hvB n v LL = true) : cnfB n (flR v LL) = true ∧ flR v (flR v LL) = LL := by
  obtain ⟨h1, h2, h3, h4⟩ := ge.hv_yes h
  exact map_all (fun z hz => flip_in ⟨h2, h3⟩ h4 hz) h1
theorem swap_ok {n v u : Int} {LL : List (List Int)} (h : hvB n v LL = true) (k : hvB n u LL = true) : cnfB n (swR v u LL) = true ∧ swR v u (swR v u LL) = LL := by
  obtain ⟨h1, h2, h3, h4⟩ := ge.hv_yes h
  obtain ⟨_, k2, k3, _⟩ := ge.hv_yes k
  exact map_all (fun z hz => swap_in ⟨h2, h3⟩ ⟨k2, k3⟩ h4 hz) h1
/-- whether a literal is true, by its place -/
theorem lit_at {n z : Int} {A : List Int} (h : litIn n z = true) (hl : (A.length : Int) = n) : litT A z = (decide (A.getD ((if z < 0 then -z else z) - 1).toNat 0 = 1) == decide (0 < z)) := by
  obtain ⟨h0, h1, h2, h3, h4⟩ := lit_in h
  unfold tr.litT
  rw [h4, if_neg (by split <;> omega), decide_eq_true (show (if z < 0 then -z else z) ≤ (A.length : Int) by omega), Bool.true_and]
theorem cnf_map {n : Int} {f : Int → Int} {LL : List (List Int)} {X Y : List Int} (h : cnfB n LL = true) (hf : ∀ z, litIn n z = true → litT X (f z) = litT Y z) : cnfT X (LL.map (List.map f)) = cnfT Y LL := by
  unfold ok.cnfB at h
  simp only [Bool.and_eq_true, List.all_eq_true, ok.clB] at h
  unfold tr.cnfT
  rw [Bool.eq_iff_iff]
  simp only [List.all_map, List.all_eq_true, Function.comp_apply]
  have e : ∀ L ∈ LL, clT X (L.map f) = clT Y L := by
    intro L hL
    unfold tr.clT
    rw [List.any_map, Bool.eq_iff_iff]
    simp only [List.any_eq_true, Function.comp_apply]
    constructor
    · rintro ⟨z, hz, hx⟩
      exact ⟨z, hz, by rw [← hf z ((h.2 L hL).1 z hz)]; exact hx⟩
    · rintro ⟨z, hz, hx⟩
      exact ⟨z, hz, by rw [hf z ((h.2 L hL).1 z hz)]; exact hx⟩
  exact ⟨fun H L hL => by rw [← e L hL]; exact H L hL, fun H L hL => by rw [e L hL]; exact H L hL⟩
theorem set_get (A : List Int) (i j : Nat) (x : Int) : (A.set i x).getD j 0 = if i = j ∧ i < A.length then x else A.getD j 0 := by
  simp only [List.getD_eq_getElem?_getD, List.getElem?_set]
  by_cases h : i = j
  · subst h
    by_cases h2 : i < A.length
    · simp [h2]
    · simp [h2]
  · simp [h]
theorem flip_true {n v : Int} {LL : List (List Int)} {X : List Int} (h : hvB n v LL = true) (hl : (X.length : Int) = n) (hb : X.getD (v - 1).toNat 0 = 0 ∨ X.getD (v - 1).toNat 0 = 1) : cnfT X (flR v LL) = cnfT (X.set (v - 1).toNat (1 - X.getD (v - 1).toNat 0)) LL := by
  obtain ⟨h1, h2, h3, h4⟩ := ge.hv_yes h
  refine cnf_map h1 fun z hz => ?_
  have hz2 := (flip_in ⟨h2, h3⟩ h4 hz).1
  rw [lit_at hz2 hl, lit_at hz (by rw [List.length_set]; exact hl), set_get]
  obtain ⟨z0, z1, z2, z3, _⟩ := lit_in hz
  have far : z ≠ v → z ≠ -v → ¬ ((v - 1).toNat = ((if z < 0 then -z else z) - 1).toNat ∧ (v - 1).toNat < X.length) := by
    intro e1 e2 e3
    have e4 := e3.1
    split at e4 <;> omega
  unfold exZ
  by_cases a : z = -v
  · rw [if_pos a, if_neg (show ¬ - -v < 0 by omega), if_pos (show z < 0 by omega), if_pos (by omega), show - -v - 1 = v - 1 by omega, decide_eq_true (show 0 < - -v by omega), decide_eq_false (show ¬ 0 < z by omega)]
    rcases hb with e | e <;> rw [e] <;> rfl
  · rw [if_neg a]
    by_cases b : z = v
    · rw [if_pos b, if_pos (show -v < 0 by omega), if_neg (show ¬ z < 0 by omega), if_pos (by omega), show - -v - 1 = v - 1 by omega, decide_eq_false (show ¬ 0 < -v by omega), decide_eq_true (show 0 < z by omega)]
      rcases hb with e | e <;> rw [e] <;> rfl
    · rw [if_neg b, if_neg (show ¬ z = - -v by omega), if_neg a, if_neg (far b a)]
theorem swap_true {n v u : Int} {LL : List (List Int)} {X : List Int} (h : hvB n v LL = true) (k : hvB n u LL = true) (hl : (X.length : Int) = n) : cnfT X (swR v u LL) = cnfT ((X.set (v - 1).toNat (X.getD (u - 1).toNat 0)).set (u - 1).toNat (X.getD (v - 1).toNat 0)) LL := by
  obtain ⟨h1, h2, h3, h4⟩ := ge.hv_yes h
  obtain ⟨_, k2, k3, _⟩ := ge.hv_yes k
  refine cnf_map h1 fun z hz => ?_
  have hz2 := (swap_in ⟨h2, h3⟩ ⟨k2, k3⟩ h4 hz).1
  rw [lit_at hz2 hl, lit_at hz (by rw [List.length_set, List.length_set]; exact hl), set_get, set_get, List.length_set]
  obtain ⟨z0, z1, z2, z3, _⟩ := lit_in hz
  have far : ∀ q : Int, 1 ≤ q → q ≤ n → z ≠ q → z ≠ -q → ¬ ((q - 1).toNat = ((if z < 0 then -z else z) - 1).toNat ∧ (q - 1).toNat < X.length) := by
    intro q q1 q2 e1 e2 e3
    have e4 := e3.1
    split at e4 <;> omega
  unfold exZ
  by_cases a : z = -v
  · rw [if_pos a, if_pos (show z < 0 by omega), if_pos (show -u < 0 by omega), show - -u - 1 = u - 1 by omega, decide_eq_false (show ¬ 0 < z by omega), decide_eq_false (show ¬ 0 < -u by omega)]
    by_cases e : u = v
    · rw [if_pos (by omega), e]
    · rw [if_neg (by omega), if_pos (by omega)]
  · rw [if_neg a]
    by_cases b : z = v
    · rw [if_pos b, if_neg (show ¬ z < 0 by omega), if_neg (show ¬ u < 0 by omega), decide_eq_true (show 0 < z by omega), decide_eq_true (show 0 < u by omega)]
      by_cases e : u = v
      · rw [if_pos (by omega), e]
      · rw [if_neg (by omega), if_pos (by omega)]
    · rw [if_neg b]
      by_cases c : z = -u
      · rw [if_pos c, if_pos (show z < 0 by omega), if_pos (show -v < 0 by omega), show - -v - 1 = v - 1 by omega, decide_eq_false (show ¬ 0 < z by omega), decide_eq_false (show ¬ 0 < -v by omega), if_pos (by omega)]
      · rw [if_neg c]
        by_cases d : z = u
        · rw [if_pos d, if_neg (show ¬ z < 0 by omega), if_neg (show ¬ v < 0 by omega), decide_eq_true (show 0 < z by omega), decide_eq_true (show 0 < v by omega), if_pos (by omega)]
        · rw [if_neg d, if_neg (far u k2 k3 d c), if_neg (far v h2 h3 b a)]
end Go.Proofs.Ytgmbahbdepllnaa.ja
