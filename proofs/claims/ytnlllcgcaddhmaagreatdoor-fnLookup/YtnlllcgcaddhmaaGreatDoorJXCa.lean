/- Caches in which one was put, as plain mathematics: what was put last is found, and there is never more than there is room for; no condition. -/
import Derived.Test.YtnlllcgcaddhmaaGreatDoorJUp
namespace Go.Proofs.YtnlllcgcaddhmaaGreatDoor.cma
open Go.ChangeShapes Go.WideShapes Go.ChangeAt Go.RowKit Go.Maps
open ua (Kn kz okTo okC newTo newTo_iff costB okTo_dist Dist rest putL putK putOk oth oth_iff fndB fndK fndL fnd_parts ent ent_at okC_parts mem_put)
set_option linter.unusedVariables false
theorem okTo_iff (E : List Kn) : ∀ n, okTo E n = true ↔ Dist E n ∧ ∀ i, i < n → costB (E.getD i kz).cost = true
 | 0 => ⟨fun _ => ⟨fun i j _ hj => by omega, fun i hi => by omega⟩, fun _ => rfl⟩
 | n + 1 => by
  unfold ua.okTo
  rw [Bool.and_eq_true, Bool.and_eq_true, okTo_iff E n, newTo_iff]
  constructor
  ·rintro ⟨⟨h1, h2⟩, h3, h4⟩
   refine ⟨fun i j hij hj => ?_, fun i hi => ?_⟩
   ·rcases Nat.lt_succ_iff_lt_or_eq.1 hj with q | rfl
    ·exact h1 i j hij q
    ·exact h3 i hij
   ·rcases Nat.lt_succ_iff_lt_or_eq.1 hi with q | rfl
    ·exact h2 i q
    ·exact h4
  ·rintro ⟨h1, h2⟩
   exact ⟨⟨fun i j hij hj => h1 i j hij (by omega), fun i hi => h2 i (by omega)⟩, fun i hi => h1 i n hi (by omega), h2 n (by omega)⟩
theorem getD_in (E : List Kn) (i : Nat) (h : i < E.length) : E.getD i kz = E[i] := by simp [h]
theorem dist_iff (E : List Kn) : Dist E E.length ↔ E.Pairwise fun a b => a.dg ≠ b.dg := by
 rw [List.pairwise_iff_getElem]
 constructor
 ·intro h i j hi hj hij
  have := h i j hij hj
  rwa [getD_in E i hi, getD_in E j hj] at this
 ·intro h i j hij hj
  rw [getD_in E i (by omega), getD_in E j hj]
  exact h i j (by omega) hj hij
theorem ok_iff (E : List Kn) : okTo E E.length = true ↔ (E.Pairwise fun a b => a.dg ≠ b.dg) ∧ ∀ x ∈ E, costB x.cost = true := by
 rw [okTo_iff, dist_iff]
 constructor
 ·rintro ⟨h1, h2⟩
  refine ⟨h1, fun x hx => ?_⟩
  obtain ⟨i, hi, rfl⟩ := List.getElem_of_mem hx
  have := h2 i hi
  rwa [getD_in E i hi] at this
 ·rintro ⟨h1, h2⟩
  refine ⟨h1, fun i hi => ?_⟩
  rw [getD_in E i hi]
  exact h2 _ (List.getElem_mem hi)
theorem okC_iff (room : Int) (E : List Kn) : okC room E = true ↔ (0 ≤ room ∧ room ≤ 50 ∧ (E.length : Int) ≤ room) ∧ (E.Pairwise fun a b => a.dg ≠ b.dg) ∧ ∀ x ∈ E, costB x.cost = true := by
 unfold ua.okC
 rw [Bool.and_eq_true, Bool.and_eq_true, Bool.and_eq_true, decide_eq_true_eq, decide_eq_true_eq, decide_eq_true_eq, ok_iff]
 constructor
 ·rintro ⟨⟨⟨a, b⟩, c⟩, d⟩
  exact ⟨⟨a, b, c⟩, d⟩
 ·rintro ⟨⟨a, b, c⟩, d⟩
  exact ⟨⟨⟨a, b⟩, c⟩, d⟩
theorem snoc_ok {KK : List Kn} {k : Kn} (h : KK.Pairwise fun a b => a.dg ≠ b.dg) (hc : ∀ x ∈ KK, costB x.cost = true) (hk : costB k.cost = true) :
  ((rest KK k.dg ++ [k]).Pairwise fun a b => a.dg ≠ b.dg) ∧ ∀ x ∈ rest KK k.dg ++ [k], costB x.cost = true := by
 constructor
 ·rw [List.pairwise_append]
  refine ⟨h.filter _, List.pairwise_singleton _ _, fun a ha b hb => ?_⟩
  rw [List.mem_singleton] at hb
  subst hb
  exact oth_iff.1 (List.mem_filter.1 ha).2
 ·intro x hx
  rw [List.mem_append, List.mem_singleton] at hx
  rcases hx with q | rfl
  ·exact hc x (List.mem_filter.1 q).1
  ·exact hk
theorem put_yes {room : Int} {KK : List Kn} {k : Kn} (h : putOk room KK k = true) : putK room KK k = putL room KK k ∧ okC room KK = true ∧ costB k.cost = true := by
 refine ⟨by unfold ua.putK; rw [if_pos h], ?_⟩
 unfold ua.putOk at h
 rwa [Bool.and_eq_true] at h
theorem put_ok {room : Int} {KK : List Kn} {k : Kn} (h : putOk room KK k = true) : okC room (putK room KK k) = true ∧ (0 < room → ∃ A, putK room KK k = A ++ [k]) ∧ (room ≤ 0 → putK room KK k = []) := by
 obtain ⟨e, h1, h2⟩ := put_yes h
 obtain ⟨⟨a, b, c⟩, d, f⟩ := (okC_iff room KK).1 h1
 obtain ⟨s1, s2⟩ := snoc_ok d f h2
 have hl : (rest KK k.dg).length ≤ KK.length := List.length_filter_le _ _
 rw [e]
 unfold ua.putL
 split
 ·rename_i hr
  refine ⟨(okC_iff _ _).2 ⟨⟨a, b, ?_⟩, s1.sublist (List.drop_sublist 1 _), fun x hx => s2 x (List.mem_of_mem_drop hx)⟩, fun h0 => ?_, fun h0 => ?_⟩
  ·rw [List.length_drop, List.length_append, List.length_singleton]
   omega
  ·have hp : 0 < (rest KK k.dg).length := by omega
   refine ⟨(rest KK k.dg).drop 1, ?_⟩
   rw [List.drop_append_of_le_length hp]
  ·have hz : rest KK k.dg = [] := List.eq_nil_of_length_eq_zero (by omega)
   rw [hz]
   rfl
 ·rename_i hr
  refine ⟨(okC_iff _ _).2 ⟨⟨a, b, ?_⟩, s1, s2⟩, fun _ => ⟨_, rfl⟩, fun h0 => by omega⟩
  rw [List.length_append, List.length_singleton]
  omega
theorem put_find {room : Int} {KK : List Kn} {k : Kn} (h : putOk room KK k = true) : fndB room (putK room KK k) k.dg = decide (0 < room) ∧ (0 < room → (fndK room (putK room KK k) k.dg).cost = k.cost ∧ (fndL room (putK room KK k) k.dg).length = (putK room KK k).length) := by
 obtain ⟨h1, h2, h3⟩ := put_ok h
 by_cases h0 : 0 < room
 ·obtain ⟨A, e⟩ := h2 h0
  rw [e] at h1 ⊢
  have hl : A.length < (A ++ [k]).length := by rw [List.length_append, List.length_singleton]; omega
  have hg : (A ++ [k]).getD A.length kz = k := by simp
  have hb : fndB room (A ++ [k]) k.dg = true := by
   unfold ua.fndB
   rw [h1, Bool.true_and, Bool.not_eq_true', ← Bool.not_eq_true, newTo_iff]
   intro q
   exact q A.length hl (by rw [hg])
  refine ⟨by rw [hb, decide_eq_true h0], fun _ => ?_⟩
  have hK : fndK room (A ++ [k]) k.dg = k := by
   unfold ua.fndK
   rw [hb, if_pos rfl, ent_at (okC_parts h1).2.2.2 A.length hl (by rw [hg]), hg]
  refine ⟨by rw [hK], ?_⟩
  obtain ⟨j, hj, _, e2⟩ := fnd_parts hb
  rw [e2, List.length_append, List.length_append, List.length_take, List.length_drop, List.length_singleton]
  omega
 ·refine ⟨?_, fun q => absurd q h0⟩
  rw [h3 (by omega), decide_eq_false h0]
  unfold ua.fndB ua.newTo
  simp
end Go.Proofs.YtnlllcgcaddhmaaGreatDoor.cma
