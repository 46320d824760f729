/- Plain mathematics of Units: what is left of a right formula that was fixed at all its forced literals, and each of them as a clause of its own, is right; no condition. -/
import Derived.Test.YtibpnocpafppaaaDoorJXFz
import Derived.Test.YtibpnocpafppaaaDoorJXWz
import Derived.Test.YtibpnocpafppaaaDoorJSq
namespace Go.Proofs.YtibpnocpafppaaaDoor.hb
open lits (okB okB_iff varI)
open bset (placeN placeN_le setOf setOf_lt setOf_bit setOf_has withN)
open cls (hasB)
open wo (woL)
open fx (fixL)
open ok (cnfB clB litIn)
set_option linter.unusedVariables false
def fixA (LL : List (List Int)) (P : List Int) : List (List Int) := P.foldl (fun F x => fixL x F) LL
theorem fixA_snoc (LL : List (List Int)) (P : List Int) (x : Int) : fixA LL (P ++ [x]) = fixL x (fixA LL P) := by simp [fixA]
def remn (C : List Int) (P : List Int) : List Int := P.foldl (fun C p => woL C (-p)) C
theorem remn_snoc (C P : List Int) (x : Int) : remn C (P ++ [x]) = woL (remn C P) (-x) := by simp [remn]
theorem wo_mem {C : List Int} {x y : Int} : y ∈ woL C x ↔ y ∈ C ∧ y ≠ x := by
 unfold wo.woL
 rw [List.mem_filter]
 simp
theorem remn_mem {C : List Int} {y : Int} (P : List Int) : y ∈ remn C P ↔ y ∈ C ∧ ∀ p ∈ P, y ≠ -p := by
 refine cs.snoc_ind (p := fun P => y ∈ remn C P ↔ y ∈ C ∧ ∀ p ∈ P, y ≠ -p) (by simp [remn]) ?_ P
 ·intro P x ih
  rw [remn_snoc, wo_mem, ih]
  constructor
  ·rintro ⟨⟨h1, h2⟩, h3⟩
   refine ⟨h1, fun p hp => ?_⟩
   rw [List.mem_append, List.mem_singleton] at hp
   rcases hp with hp | rfl
   ·exact h2 p hp
   ·exact h3
  ·rintro ⟨h1, h2⟩
   exact ⟨⟨h1, fun p hp => h2 p (List.mem_append_left _ hp)⟩, h2 x (List.mem_append_right _ (List.mem_singleton.2 rfl))⟩
theorem fixL_mem {x : Int} {F : List (List Int)} {D : List Int} : D ∈ fixL x F ↔ ∃ C ∈ F, hasB C x = false ∧ D = woL C (-x) := by
 unfold fx.fixL
 simp only [List.mem_map, List.mem_filter]
 constructor
 ·rintro ⟨C, ⟨h1, h2⟩, rfl⟩
  exact ⟨C, h1, by simpa using h2, rfl⟩
 ·rintro ⟨C, h1, h2, rfl⟩
  exact ⟨C, ⟨h1, by simpa using h2⟩, rfl⟩
theorem fixA_mem {LL : List (List Int)} {C : List Int} (hC : C ∈ LL) (P : List Int) : (∀ p ∈ P, p ∉ C) → remn C P ∈ fixA LL P := by
 refine cs.snoc_ind (p := fun P => (∀ p ∈ P, p ∉ C) → remn C P ∈ fixA LL P) (fun _ => hC) ?_ P
 ·intro P x ih h
  rw [remn_snoc, fixA_snoc, fixL_mem]
  refine ⟨remn C P, ih (fun p hp => h p (List.mem_append_left _ hp)), ?_, rfl⟩
  unfold cls.hasB
  refine decide_eq_false (fun hm => ?_)
  exact h x (List.mem_append_right _ (List.mem_singleton.2 rfl)) ((remn_mem P).1 hm).1
theorem fixL_drop {x : Int} {F : List (List Int)} {D : List Int} (hD : D ∈ F) (hx : hasB D x = true) : (fixL x F).length + 1 ≤ F.length := by
 unfold fx.fixL
 rw [List.length_map]
 have h1 := List.length_filter_le (fun c : List Int => !hasB c x) F
 rcases Nat.lt_or_ge (F.filter (fun c => !hasB c x)).length F.length with h | h
 ·exact h
 ·have e := List.filter_sublist (p := fun c : List Int => !hasB c x) (l := F)
  have e2 := e.eq_of_length (Nat.le_antisymm h1 h)
  rw [← e2, List.mem_filter] at hD
  rw [hx] at hD
  simp at hD
open wm (clauseN unitN firstN clsd opn frc)
open srt (fstI)
structure Inv (n : Int) (LL : List (List Int)) (T : Nat) (P : List Int) : Prop where
 t : T = setOf P
 l : ∀ p ∈ P, litIn n p = true
 c : (fixA LL P).length + P.length ≤ LL.length
theorem lit_ok {n x : Int} (h : litIn n x = true) : okB x = true := by
 unfold ok.litIn at h
 rw [Bool.and_eq_true] at h
 exact h.1
theorem cnf_lit {n : Int} {LL : List (List Int)} (h : cnfB n LL = true) {C : List Int} (hC : C ∈ LL) {x : Int} (hx : x ∈ C) : litIn n x = true := by
 unfold ok.cnfB at h
 rw [Bool.and_eq_true, Bool.and_eq_true, List.all_eq_true] at h
 have h1 := h.2 C hC
 unfold ok.clB at h1
 rw [Bool.and_eq_true, List.all_eq_true] at h1
 exact h1.1 x hx
theorem has_bit {L : List Int} {x : Int} (hx : okB x = true) (h : x ∈ L) : (setOf L).testBit (placeN x) = true := by
 rw [setOf_has L x hx]
 exact decide_eq_true h
theorem Inv.step {n : Int} {LL : List (List Int)} {T : Nat} {P : List Int} (hB : cnfB n LL = true) (h : Inv n LL T P) (h1 : (unitN (LL.map setOf) T).2 = true) (h0 : (unitN (LL.map setOf) T).1 ≠ 0) : Inv n LL (withN T (unitN (LL.map setOf) T).1) (P ++ [(unitN (LL.map setOf) T).1]) := by
 unfold wm.unitN at h1 h0 ⊢
 split at h1
 ·cases h1
 ·rename_i hany
  rw [if_neg hany] at h0 ⊢
  simp only at h0 ⊢
  obtain ⟨y, hy, e⟩ : ∃ y, y ∈ (LL.map setOf).map (clauseN · T) ∧ firstN ((LL.map setOf).map (clauseN · T)) = y := by
   unfold wm.firstN at h0 ⊢
   cases hf : ((LL.map setOf).map (clauseN · T)).find? (fun x => x != 0) with
   | none => rw [hf] at h0; exact absurd rfl h0
   | some y => exact ⟨y, List.mem_of_find?_eq_some hf, rfl⟩
  rw [e] at h0 ⊢
  have hne : y ≠ -100 := by
   intro e'
   apply hany
   rw [List.any_eq_true]
   exact ⟨y, hy, by simp [e']⟩
  obtain ⟨S, hS, rfl⟩ := List.mem_map.1 hy
  obtain ⟨C, hC, rfl⟩ := List.mem_map.1 hS
  have hbd := setOf_lt C
  clear e hy hS hany
  have hc : clsd (setOf C) T = false := by
   cases hq : clsd (setOf C) T
   ·rfl
   ·exact absurd (wm.clauseN_closed hq) h0
  have ho : opn (setOf C) T ≠ 0 := fun hq => hne (wm.clauseN_empty hc hq)
  have hob : opn (setOf C) T < 2 ^ 48 := srt.andN_lt _ _ hbd
  have hx : clauseN (setOf C) T = fstI (opn (setOf C) T) := by
   by_cases hr : srt.woN (opn (setOf C) T) (fstI (opn (setOf C) T)) = 0
   ·exact wm.clauseN_one hc ho hr
   ·exact absurd (wm.clauseN_two hc ho hr) h0
  obtain ⟨f1, f2⟩ := wm.fst_spec (Nat.pos_of_ne_zero ho) hob
  rw [← hx] at f1 f2
  generalize clauseN (setOf C) T = x at *
  rw [wm.opn_bit _ _ _ hbd, Bool.and_eq_true, wm.swp_place f1] at f2
  have xC : x ∈ C := by
   have := f2.1
   rw [setOf_has C x f1] at this
   exact of_decide_eq_true this
  have hP : ∀ p ∈ P, p ∉ C := by
   intro p hp hm
   have okp := lit_ok (h.l p hp)
   refine wm.clsd_no.1 hc (placeN p) ⟨has_bit okp hm, ?_⟩
   rw [h.t]
   exact has_bit okp hp
  have hN : ∀ p ∈ P, x ≠ -p := by
   rintro p hp rfl
   have okp := lit_ok (h.l p hp)
   have hb := f2.2
   rw [Int.neg_neg, h.t, has_bit okp hp] at hb
   cases hb
  have hm := fixA_mem hC P hP
  have hd := fixL_drop hm (x := x) (decide_eq_true ((remn_mem P).2 ⟨xC, hN⟩))
  refine ⟨?_, ?_, ?_⟩
  ·rw [bset.setOf_snoc, f1, if_pos rfl, h.t]
  ·intro p hp
   rw [List.mem_append, List.mem_singleton] at hp
   rcases hp with hp | rfl
   ·exact h.l p hp
   ·exact cnf_lit hB hC xC
  ·rw [fixA_snoc, List.length_append]
   have := h.c
   simp only [List.length_cons, List.length_nil]
   omega
theorem frc_inv {n : Int} {LL : List (List Int)} (hB : cnfB n LL = true) : ∀ (k T : Nat) (P : List Int), Inv n LL T P → (frc (LL.map setOf) k T P).2 = true → ∃ T', Inv n LL T' (frc (LL.map setOf) k T P).1
 | 0, T, P, h, _ => ⟨T, h⟩
 | k + 1, T, P, h, hq => by
  cases h1 : (unitN (LL.map setOf) T).2
  ·rw [wm.frc_stop h1] at hq
   cases hq
  ·by_cases h0 : (unitN (LL.map setOf) T).1 = 0
   ·rw [wm.frc_end h1 h0]
    exact ⟨T, h⟩
   ·rw [wm.frc_more h1 h0] at hq ⊢
    exact frc_inv hB k _ _ (h.step hB h1 h0) hq
theorem inv_zero (n : Int) (LL : List (List Int)) : Inv n LL (setOf []) [] := ⟨rfl, (fun p hp => by cases hp), by simp [fixA]⟩
theorem cl_wo {n y : Int} {C : List Int} (h : clB n C = true) : clB n (woL C y) = true := by
 unfold ok.clB at h ⊢
 rw [Bool.and_eq_true, List.all_eq_true, decide_eq_true_iff] at h ⊢
 exact ⟨fun x hx => h.1 x (wo_mem.1 hx).1, Nat.le_trans (wo.woL_le C y) h.2⟩
theorem cnf_parts {n : Int} {LL : List (List Int)} : cnfB n LL = true ↔ (0 ≤ n ∧ n ≤ 24) ∧ LL.length ≤ 120 ∧ ∀ C ∈ LL, clB n C = true := by
 unfold ok.cnfB
 rw [Bool.and_eq_true, Bool.and_eq_true, List.all_eq_true, decide_eq_true_iff, decide_eq_true_iff, and_assoc]
theorem fix_ok {n x : Int} {F : List (List Int)} (h : cnfB n F = true) : cnfB n (fixL x F) = true := by
 rw [cnf_parts] at h ⊢
 refine ⟨h.1, Nat.le_trans (fx.fixL_len x F) h.2.1, fun D hD => ?_⟩
 obtain ⟨C, hC, _, rfl⟩ := fixL_mem.1 hD
 exact cl_wo (h.2.2 C hC)
theorem fixA_ok {n : Int} {LL : List (List Int)} (h : cnfB n LL = true) (P : List Int) : cnfB n (fixA LL P) = true := by
 refine cs.snoc_ind (p := fun P => cnfB n (fixA LL P) = true) h ?_ P
 intro P x ih
 rw [fixA_snoc]
 exact fix_ok ih
def unR (LL : List (List Int)) (P : List Int) : List (List Int) := fixA LL P ++ P.map (fun x => [x])
theorem un_ok {n : Int} {LL : List (List Int)} {T : Nat} {P : List Int} (hB : cnfB n LL = true) (h : Inv n LL T P) : cnfB n (unR LL P) = true := by
 have h1 := cnf_parts.1 (fixA_ok hB P)
 have h2 := cnf_parts.1 hB
 rw [cnf_parts]
 refine ⟨h1.1, ?_, fun C hC => ?_⟩
 ·unfold unR
  rw [List.length_append, List.length_map]
  have := h.c
  omega
 ·unfold unR at hC
  rw [List.mem_append, List.mem_map] at hC
  rcases hC with hC | ⟨p, hp, rfl⟩
  ·exact h1.2.2 C hC
  ·unfold ok.clB
   simp [h.l p hp]
end Go.Proofs.YtibpnocpafppaaaDoor.hb
