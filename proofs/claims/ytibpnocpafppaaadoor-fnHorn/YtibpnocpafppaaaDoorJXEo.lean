/- Plain mathematics of FnHorn: how often literals occur; what is forced is true wherever a formula is; a formula of clauses with at most one positive literal is true where just what is forced is. No condition. -/
import Derived.Test.YtibpnocpafppaaaDoorJXGc
import Derived.Test.YtibpnocpafppaaaDoorJXGa
import Derived.Test.YtibpnocpafppaaaDoorJXMq
import Derived.Test.YtibpnocpafppaaaDoorJXMs
import Derived.Test.YtibpnocpafppaaaDoorJXLq
namespace Go.Proofs.YtibpnocpafppaaaDoor.eo
open Go.RowKit
open lits (okB okB_iff)
open bset (placeN placeN_le setOf setOf_lt setOf_has setOf_bit withN)
open srt (swp litI fstI woN)
open cls (hasB)
open ok (cnfB clB litIn)
open tr (litT clT cnfT)
open lq (solveL holds lst lst_some lst_none Bits)
open wm (frc pc swp_place opp_ok unitN clauseN clsd opn forceB okU firstN)
open gc (occN occI posN oneB hornB)
open ga (widN widI)
open cs (cnfS good)
set_option linter.unusedVariables false
theorem wrap_in {x : Int} (h0 : -9223372036854775808 ≤ x) (h1 : x ≤ 9223372036854775807) : IntKind.i64.wrap x = x := by
 simp [IntKind.wrap, IntKind.signed, IntKind.bits]
 omega
theorem own_none (lo hi : Nat) (w : World) : sl.Own lo hi w (.slice none 0 0) [] := ⟨⟨rfl, .inl ⟨rfl, rfl⟩⟩, fun k e => by cases e⟩
def ocN (n x : Int) (LL : List (List Int)) : Nat := if cnfB n LL then occN x LL else 0
theorem oc_eq (n x : Int) (LL : List (List Int)) : occI n x LL = (ocN n x LL : Int) := by
 unfold gc.occI ocN
 split <;> rfl
def sumO (n : Int) (LL : List (List Int)) : Nat → Nat
 | 0 => 0
 | k + 1 => sumO n LL k + ocN n ((k : Int) - 24) LL
theorem oc_le (n x : Int) (LL : List (List Int)) : ocN n x LL ≤ 120 := by
 unfold ocN
 split
 ·rename_i h
  exact Nat.le_trans (gc.occ_le x LL) (fm.cnf_facts h).2.2.1
 ·omega
theorem sumO_le (n : Int) (LL : List (List Int)) (k : Nat) : sumO n LL k ≤ k * 120 := by
 induction k with
 | zero => exact Nat.le_refl _
 | succ k ih =>
  have := oc_le n ((k : Int) - 24) LL
  show sumO n LL k + _ ≤ _
  omega
theorem sumO_no {n : Int} {LL : List (List Int)} (h : cnfB n LL = false) (k : Nat) : sumO n LL k = 0 := by
 induction k with
 | zero => rfl
 | succ k ih =>
  show sumO n LL k + _ = 0
  rw [ih]
  unfold ocN
  rw [h]
  rfl
def hasN (C : List Int) : Nat → Nat
 | 0 => 0
 | k + 1 => hasN C k + (if hasB C ((k : Int) - 24) then 1 else 0)
theorem hasN_nil (k : Nat) : hasN [] k = 0 := by
 induction k with
 | zero => rfl
 | succ k ih =>
  show hasN [] k + _ = 0
  rw [ih]
  rfl
theorem hasN_one (x : Int) (k : Nat) : hasN [x] k ≤ 1 ∧ (x < (k : Int) - 24 ∨ hasN [x] k = 0) := by
 induction k with
 | zero => exact ⟨Nat.zero_le _, .inr rfl⟩
 | succ k ih =>
  show hasN [x] k + _ ≤ 1 ∧ (_ ∨ hasN [x] k + _ = 0)
  by_cases e : x = (k : Int) - 24
  ·have : hasB [x] ((k : Int) - 24) = true := by unfold cls.hasB; simp [e]
   rw [this]
   simp only [if_true]
   constructor
   ·rcases ih.2 with h | h <;> omega
   ·left; omega
  ·have : hasB [x] ((k : Int) - 24) = false := by
    unfold cls.hasB
    rw [decide_eq_false]
    intro h
    rw [List.mem_singleton] at h
    exact e h.symm
   rw [this]
   simp only [Bool.false_eq_true, if_false]
   constructor
   ·omega
   ·rcases ih.2 with h | h
    ·left; omega
    ·right; omega
theorem hasN_cons (x : Int) (C : List Int) (k : Nat) : hasN (x :: C) k ≤ hasN [x] k + hasN C k := by
 induction k with
 | zero => exact Nat.le_refl _
 | succ k ih =>
  show hasN (x :: C) k + _ ≤ hasN [x] k + _ + (hasN C k + _)
  have : (if hasB (x :: C) ((k : Int) - 24) then 1 else 0) ≤ (if hasB [x] ((k : Int) - 24) then 1 else 0) + (if hasB C ((k : Int) - 24) then 1 else 0) := by
   unfold cls.hasB
   by_cases h1 : (k : Int) - 24 = x
   ·simp [h1]
   ·by_cases h2 : (k : Int) - 24 ∈ C
    ·simp [h1, h2]
    ·simp [h1, h2]
  omega
theorem hasN_le (k : Nat) : ∀ C : List Int, hasN C k ≤ C.length
 | [] => by rw [hasN_nil]; exact Nat.le_refl _
 | x :: C => by
  have h1 := hasN_cons x C k
  have h2 := hasN_le k C
  have h3 := (hasN_one x k).1
  rw [List.length_cons]
  omega
def sumC (LL : List (List Int)) (k : Nat) : Nat := (LL.map fun C => hasN C k).sum
theorem sumC_zero : ∀ LL : List (List Int), sumC LL 0 = 0
 | [] => rfl
 | C :: LL => by
  have := sumC_zero LL
  unfold sumC at this ⊢
  rw [List.map_cons, List.sum_cons, this]
  rfl
theorem sumC_succ (k : Nat) : ∀ LL : List (List Int), sumC LL (k + 1) = sumC LL k + occN ((k : Int) - 24) LL
 | [] => rfl
 | C :: LL => by
  have ih := sumC_succ k LL
  unfold sumC gc.occN at ih ⊢
  rw [List.map_cons, List.sum_cons, List.map_cons, List.sum_cons, ih]
  show hasN C k + _ + _ = _
  cases h : hasB C ((k : Int) - 24)
  ·rw [List.filter_cons_of_neg (by simp [h])]
   simp only [Bool.false_eq_true, if_false]
   omega
  ·rw [List.filter_cons_of_pos (by simp [h]), List.length_cons]
   simp only [if_true]
   omega
theorem sumO_sumC {n : Int} {LL : List (List Int)} (h : cnfB n LL = true) (k : Nat) : sumO n LL k = sumC LL k := by
 induction k with
 | zero => exact (sumC_zero LL).symm
 | succ k ih =>
  rw [sumC_succ, ← ih]
  show _ + ocN _ _ _ = _
  unfold ocN
  rw [h]
  rfl
theorem fold_ge (LL : List (List Int)) : ∀ m : Nat, m ≤ LL.foldl (fun m C => max m C.length) m ∧ ∀ C ∈ LL, C.length ≤ LL.foldl (fun m C => max m C.length) m := by
 induction LL with
 | nil => exact fun m => ⟨Nat.le_refl _, fun C h => by cases h⟩
 | cons D LL ih =>
  intro m
  rw [List.foldl_cons]
  have h := ih (max m D.length)
  refine ⟨by omega, fun C hC => ?_⟩
  rcases List.mem_cons.1 hC with rfl | hC
  ·omega
  ·exact h.2 C hC
theorem wid_in {LL : List (List Int)} {C : List Int} (h : C ∈ LL) : C.length ≤ widN LL := (fold_ge LL 0).2 C h
theorem fold_le (K : Nat) (LL : List (List Int)) : ∀ m : Nat, m ≤ K → (∀ C ∈ LL, C.length ≤ K) → LL.foldl (fun m C => max m C.length) m ≤ K := by
 induction LL with
 | nil => exact fun m h _ => h
 | cons D LL ih =>
  intro m hm h
  rw [List.foldl_cons]
  have := h D (List.mem_cons_self ..)
  exact ih _ (by omega) (fun C hC => h C (List.mem_cons_of_mem _ hC))
theorem sumC_le (k : Nat) : ∀ (LL : List (List Int)) (W : Nat), (∀ C ∈ LL, C.length ≤ W) → sumC LL k ≤ W * LL.length
 | [], W, _ => by simp [sumC]
 | C :: LL, W, h => by
  have ih := sumC_le k LL W (fun D hD => h D (List.mem_cons_of_mem _ hD))
  have h1 := Nat.le_trans (hasN_le k C) (h C (List.mem_cons_self ..))
  unfold sumC at ih ⊢
  rw [List.map_cons, List.sum_cons, List.length_cons, Nat.mul_add, Nat.mul_one]
  omega
theorem occ_width {n : Int} {LL : List (List Int)} (h : cnfB n LL = true) (k : Nat) : (sumO n LL k : Int) ≤ widI n LL * (LL.length : Int) := by
 have h1 := sumC_le k LL (widN LL) (fun C hC => wid_in hC)
 rw [sumO_sumC h]
 unfold ga.widI
 rw [h, if_pos rfl, ← Int.natCast_mul]
 omega
theorem wid_le {n : Int} {LL : List (List Int)} (h : cnfB n LL = true) : widN LL ≤ 48 := fold_le 48 LL 0 (Nat.zero_le _) (fun C hC => ((fm.cnf_facts h).2.2.2 C hC).1)
def trueL (m : Nat) (A : List Int) : List Int := ((List.range m).flatMap fun (j : Nat) => [(j : Int) + 1, -((j : Int) + 1)]).filter (litT A)
theorem lit_mem {m : Nat} {x : Int} (h : litIn (m : Int) x = true) : x ∈ (List.range m).flatMap fun (j : Nat) => [(j : Int) + 1, -((j : Int) + 1)] := by
 unfold ok.litIn at h
 rw [Bool.and_eq_true, decide_eq_true_iff] at h
 have hk := okB_iff.1 h.1
 have hv := h.2
 unfold lits.varI at hv
 rw [h.1, if_pos rfl] at hv
 rw [List.mem_flatMap]
 by_cases hx : 0 < x
 ·refine ⟨(x - 1).toNat, ?_, ?_⟩
  ·rw [List.mem_range]
   split at hv <;> omega
  ·have e : (((x - 1).toNat : Nat) : Int) + 1 = x := by omega
   rw [e]
   exact List.mem_cons_self ..
 ·refine ⟨(-x - 1).toNat, ?_, ?_⟩
  ·rw [List.mem_range]
   split at hv <;> omega
  ·have e : -((((-x - 1).toNat : Nat) : Int) + 1) = x := by omega
   rw [e]
   simp
theorem lit_okB {n x : Int} (h : litIn n x = true) : okB x = true := by
 unfold ok.litIn at h
 rw [Bool.and_eq_true] at h
 exact h.1
theorem true_bit {m : Nat} {A : List Int} {x : Int} (h : litIn (m : Int) x = true) : (setOf (trueL m A)).testBit (placeN x) = litT A x := by
 have hx := lit_okB h
 rw [setOf_has _ x hx]
 unfold cls.hasB trueL
 rw [Bool.eq_iff_iff, decide_eq_true_iff, List.mem_filter]
 exact ⟨fun q => q.2, fun q => ⟨lit_mem h, q⟩⟩
theorem var_neg {x : Int} (h : okB x = true) : lits.varI (-x) = lits.varI x := by
 unfold lits.varI
 rw [opp_ok h, h]
 have := okB_iff.1 h
 simp only [if_true]
 split <;> split <;> omega
theorem neg_lit {m : Nat} {x : Int} (h : litIn (m : Int) x = true) : litIn (m : Int) (-x) = true := by
 unfold ok.litIn at h ⊢
 rw [Bool.and_eq_true, decide_eq_true_iff] at h
 rw [opp_ok h.1, var_neg h.1, decide_eq_true h.2]
 rfl
theorem lit_opp {A : List Int} {x : Int} (h : okB x = true) : litT A (-x) = !litT A x := by
 have hk := okB_iff.1 h
 have h0 : lits.varI x ≠ 0 := by
  unfold lits.varI
  rw [h]
  simp only [if_true]
  split <;> omega
 unfold tr.litT
 rw [var_neg h, if_neg h0, if_neg h0]
 have e : decide (0 < -x) = !decide (0 < x) := by
  by_cases q : 0 < x
  ·rw [decide_eq_true q, decide_eq_false (by omega)]
   rfl
  ·rw [decide_eq_false q, decide_eq_true (by omega)]
   rfl
 rw [e]
 cases (decide (lits.varI x ≤ (A.length : Int)) && decide (A.getD (lits.varI x - 1).toNat 0 = 1)) <;> cases decide (0 < x) <;> rfl
theorem set_bits {m : Nat} {LL : List (List Int)} (hc : cnfB (m : Int) LL = true) : ∀ S ∈ LL.map setOf, ∀ b, S.testBit b = true → b < 2 * m := by
 intro S hS b hb
 rw [List.mem_map] at hS
 obtain ⟨c, hc', rfl⟩ := hS
 rw [setOf_bit, List.any_eq_true] at hb
 obtain ⟨x, hx, e⟩ := hb
 rw [Bool.and_eq_true, decide_eq_true_iff] at e
 rw [← e.2]
 exact ml.lit_place (((fm.cnf_facts hc).2.2.2 c hc').2 x hx)
theorem fair_true (m : Nat) (A : List Int) (hm : m ≤ 24) : ml.Fair m (setOf (trueL m A)) := by
 intro b hb
 have hp := ms.place_lit b (by omega)
 have ho := (wm.litI_spec (t := b) (by omega)).1
 have hl : litIn (m : Int) (litI b) = true := mq.place_lit ho (by rw [hp]; exact hb)
 have e : swp b = placeN (-(litI b)) := by rw [← swp_place ho, hp]
 rw [e, true_bit (neg_lit hl), lit_opp ho]
 have e2 := true_bit (A := A) hl
 rw [hp] at e2
 rw [e2]
theorem force_fine {m : Nat} {G : List (List Int)} (hc : cnfB (m : Int) G = true) {A : List Int} (hA : cnfT A G = true) : (forceB (m : Int) G []).2 = true := by
 have hu : okU (m : Int) G [] = true := by unfold wm.okU; rw [hc]; rfl
 unfold wm.forceB
 rw [if_pos hu]
 have cf := fm.cnf_facts hc
 refine ml.force_true (m := m) (W := setOf (trueL m A)) (wm.set_bd G) (set_bits hc) (fair_true m A (by omega)) ?_ 49 (setOf []) [] ?_
 ·intro S hS h0
  rw [List.mem_map] at hS
  obtain ⟨c, hc', rfl⟩ := hS
  unfold tr.cnfT at hA
  rw [List.all_eq_true] at hA
  have h1 := hA c hc'
  unfold tr.clT at h1
  rw [List.any_eq_true] at h1
  obtain ⟨x, hx, ht⟩ := h1
  have hl := (cf.2.2.2 c hc').2 x hx
  have b1 : (setOf c).testBit (placeN x) = true := by rw [setOf_has c x (lit_okB hl)]; exact decide_eq_true hx
  have b2 := true_bit (A := A) hl
  rw [ht] at b2
  have := congrArg (fun q => q.testBit (placeN x)) h0
  simp [Nat.testBit_and, b1, b2] at this
 ·intro b hb
  simp [bset.setOf] at hb
def Cons (p : List Int) : Prop := ∀ x ∈ p, okB x = true ∧ -x ∉ p
theorem frc_cons {Ss : List Nat} (hS : ∀ S ∈ Ss, S < 2 ^ 48) (n : Nat) (p : List Int) (h : Cons p) : Cons (frc Ss n (setOf p) p).1 := by
 induction n generalizing p with
 | zero => exact h
 | succ n ih =>
  cases hok : (unitN Ss (setOf p)).2
  ·rw [wm.frc_stop hok]
   exact h
  ·by_cases h0 : (unitN Ss (setOf p)).1 = 0
   ·rw [wm.frc_end hok h0]
    exact h
   ·have un := wm.unit_new hS hok h0
    have hset : setOf (p ++ [(unitN Ss (setOf p)).1]) = withN (setOf p) (unitN Ss (setOf p)).1 := by rw [bset.setOf_snoc, un.1]; rfl
    rw [wm.frc_more hok h0, ← hset]
    generalize (unitN Ss (setOf p)).1 = u at *
    refine ih _ ?_
    have n1 : u ∉ p := fun hu => by
     have := setOf_has p u un.1
     rw [un.2.1] at this
     exact absurd hu (of_decide_eq_false this.symm)
    have n2 : -u ∉ p := fun hu => by
     have := setOf_has p (-u) (opp_ok un.1)
     rw [un.2.2] at this
     exact absurd hu (of_decide_eq_false this.symm)
    have hu0 := okB_iff.1 un.1
    intro x hx
    rw [List.mem_append, List.mem_singleton] at hx
    rcases hx with hx | rfl
    ·refine ⟨(h x hx).1, fun hn => ?_⟩
     rw [List.mem_append, List.mem_singleton] at hn
     rcases hn with hn | hn
     ·exact (h x hx).2 hn
     ·exact n2 (by rw [← hn, Int.neg_neg]; exact hx)
    ·refine ⟨un.1, fun hn => ?_⟩
     rw [List.mem_append, List.mem_singleton] at hn
     rcases hn with hn | hn
     ·exact n2 hn
     ·omega
def asgP (m : Nat) (P : List Int) : List Int := (List.range m).map fun (j : Nat) => if hasB P ((j : Int) + 1) then 1 else 0
theorem asgP_len (m : Nat) (P : List Int) : (asgP m P).length = m := by simp [asgP]
theorem asgP_bits (m : Nat) (P : List Int) : Bits m (asgP m P) := ⟨asgP_len m P, fun x hx => by
 unfold asgP at hx
 rw [List.mem_map] at hx
 obtain ⟨j, _, rfl⟩ := hx
 split
 ·exact .inr rfl
 ·exact .inl rfl⟩
theorem asgP_step (m : Nat) (P : List Int) (k : Nat) (h : k < m) : (asgP m P).take (k + 1) = (asgP m P).take k ++ [if hasB P ((k : Int) + 1) then 1 else 0] := by
 rw [List.take_succ_eq_append_getElem (by rw [asgP_len]; exact h)]
 simp [asgP]
theorem asgP_lit {m : Nat} {P : List Int} {x : Int} (h : litIn (m : Int) x = true) : litT (asgP m P) x = (hasB P (lits.varI x) == decide (0 < x)) := by
 have hx := lit_okB h
 have hk := okB_iff.1 hx
 unfold ok.litIn at h
 rw [Bool.and_eq_true, decide_eq_true_iff] at h
 have hv := h.2
 have h1 : 1 ≤ lits.varI x := by
  unfold lits.varI
  rw [hx, if_pos rfl]
  split <;> omega
 unfold tr.litT
 rw [if_neg (by omega), asgP_len, decide_eq_true hv, Bool.true_and]
 congr 1
 have hlt : (lits.varI x - 1).toNat < m := by omega
 have e : (asgP m P).getD (lits.varI x - 1).toNat 0 = if hasB P (lits.varI x) then 1 else 0 := by
  unfold asgP
  simp only [List.getD, List.getElem?_map, List.getElem?_range hlt, Option.map_some, Option.getD_some]
  have e2 : (((lits.varI x - 1).toNat : Nat) : Int) + 1 = lits.varI x := by omega
  rw [e2]
 rw [e]
 cases hasB P (lits.varI x) <;> simp
theorem pos_one {C : List Int} (h : posN C ≤ 1) {x y : Int} (hx : x ∈ C) (hy : y ∈ C) (h0 : 0 < x) (h1 : 0 < y) : x = y := by
 unfold gc.posN at h
 have a : x ∈ C.filter (fun x => decide (0 < x)) := List.mem_filter.2 ⟨hx, decide_eq_true h0⟩
 have b : y ∈ C.filter (fun x => decide (0 < x)) := List.mem_filter.2 ⟨hy, decide_eq_true h1⟩
 generalize C.filter (fun x => decide (0 < x)) = F at *
 match F, h with
 | [], _ => cases a
 | [z], _ =>
  rw [List.mem_singleton] at a b
  rw [a, b]
 | _ :: _ :: _, h => simp at h
theorem horn_true {m : Nat} {LL : List (List Int)} (hc : cnfB (m : Int) LL = true) (hh : LL.all oneB = true) (hf : (forceB (m : Int) (cnfS LL) []).2 = true) : cnfT (asgP m (forceB (m : Int) (cnfS LL) []).1) LL = true := by
 have hG := ms.cnfB_srt hc
 have hu : okU (m : Int) (cnfS LL) [] = true := by unfold wm.okU; rw [hG]; rfl
 have hF : forceB (m : Int) (cnfS LL) [] = frc ((cnfS LL).map setOf) 49 (setOf []) [] := by
  unfold wm.forceB
  rw [if_pos hu]
 have un := mq.frc_unit (wm.set_bd (cnfS LL)) 49 [] (by omega)
 have cons := frc_cons (wm.set_bd (cnfS LL)) 49 [] (fun x hx => by cases hx)
 rw [← hF] at un cons
 rw [hf] at un
 generalize hP : (forceB (m : Int) (cnfS LL) []).1 = P at *
 unfold tr.cnfT
 rw [List.all_eq_true]
 intro C hC
 cases hcl : clT (asgP m P) C
 ·exfalso
  have hin := ((fm.cnf_facts hc).2.2.2 C hC).2
  rw [List.all_eq_true] at hh
  have h1 := hh C hC
  unfold gc.oneB at h1
  have h1 := of_decide_eq_true h1
  have hbd := setOf_lt C
  have hok : srt.okTo (setOf C) 24 = true := by
   cases h : srt.okTo (setOf C) 24
   ·have := ms.clT_clash (asgP m P) h
    rw [hcl] at this
    cases this
   ·rfl
  have hS : setOf C ∈ (cnfS LL).map setOf := by
   rw [List.mem_map]
   exact ⟨srt.srt (setOf C) 48, cs.cnfS_mem.2 (ms.good_mem.2 ⟨C, hC, hok, rfl⟩), ms.setOf_srt hbd⟩
  -- no clause is single, none empty
  have hz : clauseN (setOf C) (setOf P) = 0 := by
   unfold wm.unitN at un
   split at un
   ·cases un
   ·rename_i hn
    have e := (Prod.mk.inj un).1
    unfold wm.firstN at e
    cases hq : (((cnfS LL).map setOf).map (clauseN · (setOf P))).find? (fun x => x != 0) with
    | none =>
     have := List.find?_eq_none.1 hq (clauseN (setOf C) (setOf P)) (List.mem_map.2 ⟨_, hS, rfl⟩)
     simpa using this
    | some y =>
     rw [hq] at e
     have := List.find?_some hq
     have e2 : y = 0 := e
     rw [e2] at this
     simp at this
  -- each literal of C is false
  have fl : ∀ x ∈ C, (hasB P (lits.varI x) == decide (0 < x)) = false := by
   intro x hx
   rw [← asgP_lit (hin x hx)]
   unfold tr.clT at hcl
   rw [List.any_eq_false] at hcl
   have := hcl x hx
   simpa using this
  have vpos : ∀ x : Int, okB x = true → 0 < x → lits.varI x = x := by
   intro x ho h0
   unfold lits.varI
   rw [ho, if_pos rfl, if_neg (by omega)]
  have vneg : ∀ x : Int, okB x = true → ¬ 0 < x → lits.varI x = -x := by
   intro x ho h0
   have := okB_iff.1 ho
   unfold lits.varI
   rw [ho, if_pos rfl, if_pos (by omega)]
  have posf : ∀ x ∈ C, 0 < x → x ∉ P := by
   intro x hx h0 hp
   have := fl x hx
   rw [vpos x (lit_okB (hin x hx)) h0, decide_eq_true h0] at this
   have h2 : hasB P x = true := decide_eq_true hp
   rw [h2] at this
   cases this
  have negf : ∀ x ∈ C, ¬ 0 < x → -x ∈ P := by
   intro x hx h0
   have := fl x hx
   rw [vneg x (lit_okB (hin x hx)) h0, decide_eq_false h0] at this
   cases h2 : hasB P (-x)
   ·rw [h2] at this
    cases this
   ·exact of_decide_eq_true h2
  have inC : ∀ b, (setOf C).testBit b = true → ∃ x ∈ C, placeN x = b := by
   intro b hb
   rw [setOf_bit, List.any_eq_true] at hb
   obtain ⟨x, hx, e⟩ := hb
   rw [Bool.and_eq_true, decide_eq_true_iff] at e
   exact ⟨x, hx, e.2⟩
  have hcd : clsd (setOf C) (setOf P) = false := by
   rw [wm.clsd_no]
   rintro b ⟨hb1, hb2⟩
   obtain ⟨x, hx, rfl⟩ := inC b hb1
   rw [setOf_has P x (lit_okB (hin x hx))] at hb2
   have hp : x ∈ P := of_decide_eq_true hb2
   by_cases h0 : 0 < x
   ·exact posf x hx h0 hp
   ·exact (cons x hp).2 (negf x hx h0)
  have opn_in : ∀ b, (opn (setOf C) (setOf P)).testBit b = true → ∃ x ∈ C, placeN x = b ∧ 0 < x := by
   intro b hb
   rw [wm.opn_bit _ _ _ hbd, Bool.and_eq_true] at hb
   obtain ⟨x, hx, rfl⟩ := inC b hb.1
   refine ⟨x, hx, rfl, ?_⟩
   by_cases h0 : 0 < x
   ·exact h0
   ·have ho := lit_okB (hin x hx)
    have h3 := hb.2
    rw [swp_place ho, setOf_has P (-x) (opp_ok ho)] at h3
    have : hasB P (-x) = true := decide_eq_true (negf x hx h0)
    rw [this] at h3
    cases h3
  by_cases ho : opn (setOf C) (setOf P) = 0
  ·rw [wm.clauseN_empty hcd ho] at hz
   cases hz
  ·have hol : opn (setOf C) (setOf P) < 2 ^ 48 := srt.andN_lt _ _ hbd
   have hw := (wm.one_iff hol ho).2 (fun a b ha hb => by
    obtain ⟨x, hx, rfl, x0⟩ := opn_in a ha
    obtain ⟨y, hy, rfl, y0⟩ := opn_in b hb
    rw [pos_one h1 hx hy x0 y0])
   rw [wm.clauseN_one hcd ho hw] at hz
   have := okB_iff.1 (wm.fst_spec (Nat.pos_of_ne_zero ho) hol).1
   omega
 ·rfl
theorem horn_sat {m : Nat} {LL : List (List Int)} (hc : cnfB (m : Int) LL = true) (hh : LL.all oneB = true) : (solveL (m : Int) LL []).isSome = (forceB (m : Int) (cnfS LL) []).2 := by
 have hs : solveL (m : Int) LL [] = lst m (holds LL []) := by
  unfold lq.solveL
  rw [hc]
  simp
 have hh2 : ∀ A, holds LL [] A = cnfT A LL := fun A => by unfold lq.holds; simp
 rw [hs]
 cases hf : (forceB (m : Int) (cnfS LL) []).2
 ·cases hl : lst m (holds LL []) with
  | none => rfl
  | some l =>
   have h1 := (lst_some hl).2
   rw [hh2, ← ms.cnfT_srt l hc] at h1
   rw [force_fine (ms.cnfB_srt hc) h1] at hf
   cases hf
 ·cases hl : lst m (holds LL []) with
  | none =>
   have h1 := lst_none.1 hl _ (asgP_bits m (forceB (m : Int) (cnfS LL) []).1)
   rw [hh2, horn_true hc hh hf] at h1
   cases h1
  | some l => rfl
end Go.Proofs.YtibpnocpafppaaaDoor.eo
