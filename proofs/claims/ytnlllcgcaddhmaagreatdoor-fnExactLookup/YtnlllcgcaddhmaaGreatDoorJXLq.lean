/- Plain mathematics: the least assignment that makes a formula true and some literals with it; the model's search for it, step by step. -/
import Derived.Test.YtnlllcgcaddhmaaGreatDoorJXL4
import Derived.Test.YtnlllcgcaddhmaaGreatDoorJXTl
namespace Go.Proofs.YtnlllcgcaddhmaaGreatDoor.lq
open lits (okB varI okB_iff varI_yes)
open cls (hasB)
open ok (cnfB clB litIn)
open tr (litT clT cnfT)
open as_ (litAt)
open l4 (emptyB openB)
set_option linter.unusedVariables false
def lst : Nat → (List Int → Bool) → Option (List Int)
 | 0, p => if p [] then some [] else none
 | m + 1, p => match lst m (fun l => p (0 :: l)) with
  | some l => some (0 :: l)
  | none => (lst m (fun l => p (1 :: l))).map (1 :: ·)
def Bits (m : Nat) (l : List Int) : Prop := l.length = m ∧ ∀ x ∈ l, x = 0 ∨ x = 1
theorem bits_nil {l : List Int} (h : Bits 0 l) : l = [] := List.eq_nil_of_length_eq_zero h.1
theorem bits_cons {m : Nat} {x : Int} {l : List Int} (hx : x = 0 ∨ x = 1) (h : Bits m l) : Bits (m + 1) (x :: l) := ⟨by rw [List.length_cons, h.1], fun y hy => by
 rcases List.mem_cons.1 hy with rfl | hy
 ·exact hx
 ·exact h.2 y hy⟩
theorem bits_app {m k : Nat} {a b : List Int} (ha : Bits m a) (hb : Bits k b) : Bits (m + k) (a ++ b) := ⟨by rw [List.length_append, ha.1, hb.1], fun y hy => by
 rcases List.mem_append.1 hy with hy | hy
 ·exact ha.2 y hy
 ·exact hb.2 y hy⟩
theorem bits_split {m : Nat} {l : List Int} (h : Bits (m + 1) l) : ∃ x r, l = x :: r ∧ (x = 0 ∨ x = 1) ∧ Bits m r := by
 cases l with
 | nil => cases h.1
 | cons x r => exact ⟨x, r, rfl, h.2 x List.mem_cons_self, by have := h.1; rw [List.length_cons] at this; omega, fun y hy => h.2 y (List.mem_cons_of_mem _ hy)⟩
theorem lst_congr {m : Nat} : ∀ {p q : List Int → Bool}, (∀ l, Bits m l → p l = q l) → lst m p = lst m q := by
 induction m with
 | zero =>
  intro p q h
  unfold lst
  rw [h [] ⟨rfl, fun x hx => by cases hx⟩]
 | succ m ih =>
  intro p q h
  unfold lst
  rw [ih (p := fun l => p (0 :: l)) (q := fun l => q (0 :: l)) (fun l hl => h _ (bits_cons (.inl rfl) hl)), ih (p := fun l => p (1 :: l)) (q := fun l => q (1 :: l)) (fun l hl => h _ (bits_cons (.inr rfl) hl))]
theorem lst_none {m : Nat} : ∀ {p : List Int → Bool}, lst m p = none ↔ ∀ l, Bits m l → p l = false := by
 induction m with
 | zero =>
  intro p
  unfold lst
  constructor
  ·intro h l hl
   rw [bits_nil hl]
   cases hp : p [] with
   | false => rfl
   | true => rw [hp] at h; cases h
  ·intro h
   rw [h [] ⟨rfl, fun x hx => by cases hx⟩]
   rfl
 | succ m ih =>
  intro p
  unfold lst
  constructor
  ·intro h l hl
   cases h0 : lst m (fun l => p (0 :: l)) with
   | some r => rw [h0] at h; cases h
   | none =>
    rw [h0] at h
    cases h1 : lst m (fun l => p (1 :: l)) with
    | some r => rw [h1] at h; cases h
    | none =>
     obtain ⟨x, r, rfl, hx, hr⟩ := bits_split hl
     rcases hx with rfl | rfl
     ·exact ih.1 h0 r hr
     ·exact ih.1 h1 r hr
  ·intro h
   rw [ih.2 (fun l hl => h _ (bits_cons (.inl rfl) hl)), ih.2 (fun l hl => h _ (bits_cons (.inr rfl) hl))]
   rfl
theorem lst_some {m : Nat} : ∀ {p : List Int → Bool} {l : List Int}, lst m p = some l → Bits m l ∧ p l = true := by
 induction m with
 | zero =>
  intro p l h
  unfold lst at h
  cases hp : p [] with
  | false => rw [hp] at h; cases h
  | true =>
   rw [hp] at h
   cases h
   exact ⟨⟨rfl, fun x hx => by cases hx⟩, hp⟩
 | succ m ih =>
  intro p l h
  unfold lst at h
  cases h0 : lst m (fun l => p (0 :: l)) with
  | some r =>
   rw [h0] at h
   cases h
   exact ⟨bits_cons (.inl rfl) (ih h0).1, (ih h0).2⟩
  | none =>
   rw [h0] at h
   cases h1 : lst m (fun l => p (1 :: l)) with
   | none => rw [h1] at h; cases h
   | some r =>
    rw [h1] at h
    cases h
    exact ⟨bits_cons (.inr rfl) (ih h1).1, (ih h1).2⟩
theorem litT_neg {A : List Int} {x : Int} (hx : okB x = true) : litT A (-x) = !litT A x := by
 obtain ⟨h0, h1, h2⟩ := okB_iff.1 hx
 have hx' : okB (-x) = true := okB_iff.2 ⟨by omega, by omega, by omega⟩
 have e : varI (-x) = varI x := by
  rw [varI_yes (okB_iff.1 hx), varI_yes (okB_iff.1 hx')]
  split <;> split <;> omega
 have hv : varI x ≠ 0 := by
  rw [varI_yes (okB_iff.1 hx)]
  split <;> omega
 unfold tr.litT
 rw [e, if_neg hv, if_neg hv]
 have ed : decide (0 < -x) = !decide (0 < x) := by
  by_cases h : 0 < x
  ·rw [decide_eq_true h, decide_eq_false (by omega)]
   rfl
  ·rw [decide_eq_false h, decide_eq_true (by omega)]
   rfl
 rw [ed]
 cases (decide (varI x ≤ (A.length : Int)) && decide (A.getD (varI x - 1).toNat 0 = 1)) <;> cases decide (0 < x) <;> rfl
theorem litT_pos {A : List Int} {i : Nat} (hi : i < A.length) (h24 : i < 24) : litT A ((i : Int) + 1) = decide (A.getD i 0 = 1) := by
 have e : varI ((i : Int) + 1) = (i : Int) + 1 := by
  rw [varI_yes ⟨by omega, by omega, by omega⟩, if_neg (by omega)]
 unfold tr.litT
 rw [e, if_neg (by omega), decide_eq_true (show ((i : Int) + 1) ≤ (A.length : Int) by omega), decide_eq_true (show (0 : Int) < (i : Int) + 1 by omega), show ((i : Int) + 1 - 1).toNat = i by omega]
 cases decide (A.getD i 0 = 1) <;> rfl
theorem ok_place {i : Nat} (h24 : i < 24) : okB ((i : Int) + 1) = true := okB_iff.2 ⟨by omega, by omega, by omega⟩
theorem litT_at {A : List Int} {i : Nat} {x : Int} (hi : i < A.length) (h24 : i < 24) (hx : x = 0 ∨ x = 1) (hA : A.getD i 0 = 0 ∨ A.getD i 0 = 1) : litT A (litAt i x) = decide (A.getD i 0 = x) := by
 unfold as_.litAt
 rcases hx with rfl | rfl
 ·rw [if_neg (by decide), show -(i : Int) - 1 = -((i : Int) + 1) by omega, litT_neg (ok_place h24), litT_pos hi h24]
  rcases hA with h | h <;> rw [h] <;> rfl
 ·rw [if_pos rfl, litT_pos hi h24]
def holds (LL : List (List Int)) (a A : List Int) : Bool := cnfT A LL && a.all (litT A)
theorem holds_lit {LL : List (List Int)} {a A : List Int} (h : holds LL a A = true) {x : Int} (hx : x ∈ a) : litT A x = true := by
 unfold holds at h
 rw [Bool.and_eq_true, List.all_eq_true] at h
 exact h.2 x hx
theorem getD_app {pre l : List Int} : (pre ++ l).getD pre.length 0 = l.getD 0 0 := by
 rw [List.getD, List.getElem?_append_right (Nat.le_refl _), Nat.sub_self]
 rfl
theorem getD_pre {pre l : List Int} {j : Nat} (h : j < pre.length) : (pre ++ l).getD j 0 = pre.getD j 0 := by
 simp [List.getD, List.getElem?_append_left h]
structure Ahead (n : Nat) (a pre : List Int) : Prop where
 n24 : n ≤ 24
 len : pre.length ≤ n
 bit : ∀ x ∈ pre, x = 0 ∨ x = 1
 has : ∀ j, j < pre.length → hasB a (litAt j (pre.getD j 0)) = true
 lit : ∀ x ∈ a, litIn (n : Int) x = true
 no : ∀ x ∈ a, hasB a (-x) = false
theorem litIn_parts {n x : Int} (h : litIn n x = true) : okB x = true ∧ varI x ≤ n := by
 unfold ok.litIn at h
 rw [Bool.and_eq_true, decide_eq_true_iff] at h
 exact h
theorem not_open {n : Nat} {LL : List (List Int)} {a pre : List Int} (h : Ahead n a pre) (hc : ∀ c ∈ LL, ∀ x ∈ c, okB x = true) (ho : openB LL a = false) (A : List Int) : holds LL a A = false := by
 unfold l4.openB at ho
 obtain ⟨c, hcL, he⟩ := List.all_eq_false.1 ho
 have he : emptyB a c = true := by
  cases q : emptyB a c with
  | true => rfl
  | false => rw [q] at he; exact absurd rfl he
 cases hh : holds LL a A with
 | false => rfl
 | true =>
  exfalso
  have hT : clT A c = true := by
   unfold holds at hh
   rw [Bool.and_eq_true] at hh
   exact List.all_eq_true.1 hh.1 c hcL
  unfold tr.clT at hT
  obtain ⟨x, hx, hxT⟩ := List.any_eq_true.1 hT
  unfold l4.emptyB at he
  rw [Bool.and_eq_true, List.all_eq_true] at he
  have h1 := holds_lit hh (of_decide_eq_true (he.1 x hx))
  rw [litT_neg (hc c hcL x hx), hxT] at h1
  cases h1
def rest (n : Nat) (LL : List (List Int)) (a pre : List Int) : Option (List Int) := (lst (n - pre.length) (fun l => holds LL a (pre ++ l))).map (pre ++ ·)
theorem rest_none {n : Nat} {LL : List (List Int)} {a pre : List Int} (h : Ahead n a pre) (hc : ∀ c ∈ LL, ∀ x ∈ c, okB x = true) (ho : openB LL a = false) : rest n LL a pre = none := by
 unfold rest
 rw [lst_none.2 (fun l _ => not_open h hc ho _)]
 rfl
theorem pre_lit {pre l : List Int} {x y : Int} (hp : pre.length < 24) (hx : x = 0 ∨ x = 1) (hy : y = 0 ∨ y = 1) : litT (pre ++ y :: l) (litAt pre.length x) = decide (y = x) := by
 have e : (pre ++ y :: l).getD pre.length 0 = y := by rw [getD_app]; rfl
 rw [litT_at (by simp) hp hx (by rw [e]; exact hy), e]
theorem lit_no {n : Nat} {a pre : List Int} (h : Ahead n a pre) {i : Nat} (hi : i < 24) {x y : Int} (hx : x = 0 ∨ x = 1) (hy : y = 0 ∨ y = 1) (hxy : x ≠ y) (ha : hasB a (litAt i x) = true) : hasB a (litAt i y) = false := by
 have := h.no _ (of_decide_eq_true ha)
 have e : -litAt i x = litAt i y := by
  unfold as_.litAt
  rcases hx with rfl | rfl <;> rcases hy with rfl | rfl
  ·exact absurd rfl hxy
  ·rw [if_neg (by decide), if_pos rfl]; omega
  ·rw [if_pos rfl, if_neg (by decide)]; omega
  ·exact absurd rfl hxy
 rw [e] at this
 exact this
theorem rest_cons {n : Nat} {LL : List (List Int)} {a a' pre : List Int} (hl : pre.length < n) (x : Int) (hx : x = 0 ∨ x = 1) (hq : ∀ l, Bits (n - pre.length - 1) l → holds LL a (pre ++ x :: l) = holds LL a' (pre ++ x :: l)) :
  (lst (n - pre.length - 1) (fun l => holds LL a (pre ++ x :: l))).map (fun l => pre ++ x :: l) = rest n LL a' (pre ++ [x]) := by
 unfold rest
 rw [List.length_append, List.length_singleton, show n - (pre.length + 1) = n - pre.length - 1 by omega]
 have e : (fun l => holds LL a' (pre ++ [x] ++ l)) = fun l => holds LL a' (pre ++ x :: l) := funext fun l => by rw [List.append_assoc]; rfl
 rw [e, lst_congr hq]
 cases lst (n - pre.length - 1) (fun l => holds LL a' (pre ++ x :: l)) with
 | none => rfl
 | some l => simp
theorem rest_two {n : Nat} {LL : List (List Int)} {a pre : List Int} (hl : pre.length < n) : rest n LL a pre = match (lst (n - pre.length - 1) (fun l => holds LL a (pre ++ 0 :: l))).map (fun l => pre ++ 0 :: l) with
  | some r => some r
  | none => (lst (n - pre.length - 1) (fun l => holds LL a (pre ++ 1 :: l))).map (fun l => pre ++ 1 :: l) := by
 unfold rest
 obtain ⟨m, hm⟩ : ∃ m, n - pre.length = m + 1 := ⟨n - pre.length - 1, by omega⟩
 rw [hm, Nat.add_sub_cancel]
 show Option.map _ (match lst m (fun l => holds LL a (pre ++ 0 :: l)) with
  | some l => some (0 :: l)
  | none => (lst m (fun l => holds LL a (pre ++ 1 :: l))).map (1 :: ·)) = _
 cases lst m (fun l => holds LL a (pre ++ 0 :: l)) with
 | some r => rfl
 | none =>
  cases lst m (fun l => holds LL a (pre ++ 1 :: l)) with
  | none => rfl
  | some r => rfl
theorem rest_skip {n : Nat} {LL : List (List Int)} {a pre : List Int} (h : Ahead n a pre) (hl : pre.length < n) {x : Int} (hx : x = 0 ∨ x = 1) (ha : hasB a (litAt pre.length x) = true) : rest n LL a pre = rest n LL a (pre ++ [x]) ∧ Ahead n a (pre ++ [x]) := by
 have h24 : pre.length < 24 := Nat.lt_of_lt_of_le hl h.n24
 have other : ∀ y, (y = 0 ∨ y = 1) → y ≠ x → lst (n - pre.length - 1) (fun l => holds LL a (pre ++ y :: l)) = none := fun y hy hyx => lst_none.2 (fun l _ => by
  cases hh : holds LL a (pre ++ y :: l) with
  | false => rfl
  | true =>
   have := holds_lit hh (of_decide_eq_true ha)
   rw [pre_lit h24 hx hy, decide_eq_true_iff] at this
   exact absurd this hyx)
 refine ⟨?_, h.n24, ?_, ?_, ?_, h.lit, h.no⟩
 ·rw [rest_two hl, ← rest_cons (a := a) hl x hx (fun _ _ => rfl)]
  rcases hx with rfl | rfl
  ·rw [other 1 (.inr rfl) (by decide)]
   cases (lst (n - pre.length - 1) (fun l => holds LL a (pre ++ 0 :: l))) <;> rfl
  ·rw [other 0 (.inl rfl) (by decide)]
   rfl
 ·rw [List.length_append, List.length_singleton]
  omega
 ·intro y hy
  rcases List.mem_append.1 hy with hy | hy
  ·exact h.bit y hy
  ·rw [List.mem_singleton] at hy
   rw [hy]
   exact hx
 ·intro j hj
  rw [List.length_append, List.length_singleton] at hj
  by_cases hjl : j < pre.length
  ·rw [getD_pre hjl]
   exact h.has j hjl
  ·have : j = pre.length := by omega
   subst this
   rw [getD_app]
   exact ha
theorem has_snoc (a : List Int) (y x : Int) : hasB (a ++ [y]) x = (hasB a x || decide (x = y)) := by
 unfold cls.hasB
 rw [Bool.eq_iff_iff, decide_eq_true_iff, Bool.or_eq_true, decide_eq_true_iff, decide_eq_true_iff, List.mem_append, List.mem_singleton]
theorem ahead_snoc {n : Nat} {a pre : List Int} (h : Ahead n a pre) (hl : pre.length < n) {x : Int} (hx : x = 0 ∨ x = 1) (h0 : hasB a (litAt pre.length 0) = false) (h1 : hasB a (litAt pre.length 1) = false) : Ahead n (a ++ [litAt pre.length x]) (pre ++ [x]) := by
 have h24 : pre.length < 24 := Nat.lt_of_lt_of_le hl h.n24
 have lo : okB (litAt pre.length x) = true ∧ varI (litAt pre.length x) = (pre.length : Int) + 1 := by
  unfold as_.litAt
  rcases hx with rfl | rfl
  ·rw [if_neg (by decide)]
   have : okB (-(pre.length : Int) - 1) = true := okB_iff.2 ⟨by omega, by omega, by omega⟩
   refine ⟨this, ?_⟩
   rw [varI_yes (okB_iff.1 this), if_pos (by omega)]
   omega
  ·rw [if_pos rfl]
   have : okB ((pre.length : Int) + 1) = true := okB_iff.2 ⟨by omega, by omega, by omega⟩
   refine ⟨this, ?_⟩
   rw [varI_yes (okB_iff.1 this), if_neg (by omega)]
 have hneg : ∀ y, -litAt pre.length x = y → hasB a y = false := by
  intro y hy
  rw [← hy]
  unfold as_.litAt at *
  rcases hx with rfl | rfl
  ·rw [if_neg (by decide)]
   rw [if_pos rfl] at h1
   rw [show -(-(pre.length : Int) - 1) = (pre.length : Int) + 1 by omega]
   exact h1
  ·rw [if_pos rfl]
   rw [if_neg (by decide)] at h0
   rw [show -((pre.length : Int) + 1) = -(pre.length : Int) - 1 by omega]
   exact h0
 refine ⟨h.n24, ?_, ?_, ?_, ?_, ?_⟩
 ·rw [List.length_append, List.length_singleton]
  omega
 ·intro y hy
  rcases List.mem_append.1 hy with hy | hy
  ·exact h.bit y hy
  ·rw [List.mem_singleton] at hy
   rw [hy]
   exact hx
 ·intro j hj
  rw [List.length_append, List.length_singleton] at hj
  rw [has_snoc]
  by_cases hjl : j < pre.length
  ·rw [getD_pre hjl, h.has j hjl]
   rfl
  ·have : j = pre.length := by omega
   subst this
   rw [getD_app]
   show (_ || decide (litAt pre.length x = litAt pre.length x)) = true
   rw [decide_eq_true rfl, Bool.or_true]
 ·intro y hy
  rcases List.mem_append.1 hy with hy | hy
  ·exact h.lit y hy
  ·rw [List.mem_singleton] at hy
   rw [hy]
   unfold ok.litIn
   rw [lo.1, lo.2, decide_eq_true (by omega)]
   rfl
 ·intro y hy
  rw [has_snoc, Bool.or_eq_false_iff]
  rcases List.mem_append.1 hy with hy | hy
  ·refine ⟨h.no y hy, decide_eq_false (fun e => ?_)⟩
   have h2 := hneg y (by omega)
   rw [show hasB a y = true from decide_eq_true hy] at h2
   cases h2
  ·rw [List.mem_singleton] at hy
   subst hy
   refine ⟨hneg _ rfl, decide_eq_false (fun e => ?_)⟩
   obtain ⟨q, _⟩ := okB_iff.1 lo.1
   omega
theorem rest_branch {n : Nat} {LL : List (List Int)} {a pre : List Int} (h : Ahead n a pre) (hl : pre.length < n) : rest n LL a pre = match rest n LL (a ++ [litAt pre.length 0]) (pre ++ [0]) with
  | some r => some r
  | none => rest n LL (a ++ [litAt pre.length 1]) (pre ++ [1]) := by
 have h24 : pre.length < 24 := Nat.lt_of_lt_of_le hl h.n24
 have same : ∀ x, (x = 0 ∨ x = 1) → ∀ l, holds LL a (pre ++ x :: l) = holds LL (a ++ [litAt pre.length x]) (pre ++ x :: l) := fun x hx l => by
  unfold holds
  rw [List.all_append]
  simp only [List.all_cons, List.all_nil, Bool.and_true]
  rw [pre_lit h24 hx hx, decide_eq_true rfl, Bool.and_true]
 rw [rest_two hl, rest_cons hl 0 (.inl rfl) (fun l _ => same 0 (.inl rfl) l), rest_cons hl 1 (.inr rfl) (fun l _ => same 1 (.inr rfl) l)]
theorem rest_end {n : Nat} {LL : List (List Int)} {a pre : List Int} (h : Ahead n a pre) (hl : pre.length = n) (hc : ∀ c ∈ LL, ∀ x ∈ c, litIn (n : Int) x = true) (ho : openB LL a = true) : rest n LL a pre = some pre := by
 have inv : ∀ x, litIn (n : Int) x = true → hasB a x = litT pre x := fun x hx => by
  obtain ⟨ok, hv⟩ := litIn_parts hx
  obtain ⟨b0, b1, b2⟩ := okB_iff.1 ok
  rw [varI_yes (okB_iff.1 ok)] at hv
  obtain ⟨j, y, hj, hy, rfl⟩ : ∃ (j : Nat) (y : Int), j < n ∧ (y = 0 ∨ y = 1) ∧ litAt j y = x := by
   by_cases hneg : x < 0
   ·rw [if_pos hneg] at hv
    refine ⟨(-x - 1).toNat, 0, by omega, .inl rfl, ?_⟩
    unfold as_.litAt
    rw [if_neg (by decide)]
    omega
   ·rw [if_neg hneg] at hv
    refine ⟨(x - 1).toNat, 1, by omega, .inr rfl, ?_⟩
    unfold as_.litAt
    rw [if_pos rfl]
    omega
  have hjl : j < pre.length := by omega
  have hb : pre.getD j 0 = 0 ∨ pre.getD j 0 = 1 := by
   rw [show pre.getD j 0 = pre[j] by simp [hjl]]
   exact h.bit _ (List.getElem_mem hjl)
  have hn24 := h.n24
  rw [litT_at hjl (by omega) hy hb]
  by_cases e : pre.getD j 0 = y
  ·rw [decide_eq_true e, ← e]
   exact h.has j hjl
  ·rw [decide_eq_false e]
   exact lit_no h (by omega) hb hy e (h.has j hjl)
 have hh : holds LL a pre = true := by
  unfold holds
  rw [Bool.and_eq_true]
  constructor
  ·unfold tr.cnfT
   rw [List.all_eq_true]
   intro c hcL
   have he : emptyB a c = false := by
    unfold l4.openB at ho
    have := List.all_eq_true.1 ho c hcL
    cases q : emptyB a c with
    | false => rfl
    | true => rw [q] at this; cases this
   unfold tr.clT
   cases q : c.any (litT pre) with
   | true => rfl
   | false =>
    exfalso
    have hall : ∀ x ∈ c, litT pre x = false := fun x hx => by
     cases z : litT pre x with
     | false => rfl
     | true => rw [List.any_eq_true.2 ⟨x, hx, z⟩] at q; cases q
    have hin := hc c hcL
    have : emptyB a c = true := l4.em_none (by
     cases z : c.any (hasB a) with
     | false => rfl
     | true =>
      obtain ⟨x, hx, hxa⟩ := List.any_eq_true.1 z
      rw [inv x (hin x hx), hall x hx] at hxa
      cases hxa) (fun x hx => by
     obtain ⟨okx, hv⟩ := litIn_parts (hin x hx)
     have hneg : litIn (n : Int) (-x) = true := by
      obtain ⟨b0, b1, b2⟩ := okB_iff.1 okx
      have okn : okB (-x) = true := okB_iff.2 ⟨by omega, by omega, by omega⟩
      unfold ok.litIn
      rw [okn, Bool.true_and, decide_eq_true_iff, varI_yes (okB_iff.1 okn)]
      rw [varI_yes (okB_iff.1 okx)] at hv
      split at hv <;> split <;> omega
     rw [inv (-x) hneg, litT_neg okx, hall x hx]
     rfl)
    rw [he] at this
    cases this
  ·rw [List.all_eq_true]
   intro x hx
   rw [← inv x (h.lit x hx)]
   exact decide_eq_true hx
 unfold rest
 rw [hl, Nat.sub_self]
 unfold lst
 show Option.map _ (if holds LL a (pre ++ []) = true then _ else _) = _
 rw [List.append_nil, if_pos hh]
 simp
theorem out_end {n : Nat} {a pre : List Int} (h : Ahead n a pre) {j : Nat} (hj : j < pre.length) : pre.getD j 0 = if hasB a ((j : Int) + 1) then 1 else 0 := by
 have h24 : j < 24 := Nat.lt_of_lt_of_le hj (Nat.le_trans h.len h.n24)
 have hb : pre.getD j 0 = 0 ∨ pre.getD j 0 = 1 := by
  rw [show pre.getD j 0 = pre[j] by simp [hj]]
  exact h.bit _ (List.getElem_mem hj)
 have hs := h.has j hj
 rcases hb with e | e
 ·rw [e] at hs
  have := lit_no h h24 (x := 0) (y := 1) (.inl rfl) (.inr rfl) (by decide) hs
  rw [e]
  unfold as_.litAt at this
  rw [if_pos rfl] at this
  rw [this]
  rfl
 ·rw [e] at hs ⊢
  unfold as_.litAt at hs
  rw [if_pos rfl] at hs
  rw [hs]
  rfl
def solveL (n : Int) (LL : List (List Int)) (a : List Int) : Option (List Int) := if cnfB n LL && a.all (litIn n) then lst n.toNat (holds LL a) else none
end Go.Proofs.YtnlllcgcaddhmaaGreatDoor.lq
