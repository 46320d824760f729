/- Plain mathematics: the least assignment that makes a formula true and some literals with it; the model's search for it, step by step. -/
import Derived.Test.YtfhmdpbnnieohaaDoorJPn
import Derived.Test.YtfhmdpbnnieohaaDoorJPc
import Derived.Deep.QuietTactic
import Derived.BigQuiet
import Derived.Test.YtfhmdpbnnieohaaDoorJXTl
namespace Go.Proofs.YtfhmdpbnnieohaaDoor.lq
open lits (okB varI okB_iff varI_yes)
open cls (hasB)
open ok (cnfB clB litIn)
open tr (litT clT cnfT bitB)
open as_ (litAt)
set_option linter.unusedVariables false
def lst : Nat → (List Int → Bool) → Option (List Int)
 | 0, p => if p [] then some [] else none
 | m + 1, p => match lst m (fun l => p (0 :: l)) with
  | some l => some (0 :: l)
  | none => (lst m (fun l => p (1 :: l))).map (1 :: ·)
def Bits (m : Nat) (l : List Int) : Prop := l.length = m ∧ ∀ x ∈ l, x = 0 ∨ x = 1
theorem bits_nil {l : List Int} (h : Bits 0 l) : l = [] := List.eq_nil_of_length_eq_zero h.1
theorem bits_cons {m : Nat} {x : Int} {l : List Int} (hx : x = 0 ∨ x = 1) (h : Bits m l) : Bits (m + 1) (x :: l) := ⟨by rw [List.length_cons, h.1], fun y hy => by
 rcases List.mem_cons.1 hy with rfl | hy
 ·exact hx
 ·exact h.2 y hy⟩
theorem bits_app {m k : Nat} {a b : List Int} (ha : Bits m a) (hb : Bits k b) : Bits (m + k) (a ++ b) := ⟨by rw [List.length_append, ha.1, hb.1], fun y hy => by
 rcases List.mem_append.1 hy with hy | hy
 ·exact ha.2 y hy
 ·exact hb.2 y hy⟩
theorem bits_split {m : Nat} {l : List Int} (h : Bits (m + 1) l) : ∃ x r, l = x :: r ∧ (x = 0 ∨ x = 1) ∧ Bits m r := by
 cases l with
 | nil => cases h.1
 | cons x r => exact ⟨x, r, rfl, h.2 x List.mem_cons_self, by have := h.1; rw [List.length_cons] at this; omega, fun y hy => h.2 y (List.mem_cons_of_mem _ hy)⟩
theorem lst_none {m : Nat} : ∀ {p : List Int → Bool}, lst m p = none ↔ ∀ l, Bits m l → p l = false := by
 induction m with
 | zero =>
  intro p
  unfold lst
  constructor
  ·intro h l hl
   rw [bits_nil hl]
   cases hp : p [] with
   | false => rfl
   | true => rw [hp] at h; cases h
  ·intro h
   rw [h [] ⟨rfl, fun x hx => by cases hx⟩]
   rfl
 | succ m ih =>
  intro p
  unfold lst
  constructor
  ·intro h l hl
   cases h0 : lst m (fun l => p (0 :: l)) with
   | some r => rw [h0] at h; cases h
   | none =>
    rw [h0] at h
    cases h1 : lst m (fun l => p (1 :: l)) with
    | some r => rw [h1] at h; cases h
    | none =>
     obtain ⟨x, r, rfl, hx, hr⟩ := bits_split hl
     rcases hx with rfl | rfl
     ·exact ih.1 h0 r hr
     ·exact ih.1 h1 r hr
  ·intro h
   rw [ih.2 (fun l hl => h _ (bits_cons (.inl rfl) hl)), ih.2 (fun l hl => h _ (bits_cons (.inr rfl) hl))]
   rfl
theorem lst_some {m : Nat} : ∀ {p : List Int → Bool} {l : List Int}, lst m p = some l → Bits m l ∧ p l = true := by
 induction m with
 | zero =>
  intro p l h
  unfold lst at h
  cases hp : p [] with
  | false => rw [hp] at h; cases h
  | true =>
   rw [hp] at h
   cases h
   exact ⟨⟨rfl, fun x hx => by cases hx⟩, hp⟩
 | succ m ih =>
  intro p l h
  unfold lst at h
  cases h0 : lst m (fun l => p (0 :: l)) with
  | some r =>
   rw [h0] at h
   cases h
   exact ⟨bits_cons (.inl rfl) (ih h0).1, (ih h0).2⟩
  | none =>
   rw [h0] at h
   cases h1 : lst m (fun l => p (1 :: l)) with
   | none => rw [h1] at h; cases h
   | some r =>
    rw [h1] at h
    cases h
    exact ⟨bits_cons (.inr rfl) (ih h1).1, (ih h1).2⟩
theorem litT_neg {A : List Int} {x : Int} (hx : okB x = true) : litT A (-x) = !litT A x := by
 obtain ⟨h0, h1, h2⟩ := okB_iff.1 hx
 have hx' : okB (-x) = true := okB_iff.2 ⟨by omega, by omega, by omega⟩
 have e : varI (-x) = varI x := by
  rw [varI_yes (okB_iff.1 hx), varI_yes (okB_iff.1 hx')]
  split <;> split <;> omega
 have hv : varI x ≠ 0 := by
  rw [varI_yes (okB_iff.1 hx)]
  split <;> omega
 unfold tr.litT
 rw [e, if_neg hv, if_neg hv]
 have ed : decide (0 < -x) = !decide (0 < x) := by
  by_cases h : 0 < x
  ·rw [decide_eq_true h, decide_eq_false (by omega)]
   rfl
  ·rw [decide_eq_false h, decide_eq_true (by omega)]
   rfl
 rw [ed]
 cases (decide (varI x ≤ (A.length : Int)) && decide (A.getD (varI x - 1).toNat 0 = 1)) <;> cases decide (0 < x) <;> rfl
theorem litT_pos {A : List Int} {i : Nat} (hi : i < A.length) (h24 : i < 24) : litT A ((i : Int) + 1) = decide (A.getD i 0 = 1) := by
 have e : varI ((i : Int) + 1) = (i : Int) + 1 := by
  rw [varI_yes ⟨by omega, by omega, by omega⟩, if_neg (by omega)]
 unfold tr.litT
 rw [e, if_neg (by omega), decide_eq_true (show ((i : Int) + 1) ≤ (A.length : Int) by omega), decide_eq_true (show (0 : Int) < (i : Int) + 1 by omega), show ((i : Int) + 1 - 1).toNat = i by omega]
 cases decide (A.getD i 0 = 1) <;> rfl
theorem ok_place {i : Nat} (h24 : i < 24) : okB ((i : Int) + 1) = true := okB_iff.2 ⟨by omega, by omega, by omega⟩
theorem litT_at {A : List Int} {i : Nat} {x : Int} (hi : i < A.length) (h24 : i < 24) (hx : x = 0 ∨ x = 1) (hA : A.getD i 0 = 0 ∨ A.getD i 0 = 1) : litT A (litAt i x) = decide (A.getD i 0 = x) := by
 unfold as_.litAt
 rcases hx with rfl | rfl
 ·rw [if_neg (by decide), show -(i : Int) - 1 = -((i : Int) + 1) by omega, litT_neg (ok_place h24), litT_pos hi h24]
  rcases hA with h | h <;> rw [h] <;> rfl
 ·rw [if_pos rfl, litT_pos hi h24]
def holds (LL : List (List Int)) (a A : List Int) : Bool := cnfT A LL && a.all (litT A)
theorem getD_app {pre l : List Int} : (pre ++ l).getD pre.length 0 = l.getD 0 0 := by
 rw [List.getD, List.getElem?_append_right (Nat.le_refl _), Nat.sub_self]
 rfl
theorem getD_pre {pre l : List Int} {j : Nat} (h : j < pre.length) : (pre ++ l).getD j 0 = pre.getD j 0 := by
 simp [List.getD, List.getElem?_append_left h]
structure Ahead (n : Nat) (a pre : List Int) : Prop where
 n24 : n ≤ 24
 len : pre.length ≤ n
 bit : ∀ x ∈ pre, x = 0 ∨ x = 1
 has : ∀ j, j < pre.length → hasB a (litAt j (pre.getD j 0)) = true
 lit : ∀ x ∈ a, litIn (n : Int) x = true
 no : ∀ x ∈ a, hasB a (-x) = false
theorem litIn_parts {n x : Int} (h : litIn n x = true) : okB x = true ∧ varI x ≤ n := by
 unfold ok.litIn at h
 rw [Bool.and_eq_true, decide_eq_true_iff] at h
 exact h
def solveL (n : Int) (LL : List (List Int)) (a : List Int) : Option (List Int) := if cnfB n LL && a.all (litIn n) then lst n.toNat (holds LL a) else none
end Go.Proofs.YtfhmdpbnnieohaaDoor.lq
