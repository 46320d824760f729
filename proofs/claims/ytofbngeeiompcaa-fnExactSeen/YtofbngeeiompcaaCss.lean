/- Slices of slices of integers in memory, as the walks here speak of them, and what the small helpers on them (a size, a copy, an equality, marks) do; no condition but that the lists together have at most 2^20 elements. -/
import Derived.Test.YtofbngeeiompcaaSl
namespace Go.Proofs.Ytofbngeeiompcaa.css
open Go.ChangeShapes Go.WideShapes Go.ChangeAt Go.RowKit
open Go.Proofs.Ytofbngeeiompcaa.sl (Sl Own ints marks hide unhide ret_int ret_bool grown_refl grown_trans grown_drewN below_of of_below)
set_option linter.unusedVariables false

/-- the slice value v reads as the list of lists LL -/
def Sls (w : World) (v : Value) (LL : List (List Int)) : Prop :=
  ∃ a cap, v = .slice a LL.length cap ∧ (LL = [] ∨ ∃ b off, a = some ⟨b, off, none⟩ ∧ b < w.heap.size ∧ ∀ i, i < LL.length → ∃ u, w.cell? ⟨b, off + i, none⟩ = some u ∧ Sl w u (LL.getD i []))
theorem Sls.kept {w w' : World} {v : Value} {LL : List (List Int)} (h : Sls w v LL) (g : w.grownBy w' none) : Sls w' v LL := by
  obtain ⟨a, cap, rfl, h⟩ := h
  refine ⟨a, cap, rfl, ?_⟩
  rcases h with h | ⟨b, off, rfl, hb, hc⟩
  · exact .inl h
  · refine .inr ⟨b, off, rfl, Nat.lt_of_lt_of_le hb g.size, fun i hi => ?_⟩
    obtain ⟨u, hu, hs⟩ := hc i hi
    exact ⟨u, g.cell hu (fun e => by cases e), hs.kept g (.inl rfl)⟩
theorem Sls.below {w w' : World} {v : Value} {LL : List (List Int)} (h : Sls w v LL) (b : Below w.heap.size w w') : Sls w' v LL := h.kept (of_below b)

/-- two slices that lie in different blocks -/
def Apart (a b : Value × List Int) : Prop := ∀ g, a.1.ownBlock = some g → b.1.ownBlock ≠ some g
/-- outside of the blocks from lo to hi the world is as it was -/
structure Outs (lo hi : Nat) (w w' : World) : Prop where
  os : w'.os = w.os
  tape : w'.tape = w.tape
  output : w'.output = w.output
  size : w.heap.size ≤ w'.heap.size
  block : ∀ k, k < w.heap.size → (k < lo ∨ hi ≤ k) → w'.heap[k]? = w.heap[k]?

theorem own_mono {w : World} {base base' : Nat} {e : TypeId} {size : Nat} {v : Value} {n : Nat} {xs : List Value} (h : w.ownsRow base e size v n xs) (hb : base' ≤ base) : w.ownsRow base' e size v n xs := by
  obtain ⟨h1, h2⟩ := h
  refine ⟨h1, ?_⟩
  rcases h2 with h2 | ⟨g, cap, cur, hv, hg, r⟩
  · exact .inl h2
  · exact .inr ⟨g, cap, cur, hv, Nat.le_trans hb hg, r⟩
theorem own_kind {w : World} {B : Nat} {e : TypeId} {size : Nat} {v : Value} {n : Nat} {xs : List Value} (h : w.ownsRow B e size v n xs) : ∀ g, v.ownBlock = some g → ∃ c fz, w.heap[g]? = some (.cells c e fz) := by
  intro g e'
  obtain ⟨_, h2⟩ := h
  rcases h2 with ⟨rfl, _⟩ | ⟨g', cap, cur, rfl, hg, hh, _⟩
  · cases e'
  · cases e'
    exact ⟨_, _, hh⟩
theorem own_sub {lo lo' hi hi' : Nat} {w : World} {v : Value} {L : List Int} (h : Own lo hi w v L) (a : lo' ≤ lo) (b : hi ≤ hi') : Own lo' hi' w v L :=
  ⟨own_mono h.1 a, fun k e => Nat.lt_of_lt_of_le (h.2 k e) b⟩
/-- what lies in other blocks stays -/
theorem row_outs {lo hi lo' hi' n : Nat} {t : TypeId} {w w' : World} {v : Value} {xs : List Value} (h : w.ownsRow lo t 1 v n xs) (hb : ∀ k, v.ownBlock = some k → k < hi) (g : Outs lo' hi' w w') (d : hi ≤ lo' ∨ hi' ≤ lo) : w'.ownsRow lo t 1 v n xs := by
  have h' := h
  obtain ⟨h1, h2⟩ := h
  refine ⟨h1, ?_⟩
  rcases h2 with h2 | ⟨b, cap, cur, rfl, hg, hh, r⟩
  · exact .inl h2
  · refine .inr ⟨b, cap, cur, rfl, hg, ?_, r⟩
    have l1 := h'.lt b rfl
    have l2 := hb b rfl
    rw [g.block b l1.2 (by omega)]
    exact hh
theorem own_outs {lo hi lo' hi' : Nat} {w w' : World} {v : Value} {L : List Int} (h : Own lo hi w v L) (g : Outs lo' hi' w w') (d : hi ≤ lo' ∨ hi' ≤ lo) : Own lo hi w' v L :=
  ⟨row_outs h.1 h.2 g d, h.2⟩
theorem below_outs {a w w' : World} {lo hi : Nat} (b : Below a.heap.size a w) (hlo : a.heap.size ≤ lo) (g : Outs lo hi w w') : Below a.heap.size a w' :=
  ⟨g.os.trans b.os, g.tape.trans b.tape, g.output.trans b.output, Nat.le_trans b.size g.size, fun k hk => (g.block k (Nat.lt_of_lt_of_le hk b.size) (.inl (by omega))).trans (b.block k hk)⟩
theorem outs_none {lo hi : Nat} {w w' : World} (g : w.grownBy w' none) : Outs lo hi w w' := ⟨g.os, g.tape, g.output, g.size, fun k hk _ => g.block k hk (fun e => by cases e)⟩
theorem outs_by {lo hi : Nat} {w w' : World} {r : Option Nat} (g : w.grownBy w' r) (h : ∀ k, r = some k → lo ≤ k ∧ k < hi) : Outs lo hi w w' :=
  ⟨g.os, g.tape, g.output, g.size, fun k hk d => g.block k hk (fun e => by have := h k e.symm; omega)⟩
theorem outs_trans {lo hi : Nat} {a b c : World} (h : Outs lo hi a b) (k : Outs lo hi b c) : Outs lo hi a c :=
  ⟨k.os.trans h.os, k.tape.trans h.tape, k.output.trans h.output, Nat.le_trans h.size k.size, fun i hi d => (k.block i (Nat.lt_of_lt_of_le hi h.size) d).trans (h.block i hi d)⟩
theorem outs_refl (lo hi : Nat) (w : World) : Outs lo hi w w := ⟨rfl, rfl, rfl, Nat.le_refl _, fun _ _ _ => rfl⟩
theorem outs_sub {lo hi lo' hi' : Nat} {w w' : World} (h : Outs lo hi w w') (a : lo' ≤ lo) (b : hi ≤ hi') : Outs lo' hi' w w' :=
  ⟨h.os, h.tape, h.output, h.size, fun k hk d => h.block k hk (by omega)⟩

theorem map2_getD {D : List (Value × List Int)} {i : Nat} (h : i < D.length) : (D.map (·.2)).getD i [] = D[i].2 := by simp [h]
theorem take_snoc (LL : List (List Int)) (k : Nat) (h : k < LL.length) : LL.take (k + 1) = LL.take k ++ [LL.getD k []] := by
  rw [List.take_succ_eq_append_getElem h]
  simp [h]

/-- how many values a list of lists holds, each list counted too -/
def tot (LL : List (List Int)) : Nat := LL.length + (LL.map List.length).sum
def used (LL : List (List Int)) (k : Nat) : Nat := LL.length + ((LL.take k).map List.length).sum
theorem used_step (LL : List (List Int)) (k : Nat) (h : k < LL.length) : used LL (k + 1) = used LL k + (LL.getD k []).length := by
  unfold used
  rw [take_snoc LL k h]
  simp [Nat.add_assoc]
theorem used_all (LL : List (List Int)) (k : Nat) (h : ¬ k < LL.length) : used LL k = tot LL := by
  unfold used tot
  rw [List.take_of_length_le (by omega)]
theorem tot_len (LL : List (List Int)) : LL.length ≤ tot LL := Nat.le_add_right _ _
theorem sum_in (l : List (List Int)) (i : Nat) : (l.getD i []).length ≤ (l.map List.length).sum := by
  induction l generalizing i with
  | nil => simp
  | cons x l ih =>
    cases i with
    | zero => simp
    | succ i =>
      have := ih i
      simp at *
      omega
theorem tot_in (LL : List (List Int)) (i : Nat) : (LL.getD i []).length ≤ tot LL := Nat.le_trans (sum_in LL i) (Nat.le_add_left _ _)

theorem Sl.drewN {w : World} {v : Value} {L : List Int} (h : Sl w v L) (n : Nat) : Sl (w.drewN n) v L := h.kept (grown_drewN w n) (.inl rfl)

/-- the marks of a list of lists, one behind the other -/
def marksS (k : Int) : List (List Int) → List (List Int)
  | [] => []
  | L :: l => marks k L.length :: marksS (k + (L.length : Int)) l
def sumLen (LL : List (List Int)) : Nat := (LL.map List.length).sum
theorem marksS_length (k : Int) (LL : List (List Int)) : (marksS k LL).length = LL.length := by
  induction LL generalizing k with
  | nil => rfl
  | cons L l ih => simp [marksS, ih]
theorem marksS_append (k : Int) (A B : List (List Int)) : marksS k (A ++ B) = marksS k A ++ marksS (k + (sumLen A : Int)) B := by
  induction A generalizing k with
  | nil => simp [marksS, sumLen]
  | cons L l ih =>
    rw [List.cons_append, marksS, marksS, ih, List.cons_append]
    congr 3
    simp only [sumLen, List.map_cons, List.sum_cons]
    omega
theorem marksS_one (k : Int) (L : List Int) : marksS k [L] = [marks k L.length] := rfl
theorem sumLen_snoc (A : List (List Int)) (L : List Int) : sumLen (A ++ [L]) = sumLen A + L.length := by simp [sumLen]
theorem sumLen_take (LL : List (List Int)) (k : Nat) : sumLen (LL.take k) ≤ sumLen LL := by
  have e : sumLen LL = sumLen (LL.take k) + sumLen (LL.drop k) := by
    conv => lhs; rw [← List.take_append_drop k LL]
    unfold sumLen
    rw [List.map_append, List.sum_append]
  omega
theorem marksS_getD (k : Int) (LL : List (List Int)) (i : Nat) (h : i < LL.length) : (marksS k LL).getD i [] = marks (k + (sumLen (LL.take i) : Int)) (LL.getD i []).length := by
  induction LL generalizing k i with
  | nil => simp at h
  | cons L l ih =>
    cases i with
    | zero => simp [marksS, sumLen]
    | succ i =>
      have := ih (k + (L.length : Int)) i (by simpa using h)
      rw [marksS, List.getD_cons_succ, this, List.getD_cons_succ, List.take_succ_cons]
      congr 1
      simp only [sumLen, List.map_cons, List.sum_cons]
      omega
theorem marksS_sum (k : Int) (LL : List (List Int)) : sumLen (marksS k LL) = sumLen LL := by
  induction LL generalizing k with
  | nil => rfl
  | cons L l ih =>
    have := ih (k + (L.length : Int))
    simp [sumLen, marksS, sl.marks_length] at *
    exact this
theorem sumLen_le (LL : List (List Int)) : sumLen LL ≤ tot LL := Nat.le_add_left _ _

end Go.Proofs.Ytofbngeeiompcaa.css
