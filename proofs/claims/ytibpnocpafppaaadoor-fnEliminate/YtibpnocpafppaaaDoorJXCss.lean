/- Slices of slices of integers in memory, as the walks here speak of them, and what the small helpers on them (a size, a copy, an equality, marks) do; no condition but that the lists together have at most 2^20 elements. -/
import Derived.Test.YtibpnocpafppaaaDoorJXSl
namespace Go.Proofs.YtibpnocpafppaaaDoor.css
open Go.ChangeShapes Go.WideShapes Go.ChangeAt Go.RowKit
open sl (Sl Own ints hide unhide ret_int ret_bool grown_refl grown_trans grown_drewN below_of of_below)
set_option linter.unusedVariables false
def Sls (w : World) (v : Value) (LL : List (List Int)) : Prop :=
 ∃ a cap, v = .slice a LL.length cap ∧ (LL = [] ∨ ∃ b off, a = some ⟨b, off, none⟩ ∧ b < w.heap.size ∧ ∀ i, i < LL.length → ∃ u, w.cell? ⟨b, off + i, none⟩ = some u ∧ Sl w u (LL.getD i []))
theorem Sls.kept {w w' : World} {v : Value} {LL : List (List Int)} (h : Sls w v LL) (g : w.grownBy w' none) : Sls w' v LL := by
 obtain ⟨a, cap, rfl, h⟩ := h
 refine ⟨a, cap, rfl, ?_⟩
 rcases h with h | ⟨b, off, rfl, hb, hc⟩
 ·exact .inl h
 ·refine .inr ⟨b, off, rfl, Nat.lt_of_lt_of_le hb g.size, fun i hi => ?_⟩
  obtain ⟨u, hu, hs⟩ := hc i hi
  exact ⟨u, g.cell hu (fun e => by cases e), hs.kept g (.inl rfl)⟩
def Apart (a b : Value × List Int) : Prop := ∀ g, a.1.ownBlock = some g → b.1.ownBlock ≠ some g
def OwnS (lo hi : Nat) (w : World) (v : Value) (LL : List (List Int)) : Prop :=
 ∃ D : List (Value × List Int), D.map (·.2) = LL ∧ w.ownsRow lo 31 1 v D.length (D.map (·.1)) ∧ (∀ k, v.ownBlock = some k → k < hi) ∧ (∀ p ∈ D, Own lo hi w p.1 p.2) ∧ D.Pairwise Apart
structure Outs (lo hi : Nat) (w w' : World) : Prop where
 os : w'.os = w.os
 tape : w'.tape = w.tape
 output : w'.output = w.output
 size : w.heap.size ≤ w'.heap.size
 block : ∀ k, k < w.heap.size → (k < lo ∨ hi ≤ k) → w'.heap[k]? = w.heap[k]?
theorem own_mono {w : World} {base base' : Nat} {e : TypeId} {size : Nat} {v : Value} {n : Nat} {xs : List Value} (h : w.ownsRow base e size v n xs) (hb : base' ≤ base) : w.ownsRow base' e size v n xs := by
 obtain ⟨h1, h2⟩ := h
 refine ⟨h1, ?_⟩
 rcases h2 with h2 | ⟨g, cap, cur, hv, hg, r⟩
 ·exact .inl h2
 ·exact .inr ⟨g, cap, cur, hv, Nat.le_trans hb hg, r⟩
theorem own_kind {w : World} {B : Nat} {e : TypeId} {size : Nat} {v : Value} {n : Nat} {xs : List Value} (h : w.ownsRow B e size v n xs) : ∀ g, v.ownBlock = some g → ∃ c fz, w.heap[g]? = some (.cells c e fz) := by
 intro g e'
 obtain ⟨_, h2⟩ := h
 rcases h2 with ⟨rfl, _⟩ | ⟨g', cap, cur, rfl, hg, hh, _⟩
 ·cases e'
 ·cases e'
  exact ⟨_, _, hh⟩
theorem types_ne : (31 : Nat) ≠ 3 := by decide
theorem own_ne {w : World} {lo lo' n n' : Nat} {v v' : Value} {xs xs' : List Value} (h : w.ownsRow lo 31 1 v n xs) (h' : w.ownsRow lo' 3 1 v' n' xs') : ∀ g, v'.ownBlock = some g → v.ownBlock ≠ some g := by
 intro g e e'
 obtain ⟨c, fz, hc⟩ := own_kind h g e'
 obtain ⟨c', fz', hc'⟩ := own_kind h' g e
 rw [hc] at hc'
 simp only [Option.some.injEq, Obj.cells.injEq] at hc'
 exact types_ne hc'.2.1
theorem own_ne' {w : World} {lo lo' n n' : Nat} {v v' : Value} {xs xs' : List Value} (h : w.ownsRow lo 31 1 v n xs) (h' : w.ownsRow lo' 3 1 v' n' xs') : v'.ownBlock = none ∨ v'.ownBlock ≠ v.ownBlock := by
 cases e : v'.ownBlock with
 | none => exact .inl rfl
 | some g => exact .inr (fun e' => own_ne h h' g e e'.symm)
theorem own_sub {lo lo' hi hi' : Nat} {w : World} {v : Value} {L : List Int} (h : Own lo hi w v L) (a : lo' ≤ lo) (b : hi ≤ hi') : Own lo' hi' w v L :=
 ⟨own_mono h.1 a, fun k e => Nat.lt_of_lt_of_le (h.2 k e) b⟩
theorem OwnS.sub {lo lo' hi hi' : Nat} {w : World} {v : Value} {LL : List (List Int)} (h : OwnS lo hi w v LL) (a : lo' ≤ lo) (b : hi ≤ hi') : OwnS lo' hi' w v LL := by
 obtain ⟨D, e, ho, hb, hi, hp⟩ := h
 exact ⟨D, e, own_mono ho a, fun k e => Nat.lt_of_lt_of_le (hb k e) b, fun p hp => own_sub (hi p hp) a b, hp⟩
theorem OwnS.kept {lo hi : Nat} {w w' : World} {v : Value} {LL : List (List Int)} (h : OwnS lo hi w v LL) (g : w.grownBy w' none) : OwnS lo hi w' v LL := by
 obtain ⟨D, e, ho, hb, hi, hp⟩ := h
 refine ⟨D, e, ho.kept g ?_, hb, fun p hp => (hi p hp).kept g, hp⟩
 cases v.ownBlock with
 | none => exact .inl rfl
 | some k => exact .inr (fun e => by cases e)
theorem outs_by {lo hi : Nat} {w w' : World} {r : Option Nat} (g : w.grownBy w' r) (h : ∀ k, r = some k → lo ≤ k ∧ k < hi) : Outs lo hi w w' :=
 ⟨g.os, g.tape, g.output, g.size, fun k hk d => g.block k hk (fun e => by have := h k e.symm; omega)⟩
theorem map2_getD {D : List (Value × List Int)} {i : Nat} (h : i < D.length) : (D.map (·.2)).getD i [] = D[i].2 := by simp [h]
theorem OwnS.sls {lo hi : Nat} {w : World} {v : Value} {LL : List (List Int)} (h : OwnS lo hi w v LL) : Sls w v LL := by
 obtain ⟨D, rfl, ho, hb, hi, hp⟩ := h
 have ho' := ho
 obtain ⟨_, h2⟩ := ho
 rcases h2 with ⟨rfl, h0⟩ | ⟨g, cap, cur, rfl, hg, hh, hn, hm, hs, ht⟩
 ·have : D = [] := List.eq_nil_of_length_eq_zero h0
  subst this
  exact ⟨none, 0, rfl, .inl rfl⟩
 ·refine ⟨some ⟨g, 0, none⟩, cap, by rw [List.length_map], .inr ⟨g, 0, rfl, (Array.getElem?_eq_some_iff.1 hh).1, fun i hi' => ?_⟩⟩
  rw [List.length_map] at hi'
  refine ⟨D[i].1, ?_, ?_⟩
  ·rw [Nat.zero_add, ho'.cellAt i (by omega)]
   simp [hi']
  ·rw [map2_getD hi']
   exact (hi _ (List.getElem_mem hi')).sl
theorem OwnS.len {lo hi : Nat} {w : World} {v : Value} {LL : List (List Int)} (h : OwnS lo hi w v LL) : ∃ a cap, v = .slice a LL.length cap := by
 obtain ⟨a, cap, e, _⟩ := h.sls
 exact ⟨a, cap, e⟩
theorem infoSl : (Tryd.prog.info? 31).map (fun i => (i.zero, i.size, i.bytes)) = some (some (.slice none 0 0), 1, 24) := by kernel_rfl
theorem take_snoc (LL : List (List Int)) (k : Nat) (h : k < LL.length) : LL.take (k + 1) = LL.take k ++ [LL.getD k []] := by
 rw [List.take_succ_eq_append_getElem h]
 simp [h]
def tot (LL : List (List Int)) : Nat := LL.length + (LL.map List.length).sum
theorem tot_len (LL : List (List Int)) : LL.length ≤ tot LL := Nat.le_add_right _ _
theorem sum_in (l : List (List Int)) (i : Nat) : (l.getD i []).length ≤ (l.map List.length).sum := by
 induction l generalizing i with
 | nil => simp
 | cons x l ih =>
  cases i with
  | zero => simp
  | succ i =>
   have := ih i
   simp at *
   omega
theorem tot_in (LL : List (List Int)) (i : Nat) : (LL.getD i []).length ≤ tot LL := Nat.le_trans (sum_in LL i) (Nat.le_add_left _ _)
end Go.Proofs.YtibpnocpafppaaaDoor.css
